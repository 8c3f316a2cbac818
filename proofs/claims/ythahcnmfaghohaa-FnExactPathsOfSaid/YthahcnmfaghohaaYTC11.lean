/- Merged texts. -/
import Derived.Test.YthahcnmfaghohaaYTC1
import Derived.Test.YthahcnmfaghohaaYTC10
import Derived.Test.YthahcnmfaghohaaYTC7
import Derived.Deep.QuietTactic
import Derived.Test.YthahcnmfaghohaaYTC4
/- Contracts: steps on grounds, the rows of sums (program): addNumber, has, goDown, goLevel, goUp, moves, spread. -/
namespace Go.Proofs.Ythahcnmfaghohaa
open Go.RowKit
set_option linter.unusedVariables false
set_option linter.unusedSimpArgs false

/-- weights of a ground modulo p: products with numbers less than p are small -/
structure GW (p : Int) (A B : List Int) : Prop where
  lo : 2 ≤ p
  hi : p ≤ 1099511627776
  a0 : ∀ j, 0 ≤ A.getD j 0 ∧ A.getD j 0 * p ≤ 1152921504606846976
  b0 : ∀ j, 0 ≤ B.getD j 0 ∧ B.getD j 0 * p ≤ 1152921504606846976
theorem gwM {p x y : Int} (h : 0 ≤ x ∧ x * p ≤ 1152921504606846976) (h0 : 0 ≤ y) (h1 : y < p) : 0 ≤ x * y ∧ x * y ≤ 1152921504606846976 := by
  refine ⟨Int.mul_nonneg h.1 h0, ?_⟩
  have := Int.mul_le_mul_of_nonneg_left (show y ≤ p by omega) h.1
  omega
theorem fr_be {w w1 : World} {b o : Nat} {v : Value} (t : Below w.heap.size w w1) (h : w.cell? ⟨b, o, none⟩ = some v) (hf : w.frozen? ⟨b, o, none⟩ = false) : w1.frozen? ⟨b, o, none⟩ = false := (t.frozen (World.block_lt_of_cell? _ _ h)).trans hf
theorem addNumber_w (p s k x : Int) (w : World) (hp : 2 ≤ p) (hs : 0 ≤ s) (hs2 : s ≤ 1152921504606846976) (hk : 0 ≤ k * x) (hk2 : k * x ≤ 1152921504606846976) :
    Calls Try.prog 72 #[.int .i64 p, .int .i64 s, .int .i64 k, .int .i64 x] w fun e w' => e = .returned (.int .i64 ((s + k * x) % p)) ∧ w = w' := by
  go_enter Try.func72, Try.ntmps72
  go_wp2
  go_ret
  exact ⟨rfl, rfl⟩
theorem addNumber_b (p s k x : Int) (w : World) (hp : 2 ≤ p) (hs : 0 ≤ s) (hs2 : s ≤ 1152921504606846976) (hk : 0 ≤ k * x) (hk2 : k * x ≤ 1152921504606846976) :
    Calls Try.prog 72 #[.int .i64 p, .int .i64 s, .int .i64 k, .int .i64 x] w fun e w' => e = .returned (.int .i64 ((s + k * x) % p)) ∧ Below w.heap.size w w' :=
  (addNumber_w p s k x w hp hs hs2 hk hk2).mono fun _ _ h => ⟨h.1, h.2 ▸ Below.refl _ _⟩
theorem has_t (p : Int) (a : Option Addr) (n c : Nat) (b : Option Addr) (m d : Nat) (h : Int) (w : World) (hn : n ≤ 4000000) (h0 : 0 ≤ h) (h1 : h < (n : Int)) :
    Calls Try.prog 46 #[jac p a n c b m d, .int .i64 h] w fun e w' => e = .returned (.bool true) ∧ Below w.heap.size w w' := by
  go_enter Try.func46, Try.ntmps46
  go_wp2
  go_ret
  exact ⟨rfl, bl1 _ _⟩
theorem has_f (p : Int) (a : Option Addr) (n c : Nat) (b : Option Addr) (m d : Nat) (h : Int) (w : World) (hn : n ≤ 4000000) (h0 : ¬ (0 ≤ h ∧ h < (n : Int))) :
    Calls Try.prog 46 #[jac p a n c b m d, .int .i64 h] w fun e w' => e = .returned (.bool false) ∧ Below w.heap.size w w' := by
  by_cases h1 : 0 ≤ h
  · have h2 : ¬ h < (n : Int) := fun e => h0 ⟨h1, e⟩
    clear h0
    go_enter Try.func46, Try.ntmps46
    go_wp2
    go_ret
    exact ⟨rfl, bl1 _ _⟩
  · clear h0
    go_enter Try.func46, Try.ntmps46
    go_wp2
    go_ret
    exact ⟨rfl, bl1 _ _⟩
theorem goUp_any (p : Int) (a : Option Addr) (n c : Nat) (b : Option Addr) (m d : Nat) (h : Int) (w : World) (h0 : 0 ≤ h) (h1 : h ≤ 4000000) :
    Calls Try.prog 65 #[jac p a n c b m d, .int .i64 h] w fun e w' => e = .returned (.tuple #[.int .i64 (h + 1), .int .i64 1]) ∧ Below w.heap.size w w' := by
  have v1 : IntKind.i64.wrap (h + 1) = h + 1 := IntWalk.i64_in _ (by omega)
  go_enter Try.func65, Try.ntmps65
  go_wp2
  go_ret2
  exact ⟨rfl, bl1 _ _⟩
set_option maxHeartbeats 800000 in
theorem goLevel_any (p : Int) (a : Option Addr) (n c : Nat) (A : List Int) (b : Option Addr) (m d : Nat) (h : Nat) (w : World) (hs : SL w a n c A) (h1 : h < n) (hn : n ≤ 4000000) :
    Calls Try.prog 64 #[jac p a n c b m d, .int .i64 h] w fun e w' => e = .returned (.tuple #[.int .i64 h, .int .i64 (A.getD h 0)]) ∧ Below w.heap.size w w' := by
  obtain ⟨g, o, rfl, hg, hc⟩ := hs.at (by omega)
  have hb0 := bl1 w (.cells #[.int .i64 p, .slice (some ⟨g, o, none⟩) n c, .slice b m d] 52)
  have e1 := cell_be hb0 (hc h h1)
  obtain ⟨x, hx⟩ : ∃ x, A.getD h 0 = x := ⟨_, rfl⟩
  rw [hx] at e1 ⊢
  have q1 : (h : Int) < (n : Int) := by omega
  have q0 : (0 : Int) ≤ (h : Int) := by omega
  clear hc hs hx
  go_enter Try.func64, Try.ntmps64
  go_wp2
  go_quiet (fail)
  go_wp2
  go_ret2
  exact ⟨rfl, below_drewN hb0 _⟩
set_option maxHeartbeats 800000 in
theorem goDown_any (p : Int) (a : Option Addr) (n c : Nat) (B : List Int) (b : Option Addr) (m d : Nat) (h : Nat) (w : World) (hs : SL w b m d B) (h1 : h < m) (hn : m ≤ 4000000) :
    Calls Try.prog 63 #[jac p a n c b m d, .int .i64 h] w fun e w' => e = .returned (.tuple #[.int .i64 ((h : Int) - 1), .int .i64 (B.getD h 0)]) ∧ Below w.heap.size w w' := by
  obtain ⟨g, o, rfl, hg, hc⟩ := hs.at (by omega)
  have hb0 := bl1 w (.cells #[.int .i64 p, .slice a n c, .slice (some ⟨g, o, none⟩) m d] 52)
  have e1 := cell_be hb0 (hc h h1)
  obtain ⟨x, hx⟩ : ∃ x, B.getD h 0 = x := ⟨_, rfl⟩
  rw [hx] at e1 ⊢
  have q1 : (h : Int) < (m : Int) := by omega
  have q0 : (0 : Int) ≤ (h : Int) := by omega
  have v1 : IntKind.i64.wrap ((h : Int) - 1) = (h : Int) - 1 := IntWalk.i64_in _ (by omega)
  clear hc hs hx
  go_enter Try.func63, Try.ntmps63
  go_wp2
  go_quiet (fail)
  go_wp2
  go_ret2
  exact ⟨rfl, below_drewN hb0 _⟩
theorem moves_any (w : World) :
    Calls Try.prog 53 #[] w fun e w' => e = .returned (.agg #[.func (.func 63) #[] #[], .func (.func 64) #[] #[], .func (.func 65) #[] #[]]) ∧ Below w.heap.size w w' := by
  go_enter Try.func53, Try.ntmps53
  go_wp2
  refine bodyPost_ret (v := .agg #[.func (.func 63) #[] #[], .func (.func 64) #[] #[], .func (.func 65) #[] #[]]) (by simp [results, Try.results53, go_sem]) rfl ⟨rfl, ?_⟩
  exact bl1 _ _
theorem ad_at (p : Int) (row : List Int) (t : Nat) (x R : Int) (hR : row.getD t 0 = R) : row.set t ((R + x) % p) = addAt p row t x := by unfold addAt; rw [hR]
theorem run_idx0 (x y z : Value) (w : World) : (Instr.index 79 (.agg #[x, y, z]) (.int .i64 0)).run Try.prog w = .ok x w := by kernel_rfl
theorem run_idx1 (x y z : Value) (w : World) : (Instr.index 79 (.agg #[x, y, z]) (.int .i64 1)).run Try.prog w = .ok y w := by kernel_rfl
theorem run_idx2 (x y z : Value) (w : World) : (Instr.index 79 (.agg #[x, y, z]) (.int .i64 2)).run Try.prog w = .ok z w := by kernel_rfl
/-- the row behind k of the three steps from h -/
def midP (p : Int) (A B v row : List Int) (h k : Nat) : List Int :=
  if k = 0 then row else if k = 1 then rndD p B v row h else if k = 2 then addAt p (rndD p B v row h) h (A.getD h 0 * v.getD h 0) else rndP p A B v row h
theorem midP_0 (p : Int) (A B v row : List Int) (h : Nat) : midP p A B v row h 0 = row := rfl
theorem midP_1 (p : Int) (A B v row : List Int) (h : Nat) : midP p A B v row h 1 = rndD p B v row h := rfl
theorem midP_2 (p : Int) (A B v row : List Int) (h : Nat) : midP p A B v row h 2 = addAt p (rndD p B v row h) h (A.getD h 0 * v.getD h 0) := rfl
theorem midP_3 (p : Int) (A B v row : List Int) (h : Nat) : midP p A B v row h 3 = rndP p A B v row h := rfl
theorem midP_len (p : Int) (A B v row : List Int) (h k : Nat) : (midP p A B v row h k).length = row.length := by
  unfold midP
  split
  · rfl
  · split
    · exact rndD_len _ _ _ _ _
    · split
      · rw [addAt_len, rndD_len]
      · exact rndP_len _ _ _ _ _ _
theorem midP_rng {p : Int} (hp : 2 ≤ p) {A B v row : List Int} (hr : rngL p row) (h k : Nat) : rngL p (midP p A B v row h k) := by
  unfold midP
  split
  · exact hr
  · split
    · exact rndD_rng hp B v hr h
    · split
      · exact rngL_add hp (rndD_rng hp B v hr h) _ _
      · exact rndP_rng hp A B v hr h
set_option maxRecDepth 100000 in
set_option maxHeartbeats 3200000 in
theorem spread_any (p : Int) (a : Option Addr) (n c : Nat) (A : List Int) (b : Option Addr) (d : Nat) (B : List Int) (s : Option Addr) (cs : Nat) (v : List Int) (w : World)
    (hA : SL w a n c A) (hB : SL w b n d B) (hV : SL w s n cs v) (hn : n ≤ 1000) (hG : GW p A B) (hv : rngL p v) :
    Calls Try.prog 71 #[jac p a n c b n d, .slice s n cs] w fun e w' => ∃ a', e = .returned (.slice a' n n) ∧ Own w.heap.size w' a' n (sprP p A B v) ∧ Below w.heap.size w w' := by
  have HG := hide hG
  have Hv := hide hv
  have hlV := hide hV.len
  have hb0 := bl1 w (.cells #[.int .i64 p, .slice a n c, .slice b n d] 52)
  have f0 : (w.alloc (.cells #[.int .i64 p, .slice a n c, .slice b n d] 52)).cell? ⟨w.heap.size, 0, none⟩ = some (.int .i64 p) := by simp [go_sem]
  have f1 : (w.alloc (.cells #[.int .i64 p, .slice a n c, .slice b n d] 52)).cell? ⟨w.heap.size, 1, none⟩ = some (.slice a n c) := by simp [go_sem]
  have f2 : (w.alloc (.cells #[.int .i64 p, .slice a n c, .slice b n d] 52)).cell? ⟨w.heap.size, 2, none⟩ = some (.slice b n d) := by simp [go_sem]
  clear hG hv
  go_enter Try.func71, Try.ntmps71
  go_wp2_with (at_make; refine wp_make rfl _ _ rfl _ _ n rfl rfl rfl rfl (by omega) ?_; intro w1 hrow hb hsz; have hB1 := bnext hb0 hb; have g0 := cell_be hb f0; have g1 := cell_be hb f1; have g2 := cell_be hb f2)
  have hz1 : w.heap.size + 1 < w1.heap.size := by simpa using hsz
  have hR0 : Hid (RowI w1 (w.heap.size + 1) (rndsP p A B v 0)) := hide (by have t := hrow.out; rw [rndsP, hlV.out]; simpa using t)
  have G0 := hide (And.intro g0 (And.intro g1 g2))
  clear hrow hb hsz f0 f1 f2 hb0 g0 g1 g2
  go_loopw [17] (fun iv wr => ∃ h : Nat, h ≤ n ∧ iv = .int .i64 h ∧ Hid (RowI wr (w.heap.size + 1) (rndsP p A B v h)) ∧ Hid (wr.cell? ⟨w.heap.size, 0, none⟩ = some (.int .i64 p) ∧ wr.cell? ⟨w.heap.size, 1, none⟩ = some (.slice a n c) ∧ wr.cell? ⟨w.heap.size, 2, none⟩ = some (.slice b n d)) ∧ Below w.heap.size w wr ∧ w.heap.size + 1 < wr.heap.size) (fun iv _ => n - (intOf iv).toNat)
  case atStart => exact ⟨0, by omega, rfl, hR0, G0, hB1, hz1⟩
  case round =>
    obtain ⟨h, hh, rfl, hR, hG0, hBr, hzr⟩ := hrel
    clear hR0 G0 hB1 hz1
    by_cases hlt : h < n
    · have hlt' : (h : Int) < (n : Int) := by omega
      obtain ⟨bv, ov, rfl, hbv, hcv⟩ := hV.at (by omega)
      have e1 := cell_be hBr (hcv h hlt)
      have hX := Hv.out h
      obtain ⟨X, hXX⟩ : ∃ X, v.getD h 0 = X := ⟨_, rfl⟩
      rw [hXX] at e1 hX
      have HX := hide hXX
      clear hcv hXX
      go_wp2_with fail
      refine (moves_any _).mono ?_
      rintro e w3 ⟨rfl, hb3⟩
      have hz3 : w.heap.size + 1 < w3.heap.size := by have := hb3.size; omega
      have hR3 : Hid (RowI w3 (w.heap.size + 1) (midP p A B v (rndsP p A B v h) h 0)) := hide (by have t := hR.out.next hb3; simpa [midP] using t)
      have hG3 : Hid (w3.cell? ⟨w.heap.size, 0, none⟩ = some (.int .i64 p) ∧ w3.cell? ⟨w.heap.size, 1, none⟩ = some (.slice a n c) ∧ w3.cell? ⟨w.heap.size, 2, none⟩ = some (.slice b n d)) := hide ⟨cell_be hb3 hG0.out.1, cell_be hb3 hG0.out.2.1, cell_be hb3 hG0.out.2.2⟩
      have hB3 := hBr.trans (hb3.mono hBr.size)
      have Hrr := hide (rndsP_rng HG.out.lo A B v h)
      have hrl := hide (show (rndsP p A B v h).length = n by rw [rndsP_len, hlV.out])
      obtain ⟨row, hrow⟩ : ∃ row, rndsP p A B v h = row := ⟨_, rfl⟩
      have hNx := hide (show rndsP p A B v (h + 1) = midP p A B v row h 3 by rw [rndsP, hrow]; simp [midP])
      rw [hrow] at hR3 Hrr hrl
      clear hR hG0 hBr hzr hb3 e1 hrow
      go_wp2_with fail
      go_loopw [23] (fun iv wr => ∃ k : Nat, k ≤ 3 ∧ iv = .int .i64 k ∧ Hid (RowI wr (w.heap.size + 1) (midP p A B v row h k)) ∧ Hid (wr.cell? ⟨w.heap.size, 0, none⟩ = some (.int .i64 p) ∧ wr.cell? ⟨w.heap.size, 1, none⟩ = some (.slice a n c) ∧ wr.cell? ⟨w.heap.size, 2, none⟩ = some (.slice b n d)) ∧ Below w.heap.size w wr ∧ w.heap.size + 1 < wr.heap.size) (fun iv _ => 3 - (intOf iv).toNat)
      case atStart => exact ⟨0, by omega, rfl, hR3, hG3, hB3, hz3⟩
      case round =>
        obtain ⟨k, hk, rfl, hR, hG, hBx, hzx⟩ := hrel
        clear hR3 hG3 hB3 hz3
        obtain ⟨f0, f1, f2⟩ := hG.out
        have hAx := hide (hA.below hBx)
        have hBB := hide (hB.below hBx)
        have hml := hide (show (midP p A B v row h k).length = n by rw [midP_len, hrl.out])
        have Hmr := hide (midP_rng (A := A) (B := B) (v := v) HG.out.lo Hrr.out h k)
        by_cases h3 : k = 3
        · subst h3
          go_wp2
          go_roundw
          case rel => exact ⟨h + 1, by omega, by go_num, hide (by rw [hNx.out]; exact hR.out), hG, hBx, hzx⟩
          case measure => simp [intOf]; omega
        by_cases h0 : k = 0
        · subst h0
          by_cases hd : h = 0
          · have Hd := hide hd
            clear hd
            have ri := run_idx0 (.func (.func 63) #[] #[]) (.func (.func 64) #[] #[]) (.func (.func 65) #[] #[])
            go_wp2_with fail
            refine (goDown_any p a n c B b n d h _ hBB.out hlt (by omega)).mono ?_
            rintro e w4 ⟨rfl, t4⟩
            replace f0 := cell_be t4 f0
            replace f1 := cell_be t4 f1
            replace f2 := cell_be t4 f2
            have hw0 := HG.out.b0 h
            obtain ⟨W, hW⟩ : ∃ W, B.getD h 0 = W := ⟨_, rfl⟩
            rw [hW] at hw0 ⊢
            have HW := hide hW
            clear hW
            go_wp2_with fail
            refine (has_f p a n c b n d ((h : Int) - 1) _ (by omega) (by have := Hd.out; omega)).mono ?_
            rintro e wz ⟨rfl, t5⟩
            have hbz := t4.trans (t5.mono t4.size)
            replace f0 := cell_be t5 f0
            replace f1 := cell_be t5 f1
            replace f2 := cell_be t5 f2
            have hBz := hBx.trans (hbz.mono hBx.size)
            have hzz : w.heap.size + 1 < wz.heap.size := by have := hbz.size; omega
            have hRz := hide (hR.out.next hbz)
            clear t4 t5 hbz hAx hBB hR hG hBx hzx
            have hRn : Hid (RowI wz (w.heap.size + 1) (midP p A B v row h 1)) := hide (by
              have z := hRz.out
              have e2 : midP p A B v row h 1 = midP p A B v row h 0 := by rw [midP_1, midP_0]; unfold rndD; rw [if_pos Hd.out]
              rw [e2]
              exact z)
            have hGn := hide (And.intro f0 (And.intro f1 f2))
            have hBn := hBz
            have hzn := hzz
            clear hRz f0 f1 f2 hBz hzz
            go_wp2
            go_roundw
            case rel => exact ⟨1, by omega, by go_num, hRn, hGn, hBn, hzn⟩
            case measure => simp [intOf]
          · have Hd := hide hd
            clear hd
            have ri := run_idx0 (.func (.func 63) #[] #[]) (.func (.func 64) #[] #[]) (.func (.func 65) #[] #[])
            go_wp2_with fail
            refine (goDown_any p a n c B b n d h _ hBB.out hlt (by omega)).mono ?_
            rintro e w4 ⟨rfl, t4⟩
            replace f0 := cell_be t4 f0
            replace f1 := cell_be t4 f1
            replace f2 := cell_be t4 f2
            have hw0 := HG.out.b0 h
            obtain ⟨W, hW⟩ : ∃ W, B.getD h 0 = W := ⟨_, rfl⟩
            rw [hW] at hw0 ⊢
            have HW := hide hW
            clear hW
            go_wp2_with fail
            refine (has_t p a n c b n d ((h : Int) - 1) _ (by omega) (by have := Hd.out; omega) (by omega)).mono ?_
            rintro e wz ⟨rfl, t5⟩
            have hbz := t4.trans (t5.mono t4.size)
            replace f0 := cell_be t5 f0
            replace f1 := cell_be t5 f1
            replace f2 := cell_be t5 f2
            have hBz := hBx.trans (hbz.mono hBx.size)
            have hzz : w.heap.size + 1 < wz.heap.size := by have := hbz.size; omega
            have hRz := hide (hR.out.next hbz)
            clear t4 t5 hbz hAx hBB hR hG hBx hzx
            have hRc := hRz.out.cell (h - 1) (by rw [hml.out]; omega)
            have hRf := hRz.out.free (h - 1)
            have hRr := Hmr.out (h - 1)
            obtain ⟨R, hRR⟩ : ∃ R, (midP p A B v row h 0).getD (h - 1) 0 = R := ⟨_, rfl⟩
            rw [hRR] at hRc hRr
            have HRR := hide hRR
            have hM := gwM hw0 hX.1 hX.2
            have q1 : (0 : Int) ≤ ((h : Int) - 1) := by have := Hd.out; omega
            have q2 : ((h : Int) - 1) < (n : Int) := by omega
            have q4 : 1 ≤ (h : Int) := by have := Hd.out; omega
            have q3 : (((h : Int) - 1)).toNat = (h - 1) := by omega
            clear hRR hw0
            go_upto_region 10 with fail
            have hbd := (Below.refl wz.heap.size wz).drew
            refine region_E (fun w' => w'.cell? ⟨w.heap.size, 0, none⟩ = some (.int .i64 p) ∧ w'.cell? ⟨w.heap.size + 1, (h - 1), none⟩ = some (.int .i64 R)) 12 (by kernel_rfl) ⟨cell_be hbd f0, cell_be hbd hRc⟩ ?_
            intro hS
            refine anyE_takeL 0 rfl (by kernel_rfl) (fun _ _ _ h => h) hS (by rfl) (v := ?_) ?_ ?_
            rotate_left
            · intro w' hSw; (try dsimp only at hSw); go_simp; (try with_reducible rfl)
            try simp only [Act.put, List.setIfInBounds_toArray, List.set_cons_zero, List.set_cons_succ]
            refine anyE_takeL 1 rfl (by kernel_rfl) (fun _ _ _ h => h) hS (by rfl) (v := ?_) ?_ ?_
            rotate_left
            · intro w' hSw; (try dsimp only at hSw); go_simp; (try with_reducible rfl)
            try simp only [Act.put, List.setIfInBounds_toArray, List.set_cons_zero, List.set_cons_succ]
            refine anyE_takeL 2 rfl (by kernel_rfl) (fun _ _ _ h => h) hS (by rfl) (v := ?_) ?_ ?_
            rotate_left
            · intro w' hSw; (try dsimp only at hSw); go_simp; (try with_reducible rfl)
            try simp only [Act.put, List.setIfInBounds_toArray, List.set_cons_zero, List.set_cons_succ]
            refine anyE_takeL 3 rfl (by kernel_rfl) (fun _ _ _ h => h) hS (by rfl) (v := ?_) ?_ ?_
            rotate_left
            · intro w' hSw; (try dsimp only at hSw); go_simp; (try with_reducible rfl)
            try simp only [Act.put, List.setIfInBounds_toArray, List.set_cons_zero, List.set_cons_succ]
            refine anyE_takeL 4 rfl (by kernel_rfl) (fun _ _ _ h => h) hS (by rfl) (v := ?_) ?_ ?_
            rotate_left
            · intro w' hSw; (try dsimp only at hSw); go_simp; (try with_reducible rfl)
            try simp only [Act.put, List.setIfInBounds_toArray, List.set_cons_zero, List.set_cons_succ]
            refine anyE_takeL 5 rfl (by kernel_rfl) (fun _ _ _ h => h) hS (by rfl) (v := ?_) ?_ ?_
            rotate_left
            · intro w' hSw; (try dsimp only at hSw); go_simp; (try with_reducible rfl)
            try simp only [Act.put, List.setIfInBounds_toArray, List.set_cons_zero, List.set_cons_succ]
            refine anyE_takeL 6 rfl (by kernel_rfl) (fun _ _ _ h => h) hS (by rfl) (v := ?_) ?_ ?_
            rotate_left
            · intro w' hSw; (try dsimp only at hSw); go_simp; (try with_reducible rfl)
            try simp only [Act.put, List.setIfInBounds_toArray, List.set_cons_zero, List.set_cons_succ]
            refine anyE_takeL 7 rfl (by kernel_rfl) (fun _ _ _ h => h) hS (by rfl) (v := ?_) ?_ ?_
            rotate_left
            · intro w' hSw; (try dsimp only at hSw); go_simp; (try with_reducible rfl)
            try simp only [Act.put, List.setIfInBounds_toArray, List.set_cons_zero, List.set_cons_succ]
            refine anyE_takeL 8 rfl (by kernel_rfl) (fun _ _ _ h => h) hS (by rfl) (v := ?_) ?_ ?_
            rotate_left
            · intro w' hSw; (try dsimp only at hSw); go_simp; (try with_reducible rfl)
            try simp only [Act.put, List.setIfInBounds_toArray, List.set_cons_zero, List.set_cons_succ]
            refine anyE_takeL 9 rfl (by kernel_rfl) (fun _ _ _ h => h) hS (by rfl) (v := ?_) ?_ ?_
            rotate_left
            · intro w' hSw; (try dsimp only at hSw); go_simp; (try with_reducible rfl)
            try simp only [Act.put, List.setIfInBounds_toArray, List.set_cons_zero, List.set_cons_succ]
            refine anyE_oneL 10 (by kernel_rfl) rfl (fun K' hK' => ?_)
            go_simp
            refine (addNumber_b p R _ X _ HG.out.lo hRr.1 (by have := HG.out.hi; omega) hM.1 hM.2).mono ?_
            rintro e w8 ⟨rfl, t8⟩
            dsimp only
            have hb8 := bnext hbd t8
            clear hS
            have hS : w8.cell? ⟨w.heap.size, 0, none⟩ = some (.int .i64 p) ∧ w8.cell? ⟨w.heap.size + 1, (h - 1), none⟩ = some (.int .i64 R) := ⟨cell_be hb8 f0, cell_be hb8 hRc⟩
            refine hK'.out _ _ hS ?_
            clear hK' K'
            try simp only [Act.put, List.setIfInBounds_toArray, List.set_cons_zero, List.set_cons_succ]
            refine anyE_takeL 11 rfl (by kernel_rfl) (fun _ _ _ h => h) hS (by rfl) (v := ?_) ?_ ?_
            rotate_left
            · intro w' hSw; (try dsimp only at hSw); go_simp; (try with_reducible rfl)
            try simp only [Act.put, List.setIfInBounds_toArray, List.set_cons_zero, List.set_cons_succ]
            replace hRf := fr_be hb8 hRc hRf
            replace hRc := cell_be hb8 hRc
            refine anyE_lastL (by kernel_rfl) rfl (by kernel_rfl) (fun K' hK' => ?_)
            go_simp
            refine hK'.out _ _ ?_
            clear hK' K'
            try simp only [Act.put, List.setIfInBounds_toArray, List.set_cons_zero, List.set_cons_succ]
            have hRn : Hid (RowI (w8.setCell ⟨w.heap.size + 1, (h - 1), none⟩ (.int .i64 ((R + W * X) % p))) (w.heap.size + 1) (midP p A B v row h 1)) := hide (by
              have z := (hRz.out.next hb8).set (h - 1) ((R + W * X) % p)
              rw [ad_at p _ (h - 1) _ R HRR.out] at z
              have e2 : midP p A B v row h 1 = addAt p (midP p A B v row h 0) (h - 1) (W * X) := by rw [midP_1, midP_0]; unfold rndD; rw [if_neg Hd.out, HX.out, HW.out]
              rw [e2]
              exact z)
            have hGn : Hid ((w8.setCell ⟨w.heap.size + 1, (h - 1), none⟩ (.int .i64 ((R + W * X) % p))).cell? ⟨w.heap.size, 0, none⟩ = some (.int .i64 p) ∧ (w8.setCell ⟨w.heap.size + 1, (h - 1), none⟩ (.int .i64 ((R + W * X) % p))).cell? ⟨w.heap.size, 1, none⟩ = some (.slice a n c) ∧ (w8.setCell ⟨w.heap.size + 1, (h - 1), none⟩ (.int .i64 ((R + W * X) % p))).cell? ⟨w.heap.size, 2, none⟩ = some (.slice b n d)) := hide ⟨cell_set2 (cell_be hb8 f0) (by simp) _, cell_set2 (cell_be hb8 f1) (by simp) _, cell_set2 (cell_be hb8 f2) (by simp) _⟩
            have hBn := (hBz.trans (hb8.mono hBz.size)).setCell (p := ⟨w.heap.size + 1, (h - 1), none⟩) (by simp) (.int .i64 ((R + W * X) % p))
            have hzn : w.heap.size + 1 < (w8.setCell ⟨w.heap.size + 1, (h - 1), none⟩ (.int .i64 ((R + W * X) % p))).heap.size := by have := hb8.size; simp; omega
            clear hRc hRf hRz hS hbd hb8 t8 f0 f1 f2 hBz hzz hM q1 q2
            go_wp2
            go_roundw
            case rel => exact ⟨1, by omega, by go_num, hRn, hGn, hBn, hzn⟩
            case measure => simp [intOf]
        by_cases h1 : k = 1
        · subst h1
          have ri := run_idx1 (.func (.func 63) #[] #[]) (.func (.func 64) #[] #[]) (.func (.func 65) #[] #[])
          go_wp2_with fail
          refine (goLevel_any p a n c A b n d h _ hAx.out hlt (by omega)).mono ?_
          rintro e w4 ⟨rfl, t4⟩
          replace f0 := cell_be t4 f0
          replace f1 := cell_be t4 f1
          replace f2 := cell_be t4 f2
          have hw0 := HG.out.a0 h
          obtain ⟨W, hW⟩ : ∃ W, A.getD h 0 = W := ⟨_, rfl⟩
          rw [hW] at hw0 ⊢
          have HW := hide hW
          clear hW
          go_wp2_with fail
          refine (has_t p a n c b n d (h : Int) _ (by omega) (by omega) (by omega)).mono ?_
          rintro e wz ⟨rfl, t5⟩
          have hbz := t4.trans (t5.mono t4.size)
          replace f0 := cell_be t5 f0
          replace f1 := cell_be t5 f1
          replace f2 := cell_be t5 f2
          have hBz := hBx.trans (hbz.mono hBx.size)
          have hzz : w.heap.size + 1 < wz.heap.size := by have := hbz.size; omega
          have hRz := hide (hR.out.next hbz)
          clear t4 t5 hbz hAx hBB hR hG hBx hzx
          have hRc := hRz.out.cell h (by rw [hml.out]; omega)
          have hRf := hRz.out.free h
          have hRr := Hmr.out h
          obtain ⟨R, hRR⟩ : ∃ R, (midP p A B v row h 1).getD h 0 = R := ⟨_, rfl⟩
          rw [hRR] at hRc hRr
          have HRR := hide hRR
          have hM := gwM hw0 hX.1 hX.2
          have q1 : (0 : Int) ≤ (h : Int) := by omega
          have q2 : (h : Int) < (n : Int) := by omega
          clear hRR hw0
          go_upto_region 10 with fail
          have hbd := (Below.refl wz.heap.size wz).drew
          refine region_E (fun w' => w'.cell? ⟨w.heap.size, 0, none⟩ = some (.int .i64 p) ∧ w'.cell? ⟨w.heap.size + 1, h, none⟩ = some (.int .i64 R)) 12 (by kernel_rfl) ⟨cell_be hbd f0, cell_be hbd hRc⟩ ?_
          intro hS
          refine anyE_takeL 0 rfl (by kernel_rfl) (fun _ _ _ h => h) hS (by rfl) (v := ?_) ?_ ?_
          rotate_left
          · intro w' hSw; (try dsimp only at hSw); go_simp; (try with_reducible rfl)
          try simp only [Act.put, List.setIfInBounds_toArray, List.set_cons_zero, List.set_cons_succ]
          refine anyE_takeL 1 rfl (by kernel_rfl) (fun _ _ _ h => h) hS (by rfl) (v := ?_) ?_ ?_
          rotate_left
          · intro w' hSw; (try dsimp only at hSw); go_simp; (try with_reducible rfl)
          try simp only [Act.put, List.setIfInBounds_toArray, List.set_cons_zero, List.set_cons_succ]
          refine anyE_takeL 2 rfl (by kernel_rfl) (fun _ _ _ h => h) hS (by rfl) (v := ?_) ?_ ?_
          rotate_left
          · intro w' hSw; (try dsimp only at hSw); go_simp; (try with_reducible rfl)
          try simp only [Act.put, List.setIfInBounds_toArray, List.set_cons_zero, List.set_cons_succ]
          refine anyE_takeL 3 rfl (by kernel_rfl) (fun _ _ _ h => h) hS (by rfl) (v := ?_) ?_ ?_
          rotate_left
          · intro w' hSw; (try dsimp only at hSw); go_simp; (try with_reducible rfl)
          try simp only [Act.put, List.setIfInBounds_toArray, List.set_cons_zero, List.set_cons_succ]
          refine anyE_takeL 4 rfl (by kernel_rfl) (fun _ _ _ h => h) hS (by rfl) (v := ?_) ?_ ?_
          rotate_left
          · intro w' hSw; (try dsimp only at hSw); go_simp; (try with_reducible rfl)
          try simp only [Act.put, List.setIfInBounds_toArray, List.set_cons_zero, List.set_cons_succ]
          refine anyE_takeL 5 rfl (by kernel_rfl) (fun _ _ _ h => h) hS (by rfl) (v := ?_) ?_ ?_
          rotate_left
          · intro w' hSw; (try dsimp only at hSw); go_simp; (try with_reducible rfl)
          try simp only [Act.put, List.setIfInBounds_toArray, List.set_cons_zero, List.set_cons_succ]
          refine anyE_takeL 6 rfl (by kernel_rfl) (fun _ _ _ h => h) hS (by rfl) (v := ?_) ?_ ?_
          rotate_left
          · intro w' hSw; (try dsimp only at hSw); go_simp; (try with_reducible rfl)
          try simp only [Act.put, List.setIfInBounds_toArray, List.set_cons_zero, List.set_cons_succ]
          refine anyE_takeL 7 rfl (by kernel_rfl) (fun _ _ _ h => h) hS (by rfl) (v := ?_) ?_ ?_
          rotate_left
          · intro w' hSw; (try dsimp only at hSw); go_simp; (try with_reducible rfl)
          try simp only [Act.put, List.setIfInBounds_toArray, List.set_cons_zero, List.set_cons_succ]
          refine anyE_takeL 8 rfl (by kernel_rfl) (fun _ _ _ h => h) hS (by rfl) (v := ?_) ?_ ?_
          rotate_left
          · intro w' hSw; (try dsimp only at hSw); go_simp; (try with_reducible rfl)
          try simp only [Act.put, List.setIfInBounds_toArray, List.set_cons_zero, List.set_cons_succ]
          refine anyE_takeL 9 rfl (by kernel_rfl) (fun _ _ _ h => h) hS (by rfl) (v := ?_) ?_ ?_
          rotate_left
          · intro w' hSw; (try dsimp only at hSw); go_simp; (try with_reducible rfl)
          try simp only [Act.put, List.setIfInBounds_toArray, List.set_cons_zero, List.set_cons_succ]
          refine anyE_oneL 10 (by kernel_rfl) rfl (fun K' hK' => ?_)
          go_simp
          refine (addNumber_b p R _ X _ HG.out.lo hRr.1 (by have := HG.out.hi; omega) hM.1 hM.2).mono ?_
          rintro e w8 ⟨rfl, t8⟩
          dsimp only
          have hb8 := bnext hbd t8
          clear hS
          have hS : w8.cell? ⟨w.heap.size, 0, none⟩ = some (.int .i64 p) ∧ w8.cell? ⟨w.heap.size + 1, h, none⟩ = some (.int .i64 R) := ⟨cell_be hb8 f0, cell_be hb8 hRc⟩
          refine hK'.out _ _ hS ?_
          clear hK' K'
          try simp only [Act.put, List.setIfInBounds_toArray, List.set_cons_zero, List.set_cons_succ]
          refine anyE_takeL 11 rfl (by kernel_rfl) (fun _ _ _ h => h) hS (by rfl) (v := ?_) ?_ ?_
          rotate_left
          · intro w' hSw; (try dsimp only at hSw); go_simp; (try with_reducible rfl)
          try simp only [Act.put, List.setIfInBounds_toArray, List.set_cons_zero, List.set_cons_succ]
          replace hRf := fr_be hb8 hRc hRf
          replace hRc := cell_be hb8 hRc
          refine anyE_lastL (by kernel_rfl) rfl (by kernel_rfl) (fun K' hK' => ?_)
          go_simp
          refine hK'.out _ _ ?_
          clear hK' K'
          try simp only [Act.put, List.setIfInBounds_toArray, List.set_cons_zero, List.set_cons_succ]
          have hRn : Hid (RowI (w8.setCell ⟨w.heap.size + 1, h, none⟩ (.int .i64 ((R + W * X) % p))) (w.heap.size + 1) (midP p A B v row h 2)) := hide (by
            have z := (hRz.out.next hb8).set h ((R + W * X) % p)
            rw [ad_at p _ h _ R HRR.out] at z
            have e2 : midP p A B v row h 2 = addAt p (midP p A B v row h 1) h (W * X) := by rw [midP_2, midP_1, HX.out, HW.out]
            rw [e2]
            exact z)
          have hGn : Hid ((w8.setCell ⟨w.heap.size + 1, h, none⟩ (.int .i64 ((R + W * X) % p))).cell? ⟨w.heap.size, 0, none⟩ = some (.int .i64 p) ∧ (w8.setCell ⟨w.heap.size + 1, h, none⟩ (.int .i64 ((R + W * X) % p))).cell? ⟨w.heap.size, 1, none⟩ = some (.slice a n c) ∧ (w8.setCell ⟨w.heap.size + 1, h, none⟩ (.int .i64 ((R + W * X) % p))).cell? ⟨w.heap.size, 2, none⟩ = some (.slice b n d)) := hide ⟨cell_set2 (cell_be hb8 f0) (by simp) _, cell_set2 (cell_be hb8 f1) (by simp) _, cell_set2 (cell_be hb8 f2) (by simp) _⟩
          have hBn := (hBz.trans (hb8.mono hBz.size)).setCell (p := ⟨w.heap.size + 1, h, none⟩) (by simp) (.int .i64 ((R + W * X) % p))
          have hzn : w.heap.size + 1 < (w8.setCell ⟨w.heap.size + 1, h, none⟩ (.int .i64 ((R + W * X) % p))).heap.size := by have := hb8.size; simp; omega
          clear hRc hRf hRz hS hbd hb8 t8 f0 f1 f2 hBz hzz hM q1 q2
          go_wp2
          go_roundw
          case rel => exact ⟨2, by omega, by go_num, hRn, hGn, hBn, hzn⟩
          case measure => simp [intOf]
        obtain rfl : k = 2 := by omega
        by_cases hu : h + 1 < n
        · have ri := run_idx2 (.func (.func 63) #[] #[]) (.func (.func 64) #[] #[]) (.func (.func 65) #[] #[])
          go_wp2_with fail
          refine (goUp_any p a n c b n d h _ (by omega) (by omega)).mono ?_
          rintro e w4 ⟨rfl, t4⟩
          replace f0 := cell_be t4 f0
          replace f1 := cell_be t4 f1
          replace f2 := cell_be t4 f2
          go_wp2_with fail
          refine (has_t p a n c b n d ((h : Int) + 1) _ (by omega) (by omega) (by omega)).mono ?_
          rintro e wz ⟨rfl, t5⟩
          have hbz := t4.trans (t5.mono t4.size)
          replace f0 := cell_be t5 f0
          replace f1 := cell_be t5 f1
          replace f2 := cell_be t5 f2
          have hBz := hBx.trans (hbz.mono hBx.size)
          have hzz : w.heap.size + 1 < wz.heap.size := by have := hbz.size; omega
          have hRz := hide (hR.out.next hbz)
          clear t4 t5 hbz hAx hBB hR hG hBx hzx
          have hRc := hRz.out.cell (h + 1) (by rw [hml.out]; omega)
          have hRf := hRz.out.free (h + 1)
          have hRr := Hmr.out (h + 1)
          obtain ⟨R, hRR⟩ : ∃ R, (midP p A B v row h 2).getD (h + 1) 0 = R := ⟨_, rfl⟩
          rw [hRR] at hRc hRr
          have HRR := hide hRR
          have hM : 0 ≤ 1 * X ∧ 1 * X ≤ 1152921504606846976 := by have := HG.out.hi; omega
          have q1 : (0 : Int) ≤ ((h : Int) + 1) := by omega
          have q2 : ((h : Int) + 1) < (n : Int) := by omega
          have q3 : (((h : Int) + 1)).toNat = (h + 1) := by omega
          clear hRR
          go_upto_region 10 with fail
          have hbd := (Below.refl wz.heap.size wz).drew
          refine region_E (fun w' => w'.cell? ⟨w.heap.size, 0, none⟩ = some (.int .i64 p) ∧ w'.cell? ⟨w.heap.size + 1, (h + 1), none⟩ = some (.int .i64 R)) 12 (by kernel_rfl) ⟨cell_be hbd f0, cell_be hbd hRc⟩ ?_
          intro hS
          refine anyE_takeL 0 rfl (by kernel_rfl) (fun _ _ _ h => h) hS (by rfl) (v := ?_) ?_ ?_
          rotate_left
          · intro w' hSw; (try dsimp only at hSw); go_simp; (try with_reducible rfl)
          try simp only [Act.put, List.setIfInBounds_toArray, List.set_cons_zero, List.set_cons_succ]
          refine anyE_takeL 1 rfl (by kernel_rfl) (fun _ _ _ h => h) hS (by rfl) (v := ?_) ?_ ?_
          rotate_left
          · intro w' hSw; (try dsimp only at hSw); go_simp; (try with_reducible rfl)
          try simp only [Act.put, List.setIfInBounds_toArray, List.set_cons_zero, List.set_cons_succ]
          refine anyE_takeL 2 rfl (by kernel_rfl) (fun _ _ _ h => h) hS (by rfl) (v := ?_) ?_ ?_
          rotate_left
          · intro w' hSw; (try dsimp only at hSw); go_simp; (try with_reducible rfl)
          try simp only [Act.put, List.setIfInBounds_toArray, List.set_cons_zero, List.set_cons_succ]
          refine anyE_takeL 3 rfl (by kernel_rfl) (fun _ _ _ h => h) hS (by rfl) (v := ?_) ?_ ?_
          rotate_left
          · intro w' hSw; (try dsimp only at hSw); go_simp; (try with_reducible rfl)
          try simp only [Act.put, List.setIfInBounds_toArray, List.set_cons_zero, List.set_cons_succ]
          refine anyE_takeL 4 rfl (by kernel_rfl) (fun _ _ _ h => h) hS (by rfl) (v := ?_) ?_ ?_
          rotate_left
          · intro w' hSw; (try dsimp only at hSw); go_simp; (try with_reducible rfl)
          try simp only [Act.put, List.setIfInBounds_toArray, List.set_cons_zero, List.set_cons_succ]
          refine anyE_takeL 5 rfl (by kernel_rfl) (fun _ _ _ h => h) hS (by rfl) (v := ?_) ?_ ?_
          rotate_left
          · intro w' hSw; (try dsimp only at hSw); go_simp; (try with_reducible rfl)
          try simp only [Act.put, List.setIfInBounds_toArray, List.set_cons_zero, List.set_cons_succ]
          refine anyE_takeL 6 rfl (by kernel_rfl) (fun _ _ _ h => h) hS (by rfl) (v := ?_) ?_ ?_
          rotate_left
          · intro w' hSw; (try dsimp only at hSw); go_simp; (try with_reducible rfl)
          try simp only [Act.put, List.setIfInBounds_toArray, List.set_cons_zero, List.set_cons_succ]
          refine anyE_takeL 7 rfl (by kernel_rfl) (fun _ _ _ h => h) hS (by rfl) (v := ?_) ?_ ?_
          rotate_left
          · intro w' hSw; (try dsimp only at hSw); go_simp; (try with_reducible rfl)
          try simp only [Act.put, List.setIfInBounds_toArray, List.set_cons_zero, List.set_cons_succ]
          refine anyE_takeL 8 rfl (by kernel_rfl) (fun _ _ _ h => h) hS (by rfl) (v := ?_) ?_ ?_
          rotate_left
          · intro w' hSw; (try dsimp only at hSw); go_simp; (try with_reducible rfl)
          try simp only [Act.put, List.setIfInBounds_toArray, List.set_cons_zero, List.set_cons_succ]
          refine anyE_takeL 9 rfl (by kernel_rfl) (fun _ _ _ h => h) hS (by rfl) (v := ?_) ?_ ?_
          rotate_left
          · intro w' hSw; (try dsimp only at hSw); go_simp; (try with_reducible rfl)
          try simp only [Act.put, List.setIfInBounds_toArray, List.set_cons_zero, List.set_cons_succ]
          refine anyE_oneL 10 (by kernel_rfl) rfl (fun K' hK' => ?_)
          go_simp
          refine (addNumber_b p R _ X _ HG.out.lo hRr.1 (by have := HG.out.hi; omega) hM.1 hM.2).mono ?_
          rintro e w8 ⟨rfl, t8⟩
          dsimp only
          have hb8 := bnext hbd t8
          clear hS
          have hS : w8.cell? ⟨w.heap.size, 0, none⟩ = some (.int .i64 p) ∧ w8.cell? ⟨w.heap.size + 1, (h + 1), none⟩ = some (.int .i64 R) := ⟨cell_be hb8 f0, cell_be hb8 hRc⟩
          refine hK'.out _ _ hS ?_
          clear hK' K'
          try simp only [Act.put, List.setIfInBounds_toArray, List.set_cons_zero, List.set_cons_succ]
          refine anyE_takeL 11 rfl (by kernel_rfl) (fun _ _ _ h => h) hS (by rfl) (v := ?_) ?_ ?_
          rotate_left
          · intro w' hSw; (try dsimp only at hSw); go_simp; (try with_reducible rfl)
          try simp only [Act.put, List.setIfInBounds_toArray, List.set_cons_zero, List.set_cons_succ]
          replace hRf := fr_be hb8 hRc hRf
          replace hRc := cell_be hb8 hRc
          refine anyE_lastL (by kernel_rfl) rfl (by kernel_rfl) (fun K' hK' => ?_)
          go_simp
          refine hK'.out _ _ ?_
          clear hK' K'
          try simp only [Act.put, List.setIfInBounds_toArray, List.set_cons_zero, List.set_cons_succ]
          have hRn : Hid (RowI (w8.setCell ⟨w.heap.size + 1, (h + 1), none⟩ (.int .i64 ((R + X) % p))) (w.heap.size + 1) (midP p A B v row h 3)) := hide (by
            have z := (hRz.out.next hb8).set (h + 1) ((R + X) % p)
            rw [ad_at p _ (h + 1) _ R HRR.out] at z
            have e2 : midP p A B v row h 3 = addAt p (midP p A B v row h 2) (h + 1) X := by rw [midP_3, midP_2]; unfold rndP; rw [HX.out]
            rw [e2]
            exact z)
          have hGn : Hid ((w8.setCell ⟨w.heap.size + 1, (h + 1), none⟩ (.int .i64 ((R + X) % p))).cell? ⟨w.heap.size, 0, none⟩ = some (.int .i64 p) ∧ (w8.setCell ⟨w.heap.size + 1, (h + 1), none⟩ (.int .i64 ((R + X) % p))).cell? ⟨w.heap.size, 1, none⟩ = some (.slice a n c) ∧ (w8.setCell ⟨w.heap.size + 1, (h + 1), none⟩ (.int .i64 ((R + X) % p))).cell? ⟨w.heap.size, 2, none⟩ = some (.slice b n d)) := hide ⟨cell_set2 (cell_be hb8 f0) (by simp) _, cell_set2 (cell_be hb8 f1) (by simp) _, cell_set2 (cell_be hb8 f2) (by simp) _⟩
          have hBn := (hBz.trans (hb8.mono hBz.size)).setCell (p := ⟨w.heap.size + 1, (h + 1), none⟩) (by simp) (.int .i64 ((R + X) % p))
          have hzn : w.heap.size + 1 < (w8.setCell ⟨w.heap.size + 1, (h + 1), none⟩ (.int .i64 ((R + X) % p))).heap.size := by have := hb8.size; simp; omega
          clear hRc hRf hRz hS hbd hb8 t8 f0 f1 f2 hBz hzz hM q1 q2
          go_wp2
          go_roundw
          case rel => exact ⟨3, by omega, by go_num, hRn, hGn, hBn, hzn⟩
          case measure => simp [intOf]
        · have ri := run_idx2 (.func (.func 63) #[] #[]) (.func (.func 64) #[] #[]) (.func (.func 65) #[] #[])
          go_wp2_with fail
          refine (goUp_any p a n c b n d h _ (by omega) (by omega)).mono ?_
          rintro e w4 ⟨rfl, t4⟩
          replace f0 := cell_be t4 f0
          replace f1 := cell_be t4 f1
          replace f2 := cell_be t4 f2
          go_wp2_with fail
          refine (has_f p a n c b n d ((h : Int) + 1) _ (by omega) (by omega)).mono ?_
          rintro e wz ⟨rfl, t5⟩
          have hbz := t4.trans (t5.mono t4.size)
          replace f0 := cell_be t5 f0
          replace f1 := cell_be t5 f1
          replace f2 := cell_be t5 f2
          have hBz := hBx.trans (hbz.mono hBx.size)
          have hzz : w.heap.size + 1 < wz.heap.size := by have := hbz.size; omega
          have hRz := hide (hR.out.next hbz)
          clear t4 t5 hbz hAx hBB hR hG hBx hzx
          have hRn : Hid (RowI wz (w.heap.size + 1) (midP p A B v row h 3)) := hide (by
            have z := hRz.out
            have e2 : midP p A B v row h 3 = midP p A B v row h 2 := by rw [midP_3, midP_2]; unfold rndP; rw [addAt_out _ _ _ _ (by rw [addAt_len, rndD_len, hrl.out]; omega)]
            rw [e2]
            exact z)
          have hGn := hide (And.intro f0 (And.intro f1 f2))
          have hBn := hBz
          have hzn := hzz
          clear hRz f0 f1 f2 hBz hzz
          go_wp2
          go_roundw
          case rel => exact ⟨3, by omega, by go_num, hRn, hGn, hBn, hzn⟩
          case measure => simp [intOf]
    · have hhn : Hid (h = n) := hide (by omega)
      have hge : ¬ (h : Int) < (n : Int) := by omega
      go_wp2
      go_ret
      have t := hR.out
      rw [hhn.out, show rndsP p A B v n = sprP p A B v by unfold sprP; rw [hlV.out]] at t
      have hl : (sprP p A B v).length = n := by unfold sprP; rw [rndsP_len, hlV.out]
      have o := t.own' (B := w.heap.size) (by omega) (by rw [hl]; unfold maxLen; omega)
      rw [hl] at o
      exact ⟨_, rfl, o, hBr⟩
end Go.Proofs.Ythahcnmfaghohaa
/- Plain mathematics: primes as the loop tests them; products of lists of numbers modulo p. No program. -/
namespace Go.Proofs.Ythahcnmfaghohaa
open Go.RowKit
set_option linter.unusedVariables false
set_option linter.unusedSimpArgs false

theorem primeLoop_spec : ∀ (f : Nat) (d p : Int), 2 ≤ d → primeLoop f d p = true → ∀ e : Int, d ≤ e → e < d + f → e * e ≤ p → p % e ≠ 0 := by
  intro f
  induction f with
  | zero => intro d p _ _ e h1 h2 _; omega
  | succ f ih =>
    intro d p hd h e h1 h2 h3
    unfold primeLoop at h
    have hde : d * d ≤ e * e := Int.mul_le_mul h1 h1 (by omega) (by omega)
    rw [if_pos (by omega)] at h
    split at h
    · cases h
    · rename_i hne
      by_cases he : e = d
      · rw [he]; exact hne
      · exact ih (d + 1) p (by omega) h e (by omega) (by omega) h3
theorem primeB_small {p : Int} (h : primeB p = true) (e : Int) (h1 : 2 ≤ e) (h2 : e * e ≤ p) : p % e ≠ 0 := by
  have hp := primeB_lo h
  unfold primeB at h
  rw [if_neg (by omega), if_neg (by omega)] at h
  refine primeLoop_spec 101 2 p (by omega) h e h1 ?_ h2
  rcases Int.lt_or_le e 103 with hh | hh
  · omega
  · have : (103 : Int) * 103 ≤ e * e := Int.mul_le_mul hh hh (by omega) (by omega)
    omega
/-- No number between 1 and p divides p. -/
theorem primeB_dvd {p : Int} (h : primeB p = true) (e : Nat) (he : 2 ≤ e) (hd : e ∣ p.toNat) : e = p.toNat := by
  have hp := primeB_lo h
  obtain ⟨c, hc⟩ := hd
  have hpc : p = (e : Int) * (c : Int) := by
    have h1 : ((p.toNat : Nat) : Int) = p := Int.toNat_of_nonneg (by omega)
    rw [← h1, hc]
    simp
  have hcpos : c ≠ 0 := fun h0 => by subst h0; simp at hpc; omega
  by_cases hc1 : c = 1
  · subst hc1; simpa using hc.symm
  · exfalso
    rcases Nat.le_total e c with hle | hle
    · have h2 : (e : Int) * e ≤ p := by rw [hpc]; exact Int.mul_le_mul_of_nonneg_left (by omega) (by omega)
      exact primeB_small h e (by omega) h2 (by rw [hpc]; exact Int.mul_emod_right _ _)
    · have h2 : (c : Int) * c ≤ p := by rw [hpc]; exact Int.mul_le_mul_of_nonneg_right (by omega) (by omega)
      exact primeB_small h c (by omega) h2 (by rw [hpc]; exact Int.mul_emod_left _ _)
/-- A prime divides no product of numbers that it doesn't divide. -/
theorem prime_mul {p a b : Int} (h : primeB p = true) (ha0 : 0 < a) (ha1 : a < p) (hb0 : 0 < b) (hb1 : b < p) : a * b % p ≠ 0 := by
  intro hz
  have hp := primeB_lo h
  obtain ⟨P, rfl⟩ := Int.eq_ofNat_of_zero_le (show 0 ≤ p by omega)
  obtain ⟨A, rfl⟩ := Int.eq_ofNat_of_zero_le (show 0 ≤ a by omega)
  obtain ⟨B, rfl⟩ := Int.eq_ofNat_of_zero_le (show 0 ≤ b by omega)
  have hdv : P ∣ A * B := by
    have : (P : Int) ∣ (A : Int) * B := Int.dvd_of_emod_eq_zero hz
    exact_mod_cast this
  have hg : Nat.gcd P A ∣ P := Nat.gcd_dvd_left _ _
  have hg1 : Nat.gcd P A = 1 := by
    rcases Nat.lt_or_ge (Nat.gcd P A) 2 with hlt | hge
    · have : 0 < Nat.gcd P A := Nat.gcd_pos_of_pos_left _ (by omega)
      omega
    · have h1 := primeB_dvd h _ hge (by simpa using hg)
      have h2 : Nat.gcd P A ≤ A := Nat.gcd_le_right _ (by omega)
      simp at h1
      omega
  have : P ∣ B := Nat.Coprime.dvd_of_dvd_mul_left (Nat.coprime_iff_gcd_eq_one.2 hg1) hdv
  have := Nat.le_of_dvd (by omega) this
  omega

def mulIn (p a : Int) (g : List Int) (H : Nat → Int) (i k : Nat) : Nat → Int := fun j => if i ≤ j ∧ j < i + k then (H j + a * g.getD (j - i) 0) % p else H j
def mulH (p : Int) (f g : List Int) : Nat → Nat → Int
  | 0 => fun _ => 0
  | i + 1 => mulIn p (f.getD i 0) g (mulH p f g i) i g.length
def mulM (p : Int) (f g : List Int) : List Int := if f.isEmpty || g.isEmpty then [] else tab (f.length + g.length - 1) (mulH p f g f.length)
theorem mulIn_step (p a : Int) (g : List Int) (H : Nat → Int) (N i k : Nat) : (tab N (mulIn p a g H i k)).set (i + k) ((H (i + k) + a * g.getD k 0) % p) = tab N (mulIn p a g H i (k + 1)) := by
  rw [tab_set]
  apply tab_congr
  intro j _
  unfold mulIn
  by_cases e : j = i + k
  · subst e
    rw [if_pos rfl, if_pos (by omega), show i + k - i = k by omega]
  · rw [if_neg e]
    by_cases h : i ≤ j ∧ j < i + k
    · rw [if_pos h, if_pos (by omega)]
    · rw [if_neg h, if_neg (by omega)]
theorem mulIn_zero (p a : Int) (g : List Int) (H : Nat → Int) (i : Nat) : mulIn p a g H i 0 = H := by
  funext j
  unfold mulIn
  rw [if_neg (by omega)]
theorem mulIn_rng {p : Int} (hp : 2 ≤ p) {a : Int} {g : List Int} {H : Nat → Int} {i k : Nat} (hH : ∀ j, 0 ≤ H j ∧ H j < p) : ∀ j, 0 ≤ mulIn p a g H i k j ∧ mulIn p a g H i k j < p := by
  intro j
  unfold mulIn
  split
  · exact modb hp
  · exact hH j
theorem mulH_rng {p : Int} (hp : 2 ≤ p) (f g : List Int) (i : Nat) : ∀ j, 0 ≤ mulH p f g i j ∧ mulH p f g i j < p := by
  induction i with
  | zero => intro j; simp [mulH]; omega
  | succ i ih => exact mulIn_rng hp ih
theorem mulH_far (p : Int) (f g : List Int) (i : Nat) : ∀ j, i + g.length ≤ j + 1 → mulH p f g i j = 0 := by
  induction i with
  | zero => intro j _; rfl
  | succ i ih =>
    intro j hj
    unfold mulH mulIn
    rw [if_neg (by omega)]
    exact ih j (by omega)
theorem mulM_len {p : Int} {f g : List Int} (h1 : f ≠ []) (h2 : g ≠ []) : (mulM p f g).length = f.length + g.length - 1 := by
  unfold mulM
  cases f with
  | nil => exact absurd rfl h1
  | cons a f =>
    cases g with
    | nil => exact absurd rfl h2
    | cons b g => simp [tab_len]
theorem trimL_self {xs : List Int} (h : xs.getD (xs.length - 1) 0 ≠ 0) : trimL xs = xs := by
  unfold trimL
  by_cases h0 : xs.length = 0
  · have : xs = [] := List.eq_nil_of_length_eq_zero h0
    subst this; rfl
  · rw [trimN_stop h (by omega)]
    simp
theorem trimL_nil : trimL [] = [] := rfl
/-- The product of two polynomials has no zero at its end. -/
theorem mulM_trim {p : Int} {f g : List Int} (hp : primeB p = true) (hf : polyB p f = true) (hg : polyB p g = true) : trimL (mulM p f g) = mulM p f g := by
  by_cases h1 : f = []
  · subst h1; rfl
  by_cases h2 : g = []
  · subst h2; unfold mulM; simp; rfl
  have hpl := primeB_lo hp
  have lf : f.length ≠ 0 := fun h => h1 (List.eq_nil_of_length_eq_zero h)
  have lg : g.length ≠ 0 := fun h => h2 (List.eq_nil_of_length_eq_zero h)
  apply trimL_self
  rw [mulM_len h1 h2]
  have e : mulM p f g = tab (f.length + g.length - 1) (mulH p f g f.length) := by
    unfold mulM
    have e1 : f.isEmpty = false := by simpa using h1
    have e2 : g.isEmpty = false := by simpa using h2
    rw [e1, e2]; rfl
  rw [e, tab_at _ _ _ (by omega)]
  obtain ⟨n, hn⟩ : ∃ n, f.length = n + 1 := ⟨f.length - 1, by omega⟩
  rw [hn]
  unfold mulH mulIn
  rw [if_pos (by omega), mulH_far p f g n _ (by omega)]
  obtain ⟨f1, f2, f3⟩ := polyB_rng hf
  obtain ⟨g1, g2, g3⟩ := polyB_rng hg
  have a1 := areB_at f2 n (by omega)
  have b1 := areB_at g2 (g.length - 1) (by omega)
  have a0 : f.getD n 0 ≠ 0 := by
    rcases f3 with h | h
    · exact absurd h h1
    · rwa [hn, Nat.add_sub_cancel] at h
  have b0 : g.getD (g.length - 1) 0 ≠ 0 := by
    rcases g3 with h | h
    · exact absurd h h2
    · exact h
  have e2 : n + 1 + g.length - 1 - 1 - n = g.length - 1 := by omega
  rw [e2, Int.zero_add]
  exact prime_mul hp (by omega) (by omega) (by omega) (by omega)
end Go.Proofs.Ythahcnmfaghohaa
