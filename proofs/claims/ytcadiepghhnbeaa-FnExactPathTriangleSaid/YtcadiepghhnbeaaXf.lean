/- Contracts: l09Sums (model). -/
import Derived.Test.YtcadiepghhnbeaaXc
namespace Go.Proofs.Ytcadiepghhnbeaa
open Go.RowKit
set_option linter.unusedVariables false
set_option linter.unusedSimpArgs false

/-- what the rounds keep: the box, the old row, the new one -/
structure SumI (w wr : World) (p : Int) (a : Option Addr) (n c : Nat) (b : Option Addr) (d g gN : Nat) (v row : List Int) : Prop where
  c0 : wr.cell? ⟨w.heap.size, 0, none⟩ = some (.int .i64 p)
  c1 : wr.cell? ⟨w.heap.size, 1, none⟩ = some (.slice a n c)
  c2 : wr.cell? ⟨w.heap.size, 2, none⟩ = some (.slice b n d)
  old : RowI wr g v
  new : RowI wr gN row
  bel : Below w.heap.size w wr
  lg : w.heap.size < g
  lN : w.heap.size < gN
  ne : g ≠ gN
theorem SumI.below {w wr w' : World} {p : Int} {a : Option Addr} {n c : Nat} {b : Option Addr} {d g gN : Nat} {v row : List Int} (h : SumI w wr p a n c b d g gN v row) (t : Below wr.heap.size wr w') : SumI w w' p a n c b d g gN v row :=
  ⟨cell_be t h.c0, cell_be t h.c1, cell_be t h.c2, h.old.next t, h.new.next t, h.bel.trans (t.mono h.bel.size), h.lg, h.lN, h.ne⟩
theorem SumI.put {w wr : World} {p : Int} {a : Option Addr} {n c : Nat} {b : Option Addr} {d g gN : Nat} {v row : List Int} (h : SumI w wr p a n c b d g gN v row) (j : Nat) (x : Int) : SumI w (wr.setCell ⟨gN, j, none⟩ (.int .i64 x)) p a n c b d g gN v (row.set j x) := by
  have l := h.lN
  exact ⟨cell_set2 h.c0 (by simp; omega) _, cell_set2 h.c1 (by simp; omega) _, cell_set2 h.c2 (by simp; omega) _, h.old.other (fun e => h.ne e.symm) _, h.new.set j x, h.bel.setCell (by simp; omega) _, h.lg, h.lN, h.ne⟩
set_option maxRecDepth 100000 in
set_option maxHeartbeats 6400000 in
theorem l09Sums_any (p : Int) (a : Option Addr) (n c : Nat) (A : List Int) (b : Option Addr) (d : Nat) (B : List Int) (N i m : Nat) (w : World)
    (hA : SL w a n c A) (hB : SL w b n d B) (hn : n ≤ 1000) (hm : m ≤ n) (hN : N ≤ 1000) (hi : i ≤ 1000) (hp : 2 ≤ p) (hp2 : p ≤ 10007) (ha : areB p A = true) (hb : areB p B = true) :
    Calls Try.prog 58 #[jac p a n c b n d, .int .i64 N, .int .i64 i, .int .i64 m] w fun e w' => ∃ a', e = .returned (.slice a' m m) ∧ Own w.heap.size w' a' m (rowP p A B m i N) ∧ Below w.heap.size w w' := by
  have Ha := hide ha
  have Hb := hide hb
  have hb0 := bl1 w (.cells #[.int .i64 p, .slice a n c, .slice b n d] 45)
  have f0 : (w.alloc (.cells #[.int .i64 p, .slice a n c, .slice b n d] 45)).cell? ⟨w.heap.size, 0, none⟩ = some (.int .i64 p) := by simp [go_sem]
  have f1 : (w.alloc (.cells #[.int .i64 p, .slice a n c, .slice b n d] 45)).cell? ⟨w.heap.size, 1, none⟩ = some (.slice a n c) := by simp [go_sem]
  have f2 : (w.alloc (.cells #[.int .i64 p, .slice a n c, .slice b n d] 45)).cell? ⟨w.heap.size, 2, none⟩ = some (.slice b n d) := by simp [go_sem]
  have v1 : (1 : Int).tmod p = 1 := by rw [Int.tmod_eq_emod_of_nonneg (by omega)]; exact Int.emod_eq_of_lt (by omega) (by omega)
  have q0 : (0 : Int) ≤ (i : Int) := by omega
  have hp0 : ¬ p = 0 := by omega
  clear ha hb
  go_enter Try.func58, Try.ntmps58
  go_upto_if 19 with (at_make; refine wp_make rfl _ _ rfl _ _ m rfl rfl rfl rfl (by omega) ?_; intro w1 hrow hb hsz; have g0 := cell_be hb f0; have g1 := cell_be hb f1; have g2 := cell_be hb f2; have hB1 := bnext hb0 hb; have hrow2 := hide (show RowI w1 (w.heap.size + 1) (List.replicate m 0) from (by simpa using hrow.out)); have hz1 : w.heap.size + 1 < w1.heap.size := (by simpa using hsz); clear hrow hsz f0 f1 f2 hb0)
  go_cut [] (fun wx => Hid (RowI wx (w.heap.size + 1) (rowP p A B m i 0)) ∧ Hid (wx.cell? ⟨w.heap.size, 0, none⟩ = some (.int .i64 p) ∧ wx.cell? ⟨w.heap.size, 1, none⟩ = some (.slice a n c) ∧ wx.cell? ⟨w.heap.size, 2, none⟩ = some (.slice b n d)) ∧ Hid (Below w.heap.size w wx) ∧ w.heap.size + 1 < wx.heap.size)
  case first =>
    by_cases him : i < m
    · have him' : (i : Int) < (m : Int) := by omega
      have e1 := hrow2.out.cell i (by rw [List.length_replicate]; exact him)
      rw [zeroD] at e1
      have fr := hrow2.out.free i
      have Z1 := hide (show RowI (w1.setCell ⟨w.heap.size + 1, i, none⟩ (.int .i64 1)) (w.heap.size + 1) (rowP p A B m i 0) from hrow2.out.set i 1)
      have Z2 := hide (And.intro (cell_set2 (a := ⟨w.heap.size + 1, i, none⟩) g0 (by simp) (.int .i64 1)) (And.intro (cell_set2 (a := ⟨w.heap.size + 1, i, none⟩) g1 (by simp) (.int .i64 1)) (cell_set2 (a := ⟨w.heap.size + 1, i, none⟩) g2 (by simp) (.int .i64 1))))
      have Z3 := hide (hB1.setCell (p := ⟨w.heap.size + 1, i, none⟩) (by simp) (.int .i64 1))
      have Z4 : w.heap.size + 1 < (w1.setCell ⟨w.heap.size + 1, i, none⟩ (.int .i64 1)).heap.size := by simpa using hz1
      go_wp2
      go_meet
      exact ⟨Z1, Z2, Z3, Z4⟩
    · have him' : ¬ (i : Int) < (m : Int) := by omega
      have Z1 := hide (show RowI w1 (w.heap.size + 1) (rowP p A B m i 0) from by
        rw [rowP, List.set_eq_of_length_le (by simp; omega)]
        exact hrow2.out)
      have Z2 := hide (And.intro g0 (And.intro g1 g2))
      have Z3 := hide hB1
      go_wp2
      go_meet
      exact ⟨Z1, Z2, Z3, hz1⟩
  case rest =>
    obtain ⟨Z1, Z2, Z3, Z4⟩ := hcut
    obtain ⟨wy, hwy⟩ : ∃ w6, w6 = wc := ⟨wc, rfl⟩
    subst hwy
    clear hrow2 hz1 hB1 g0 g1 g2 v1
    go_wp2_with fail
    go_loopw [1, 10] (fun nv ov wr => ∃ (t g : Nat), t ≤ N ∧ nv = .int .i64 ((N - t : Nat) : Int) ∧ ov = .slice (some ⟨g, 0, none⟩) m m ∧ Hid (RowI wr g (rowP p A B m i t)) ∧ Hid (wr.cell? ⟨w.heap.size, 0, none⟩ = some (.int .i64 p) ∧ wr.cell? ⟨w.heap.size, 1, none⟩ = some (.slice a n c) ∧ wr.cell? ⟨w.heap.size, 2, none⟩ = some (.slice b n d)) ∧ Hid (Below w.heap.size w wr) ∧ w.heap.size < g ∧ w.heap.size < wr.heap.size) (fun nv _ _ => (intOf nv).toNat)
    case atStart => exact ⟨0, w.heap.size + 1, by omega, rfl, rfl, Z1, Z2, Z3, by omega, by omega⟩
    case round =>
      obtain ⟨t, g, ht, rfl, rfl, hR, hC, hW, hg, hz⟩ := hrel
      clear Z1 Z2 Z3 Z4
      by_cases hlt : t < N
      · have hpos : (0 : Int) < ((N - t : Nat) : Int) := by omega
        have hne : ¬ N - t = 0 := by omega
        have Hgl := hide hR.out.lt
        go_upto_region 8 with (at_make; refine wp_make rfl _ _ rfl _ _ m rfl rfl rfl rfl (by omega) ?_; intro w2 hrow hb hsz)
        have hI : SumI w w2 p a n c b d g wr.heap.size (rowP p A B m i t) (rndsP p A B (rowP p A B m i t) 0) :=
          ⟨cell_be hb hC.out.1, cell_be hb hC.out.2.1, cell_be hb hC.out.2.2, hR.out.next hb, by have := hrow.out; rwa [rndsP, rowP_len], hW.out.trans (hb.mono hW.out.size), hg, by omega, by have := Hgl.out; omega⟩
        have HI := hide hI
        obtain ⟨gN, hgN⟩ : ∃ gN, gN = wr.heap.size := ⟨_, rfl⟩
        rw [← hgN] at HI ⊢
        have hz2 : w.heap.size < w2.heap.size := by omega
        have Hvl := hide (rowP_len p A B m i t)
        have Hvr := hide (rowP_rng hp A B m i t)
        have HNx := hide (show rowP p A B m i (t + 1) = rndsP p A B (rowP p A B m i t) m by rw [rowP, sprP, rowP_len])
        obtain ⟨v, hv⟩ : ∃ v, rowP p A B m i t = v := ⟨_, rfl⟩
        rw [hv] at HI Hvl Hvr HNx
        clear hI hrow hb hsz hR hC hW Hgl hv hgN
        go_wp2_with fail
        go_loopw [12] (fun hv wx => ∃ h : Nat, h ≤ m ∧ hv = .int .i64 h ∧ Hid (SumI w wx p a n c b d g gN v (rndsP p A B v h)) ∧ w.heap.size < wx.heap.size) (fun hv _ => m - (intOf hv).toNat)
        case atStart => exact ⟨0, by omega, rfl, HI, hz2⟩
        case round =>
          obtain ⟨h, hh, rfl, HIx, hzx⟩ := hrel
          clear HI hz2
          by_cases hhm : h < m
          · have hhm' : (h : Int) < (m : Int) := by omega
            have hhn' : (h : Int) < (n : Int) := by omega
            have hh0 : (0 : Int) ≤ (h : Int) := by omega
            obtain ⟨gA, oA, rfl, hgA, hcA⟩ := hA.at (by omega)
            obtain ⟨gB, oB, rfl, hgB, hcB⟩ := hB.at (by omega)
            have eA := hide (hcA h (by omega))
            have eB := hide (hcB h (by omega))
            have rA := getD_rng Ha.out hp h
            have rB := getD_rng Hb.out hp h
            have rX := Hvr.out h
            have Hrr := hide (rndsP_rng hp A B v h)
            have Hrl := hide (show (rndsP p A B v h).length = m by rw [rndsP_len, Hvl.out])
            have HNr := hide (show rndsP p A B v (h + 1) = rndD p B v (addAt p (addAt p (rndsP p A B v h) h (v.getD h 0 * A.getD h 0)) (h + 1) (v.getD h 0)) h by rw [rndsP, rndP_LUD])
            obtain ⟨row, hrow⟩ : ∃ row, rndsP p A B v h = row := ⟨_, rfl⟩
            rw [hrow] at HIx Hrr Hrl HNr
            obtain ⟨WA, hWA⟩ : ∃ x, A.getD h 0 = x := ⟨_, rfl⟩
            obtain ⟨WB, hWB⟩ : ∃ x, B.getD h 0 = x := ⟨_, rfl⟩
            have HX := hide (show v.getD h 0 = v.getD h 0 from rfl)
            rw [hWA] at eA rA HNr
            rw [hWB] at eB rB
            have HWB := hide hWB
            clear hcA hcB hrow hWA hWB HX
            obtain ⟨X, hX⟩ : ∃ X, v.getD h 0 = X := ⟨_, rfl⟩
            rw [hX] at rX HNr
            have HX := hide hX
            clear hX
            obtain ⟨mA0, mA1⟩ := mulb rX.1 rX.2 rA.1 rA.2 hp2
            obtain ⟨mB0, mB1⟩ := mulb rX.1 rX.2 rB.1 rB.2 hp2
            have Hl1 := hide (show (addAt p row h (X * WA)).length = m by rw [addAt_len, Hrl.out])
            by_cases hd : h = 0
            · have Hd := hide hd
              clear hd
              by_cases hu : h + 1 < m
              · have zc := HIx.out.new.cell h (by rw [Hrl.out]; omega)
                have yc := HIx.out.new.free h
                have rc := Hrr.out h
                obtain ⟨R, hR⟩ : ∃ R, (row).getD h 0 = R := ⟨_, rfl⟩
                rw [hR] at zc rc
                have HR := hide hR
                have xc := HIx.out.old.cell h (by rw [Hvl.out]; exact hhm)
                rw [HX.out] at xc
                have k1 := HIx.out.c1
                have k2 := HIx.out.c2
                have a1 := cell_be HIx.out.bel eA.out
                have a2 := cell_be HIx.out.bel eB.out
                have w1 : IntKind.i64.wrap (R + X * WA) = R + X * WA := IntWalk.i64_in _ (by omega)
                have w2 : IntKind.i64.wrap (X * WA) = X * WA := IntWalk.i64_in _ (by omega)
                have w3 : (R + X * WA).tmod p = (R + X * WA) % p := Int.tmod_eq_emod_of_nonneg (by omega)
                have hbd := (Below.refl wr.heap.size wr).drew
                clear hR
                go_upto_region 11 with fail
                refine region_E (fun w' => w'.cell? ⟨gN, h, none⟩ = some (.int .i64 R) ∧ w'.cell? ⟨g, h, none⟩ = some (.int .i64 X) ∧ w'.cell? ⟨w.heap.size, 1, none⟩ = some (.slice (some ⟨gA, oA, none⟩) n c) ∧ w'.cell? ⟨gA, oA + h, none⟩ = some (.int .i64 WA)) 20 (by kernel_rfl) ⟨cell_be hbd zc, cell_be hbd xc, cell_be hbd k1, cell_be hbd a1⟩ ?_
                intro hS
                refine anyE_takeL 0 rfl (by kernel_rfl) (fun _ _ _ h => h) hS (by rfl) (v := ?_) ?_ ?_
                rotate_left
                · intro w' hSw; (try dsimp only at hSw); go_simp; (try with_reducible rfl)
                try simp only [Act.put, List.setIfInBounds_toArray, List.set_cons_zero, List.set_cons_succ]
                refine anyE_takeL 1 rfl (by kernel_rfl) (fun _ _ _ h => h) hS (by rfl) (v := ?_) ?_ ?_
                rotate_left
                · intro w' hSw; (try dsimp only at hSw); go_simp; (try with_reducible rfl)
                try simp only [Act.put, List.setIfInBounds_toArray, List.set_cons_zero, List.set_cons_succ]
                refine anyE_takeL 2 rfl (by kernel_rfl) (fun _ _ _ h => h) hS (by rfl) (v := ?_) ?_ ?_
                rotate_left
                · intro w' hSw; (try dsimp only at hSw); go_simp; (try with_reducible rfl)
                try simp only [Act.put, List.setIfInBounds_toArray, List.set_cons_zero, List.set_cons_succ]
                refine anyE_takeL 3 rfl (by kernel_rfl) (fun _ _ _ h => h) hS (by rfl) (v := ?_) ?_ ?_
                rotate_left
                · intro w' hSw; (try dsimp only at hSw); go_simp; (try with_reducible rfl)
                try simp only [Act.put, List.setIfInBounds_toArray, List.set_cons_zero, List.set_cons_succ]
                refine anyE_takeL 4 rfl (by kernel_rfl) (fun _ _ _ h => h) hS (by rfl) (v := ?_) ?_ ?_
                rotate_left
                · intro w' hSw; (try dsimp only at hSw); go_simp; (try with_reducible rfl)
                try simp only [Act.put, List.setIfInBounds_toArray, List.set_cons_zero, List.set_cons_succ]
                refine anyE_takeL 5 rfl (by kernel_rfl) (fun _ _ _ h => h) hS (by rfl) (v := ?_) ?_ ?_
                rotate_left
                · intro w' hSw; (try dsimp only at hSw); go_simp; (try with_reducible rfl)
                try simp only [Act.put, List.setIfInBounds_toArray, List.set_cons_zero, List.set_cons_succ]
                refine anyE_takeL 6 rfl (by kernel_rfl) (fun _ _ _ h => h) hS (by rfl) (v := ?_) ?_ ?_
                rotate_left
                · intro w' hSw; (try dsimp only at hSw); go_simp; (try with_reducible rfl)
                try simp only [Act.put, List.setIfInBounds_toArray, List.set_cons_zero, List.set_cons_succ]
                refine anyE_takeL 7 rfl (by kernel_rfl) (fun _ _ _ h => h) hS (by rfl) (v := ?_) ?_ ?_
                rotate_left
                · intro w' hSw; (try dsimp only at hSw); go_simp; (try with_reducible rfl)
                try simp only [Act.put, List.setIfInBounds_toArray, List.set_cons_zero, List.set_cons_succ]
                refine anyE_takeL 8 rfl (by kernel_rfl) (fun _ _ _ h => h) hS (by rfl) (v := ?_) ?_ ?_
                rotate_left
                · intro w' hSw; (try dsimp only at hSw); go_simp; (try with_reducible rfl)
                try simp only [Act.put, List.setIfInBounds_toArray, List.set_cons_zero, List.set_cons_succ]
                refine anyE_takeL 9 rfl (by kernel_rfl) (fun _ _ _ h => h) hS (by rfl) (v := ?_) ?_ ?_
                rotate_left
                · intro w' hSw; (try dsimp only at hSw); go_simp; (try with_reducible rfl)
                try simp only [Act.put, List.setIfInBounds_toArray, List.set_cons_zero, List.set_cons_succ]
                refine anyE_takeL 10 rfl (by kernel_rfl) (fun _ _ _ h => h) hS (by rfl) (v := ?_) ?_ ?_
                rotate_left
                · intro w' hSw; (try dsimp only at hSw); go_simp; (try with_reducible rfl)
                try simp only [Act.put, List.setIfInBounds_toArray, List.set_cons_zero, List.set_cons_succ]
                refine anyE_takeL 11 rfl (by kernel_rfl) (fun _ _ _ h => h) hS (by rfl) (v := ?_) ?_ ?_
                rotate_left
                · intro w' hSw; (try dsimp only at hSw); go_simp; (try with_reducible rfl)
                try simp only [Act.put, List.setIfInBounds_toArray, List.set_cons_zero, List.set_cons_succ]
                refine anyE_takeL 12 rfl (by kernel_rfl) (fun _ _ _ h => h) hS (by rfl) (v := ?_) ?_ ?_
                rotate_left
                · intro w' hSw; (try dsimp only at hSw); go_simp; (try with_reducible rfl)
                try simp only [Act.put, List.setIfInBounds_toArray, List.set_cons_zero, List.set_cons_succ]
                refine anyE_takeL 13 rfl (by kernel_rfl) (fun _ _ _ h => h) hS (by rfl) (v := ?_) ?_ ?_
                rotate_left
                · intro w' hSw; (try dsimp only at hSw); go_simp; (try with_reducible rfl)
                try simp only [Act.put, List.setIfInBounds_toArray, List.set_cons_zero, List.set_cons_succ]
                refine anyE_takeL 14 rfl (by kernel_rfl) (fun _ _ _ h => h) hS (by rfl) (v := ?_) ?_ ?_
                rotate_left
                · intro w' hSw; (try dsimp only at hSw); go_simp; (try with_reducible rfl)
                try simp only [Act.put, List.setIfInBounds_toArray, List.set_cons_zero, List.set_cons_succ]
                refine anyE_takeL 15 rfl (by kernel_rfl) (fun _ _ _ h => h) hS (by rfl) (v := ?_) ?_ ?_
                rotate_left
                · intro w' hSw; (try dsimp only at hSw); go_simp; (try with_reducible rfl)
                try simp only [Act.put, List.setIfInBounds_toArray, List.set_cons_zero, List.set_cons_succ]
                refine anyE_takeL 16 rfl (by kernel_rfl) (fun _ _ _ h => h) hS (by rfl) (v := ?_) ?_ ?_
                rotate_left
                · intro w' hSw; (try dsimp only at hSw); go_simp; (try with_reducible rfl)
                try simp only [Act.put, List.setIfInBounds_toArray, List.set_cons_zero, List.set_cons_succ]
                refine anyE_takeL 17 rfl (by kernel_rfl) (fun _ _ _ h => h) hS (by rfl) (v := ?_) ?_ ?_
                rotate_left
                · intro w' hSw; (try dsimp only at hSw); go_simp; (try with_reducible rfl)
                try simp only [Act.put, List.setIfInBounds_toArray, List.set_cons_zero, List.set_cons_succ]
                refine anyE_takeL 18 rfl (by kernel_rfl) (fun _ _ _ h => h) hS (by rfl) (v := ?_) ?_ ?_
                rotate_left
                · intro w' hSw; (try dsimp only at hSw); go_simp; (try with_reducible rfl)
                try simp only [Act.put, List.setIfInBounds_toArray, List.set_cons_zero, List.set_cons_succ]
                refine anyE_takeL 19 rfl (by kernel_rfl) (fun _ _ _ h => h) hS (by rfl) (v := ?_) ?_ ?_
                rotate_left
                · intro w' hSw; (try dsimp only at hSw); go_simp; (try with_reducible rfl)
                try simp only [Act.put, List.setIfInBounds_toArray, List.set_cons_zero, List.set_cons_succ]
                replace yc := fr_be hbd zc yc
                replace zc := cell_be hbd zc
                have HIn := (HIx.out.put h ((R + X * WA) % p)).below (Below.refl _ _).drew
                rw [show (row).set h ((R + X * WA) % p) = addAt p row h (X * WA) from ad_at p _ _ _ R HR.out] at HIn
                have HIm := hide HIn
                have hzd : w.heap.size < (wr.setCell ⟨gN, h, none⟩ (.int .i64 ((R + X * WA) % p))).drew.heap.size := by simp; omega
                refine anyE_lastL (by kernel_rfl) rfl (by kernel_rfl) (fun K' hK' => ?_)
                go_simp
                refine hK'.out _ _ ?_
                clear hK' K' hS HIn zc yc rc xc k1 k2 a1 a2 w1 w3 hbd HIx HR w2
                try simp only [Act.put, List.setIfInBounds_toArray, List.set_cons_zero, List.set_cons_succ]
                obtain ⟨wa, hwn⟩ : ∃ wn, wn = (wr.setCell ⟨gN, h, none⟩ (.int .i64 ((R + X * WA) % p))).drew := ⟨_, rfl⟩
                rw [← hwn] at HIm hzd ⊢
                have HIx := HIm
                replace Hrr := hide (rngL_add hp Hrr.out h (X * WA))
                replace Hrl := hide (show (addAt p row h (X * WA)).length = m by rw [addAt_len, Hrl.out])
                clear HIm hwn hzx
                have hzx := hzd
                clear hzd
                have u1 : IntKind.i64.wrap ((h : Int) + 1) = (h : Int) + 1 := IntWalk.i64_in _ (by omega)
                have u2 : (h : Int) + 1 < (m : Int) := by omega
                have u3 : (0 : Int) ≤ (h : Int) + 1 := by omega
                have u4 : ((h : Int) + 1).toNat = h + 1 := by omega
                have zc := HIx.out.new.cell (h + 1) (by rw [Hrl.out]; omega)
                have yc := HIx.out.new.free (h + 1)
                have rc := Hrr.out (h + 1)
                obtain ⟨R, hR⟩ : ∃ R, (addAt p row h (X * WA)).getD (h + 1) 0 = R := ⟨_, rfl⟩
                rw [hR] at zc rc
                have HR := hide hR
                have xc := HIx.out.old.cell h (by rw [Hvl.out]; exact hhm)
                rw [HX.out] at xc
                have k1 := HIx.out.c1
                have k2 := HIx.out.c2
                have a1 := cell_be HIx.out.bel eA.out
                have a2 := cell_be HIx.out.bel eB.out
                have w1 : IntKind.i64.wrap (R + X) = R + X := IntWalk.i64_in _ (by omega)
                have w3 : (R + X).tmod p = (R + X) % p := Int.tmod_eq_emod_of_nonneg (by omega)
                have hbd := (Below.refl wa.heap.size wa).drew
                clear hR
                go_upto_region 13 with fail
                refine region_E (fun w' => w'.cell? ⟨gN, (h + 1), none⟩ = some (.int .i64 R) ∧ w'.cell? ⟨g, h, none⟩ = some (.int .i64 X)) 16 (by kernel_rfl) ⟨cell_be hbd zc, cell_be hbd xc⟩ ?_
                intro hS
                refine anyE_takeL 0 rfl (by kernel_rfl) (fun _ _ _ h => h) hS (by rfl) (v := ?_) ?_ ?_
                rotate_left
                · intro w' hSw; (try dsimp only at hSw); go_simp; (try with_reducible rfl)
                try simp only [Act.put, List.setIfInBounds_toArray, List.set_cons_zero, List.set_cons_succ]
                refine anyE_takeL 1 rfl (by kernel_rfl) (fun _ _ _ h => h) hS (by rfl) (v := ?_) ?_ ?_
                rotate_left
                · intro w' hSw; (try dsimp only at hSw); go_simp; (try with_reducible rfl)
                try simp only [Act.put, List.setIfInBounds_toArray, List.set_cons_zero, List.set_cons_succ]
                refine anyE_takeL 2 rfl (by kernel_rfl) (fun _ _ _ h => h) hS (by rfl) (v := ?_) ?_ ?_
                rotate_left
                · intro w' hSw; (try dsimp only at hSw); go_simp; (try with_reducible rfl)
                try simp only [Act.put, List.setIfInBounds_toArray, List.set_cons_zero, List.set_cons_succ]
                refine anyE_takeL 3 rfl (by kernel_rfl) (fun _ _ _ h => h) hS (by rfl) (v := ?_) ?_ ?_
                rotate_left
                · intro w' hSw; (try dsimp only at hSw); go_simp; (try with_reducible rfl)
                try simp only [Act.put, List.setIfInBounds_toArray, List.set_cons_zero, List.set_cons_succ]
                refine anyE_takeL 4 rfl (by kernel_rfl) (fun _ _ _ h => h) hS (by rfl) (v := ?_) ?_ ?_
                rotate_left
                · intro w' hSw; (try dsimp only at hSw); go_simp; (try with_reducible rfl)
                try simp only [Act.put, List.setIfInBounds_toArray, List.set_cons_zero, List.set_cons_succ]
                refine anyE_takeL 5 rfl (by kernel_rfl) (fun _ _ _ h => h) hS (by rfl) (v := ?_) ?_ ?_
                rotate_left
                · intro w' hSw; (try dsimp only at hSw); go_simp; (try with_reducible rfl)
                try simp only [Act.put, List.setIfInBounds_toArray, List.set_cons_zero, List.set_cons_succ]
                refine anyE_takeL 6 rfl (by kernel_rfl) (fun _ _ _ h => h) hS (by rfl) (v := ?_) ?_ ?_
                rotate_left
                · intro w' hSw; (try dsimp only at hSw); go_simp; (try with_reducible rfl)
                try simp only [Act.put, List.setIfInBounds_toArray, List.set_cons_zero, List.set_cons_succ]
                refine anyE_takeL 7 rfl (by kernel_rfl) (fun _ _ _ h => h) hS (by rfl) (v := ?_) ?_ ?_
                rotate_left
                · intro w' hSw; (try dsimp only at hSw); go_simp; (try with_reducible rfl)
                try simp only [Act.put, List.setIfInBounds_toArray, List.set_cons_zero, List.set_cons_succ]
                refine anyE_takeL 8 rfl (by kernel_rfl) (fun _ _ _ h => h) hS (by rfl) (v := ?_) ?_ ?_
                rotate_left
                · intro w' hSw; (try dsimp only at hSw); go_simp; (try with_reducible rfl)
                try simp only [Act.put, List.setIfInBounds_toArray, List.set_cons_zero, List.set_cons_succ]
                refine anyE_takeL 9 rfl (by kernel_rfl) (fun _ _ _ h => h) hS (by rfl) (v := ?_) ?_ ?_
                rotate_left
                · intro w' hSw; (try dsimp only at hSw); go_simp; (try with_reducible rfl)
                try simp only [Act.put, List.setIfInBounds_toArray, List.set_cons_zero, List.set_cons_succ]
                refine anyE_takeL 10 rfl (by kernel_rfl) (fun _ _ _ h => h) hS (by rfl) (v := ?_) ?_ ?_
                rotate_left
                · intro w' hSw; (try dsimp only at hSw); go_simp; (try with_reducible rfl)
                try simp only [Act.put, List.setIfInBounds_toArray, List.set_cons_zero, List.set_cons_succ]
                refine anyE_takeL 11 rfl (by kernel_rfl) (fun _ _ _ h => h) hS (by rfl) (v := ?_) ?_ ?_
                rotate_left
                · intro w' hSw; (try dsimp only at hSw); go_simp; (try with_reducible rfl)
                try simp only [Act.put, List.setIfInBounds_toArray, List.set_cons_zero, List.set_cons_succ]
                refine anyE_takeL 12 rfl (by kernel_rfl) (fun _ _ _ h => h) hS (by rfl) (v := ?_) ?_ ?_
                rotate_left
                · intro w' hSw; (try dsimp only at hSw); go_simp; (try with_reducible rfl)
                try simp only [Act.put, List.setIfInBounds_toArray, List.set_cons_zero, List.set_cons_succ]
                refine anyE_takeL 13 rfl (by kernel_rfl) (fun _ _ _ h => h) hS (by rfl) (v := ?_) ?_ ?_
                rotate_left
                · intro w' hSw; (try dsimp only at hSw); go_simp; (try with_reducible rfl)
                try simp only [Act.put, List.setIfInBounds_toArray, List.set_cons_zero, List.set_cons_succ]
                refine anyE_takeL 14 rfl (by kernel_rfl) (fun _ _ _ h => h) hS (by rfl) (v := ?_) ?_ ?_
                rotate_left
                · intro w' hSw; (try dsimp only at hSw); go_simp; (try with_reducible rfl)
                try simp only [Act.put, List.setIfInBounds_toArray, List.set_cons_zero, List.set_cons_succ]
                refine anyE_takeL 15 rfl (by kernel_rfl) (fun _ _ _ h => h) hS (by rfl) (v := ?_) ?_ ?_
                rotate_left
                · intro w' hSw; (try dsimp only at hSw); go_simp; (try with_reducible rfl)
                try simp only [Act.put, List.setIfInBounds_toArray, List.set_cons_zero, List.set_cons_succ]
                replace yc := fr_be hbd zc yc
                replace zc := cell_be hbd zc
                have HIn := (HIx.out.put (h + 1) ((R + X) % p)).below (Below.refl _ _).drew
                rw [show (addAt p row h (X * WA)).set (h + 1) ((R + X) % p) = addAt p (addAt p row h (X * WA)) (h + 1) X from ad_at p _ _ _ R HR.out] at HIn
                have HIm := hide HIn
                have hzd : w.heap.size < (wa.setCell ⟨gN, (h + 1), none⟩ (.int .i64 ((R + X) % p))).drew.heap.size := by simp; omega
                refine anyE_lastL (by kernel_rfl) rfl (by kernel_rfl) (fun K' hK' => ?_)
                go_simp
                refine hK'.out _ _ ?_
                clear hK' K' hS HIn zc yc rc xc k1 k2 a1 a2 w1 w3 hbd HIx HR
                try simp only [Act.put, List.setIfInBounds_toArray, List.set_cons_zero, List.set_cons_succ]
                obtain ⟨wb, hwn⟩ : ∃ wn, wn = (wa.setCell ⟨gN, (h + 1), none⟩ (.int .i64 ((R + X) % p))).drew := ⟨_, rfl⟩
                rw [← hwn] at HIm hzd ⊢
                have HIx := HIm
                replace Hrr := hide (rngL_add hp Hrr.out (h + 1) (X))
                replace Hrl := hide (show (addAt p (addAt p row h (X * WA)) (h + 1) X).length = m by rw [addAt_len, Hrl.out])
                clear HIm hwn hzx
                have hzx := hzd
                clear hzd
                clear u3 u4
                have d1 : ¬ (0 : Int) < (h : Int) := by have := Hd.out; omega
                have HIz := hide (show SumI w wb p _ n c _ d g gN v (rndsP p A B v (h + 1)) by
                  rw [HNr.out]
                  unfold rndD; rw [if_pos Hd.out]
                  exact HIx.out)
                clear HIx Hrr Hrl
                go_wp2
                go_roundw
                case rel => exact ⟨h + 1, by omega, by go_num, HIz, hzx⟩
                case measure => simp [intOf]; omega
              · have zc := HIx.out.new.cell h (by rw [Hrl.out]; omega)
                have yc := HIx.out.new.free h
                have rc := Hrr.out h
                obtain ⟨R, hR⟩ : ∃ R, (row).getD h 0 = R := ⟨_, rfl⟩
                rw [hR] at zc rc
                have HR := hide hR
                have xc := HIx.out.old.cell h (by rw [Hvl.out]; exact hhm)
                rw [HX.out] at xc
                have k1 := HIx.out.c1
                have k2 := HIx.out.c2
                have a1 := cell_be HIx.out.bel eA.out
                have a2 := cell_be HIx.out.bel eB.out
                have w1 : IntKind.i64.wrap (R + X * WA) = R + X * WA := IntWalk.i64_in _ (by omega)
                have w2 : IntKind.i64.wrap (X * WA) = X * WA := IntWalk.i64_in _ (by omega)
                have w3 : (R + X * WA).tmod p = (R + X * WA) % p := Int.tmod_eq_emod_of_nonneg (by omega)
                have hbd := (Below.refl wr.heap.size wr).drew
                clear hR
                go_upto_region 11 with fail
                refine region_E (fun w' => w'.cell? ⟨gN, h, none⟩ = some (.int .i64 R) ∧ w'.cell? ⟨g, h, none⟩ = some (.int .i64 X) ∧ w'.cell? ⟨w.heap.size, 1, none⟩ = some (.slice (some ⟨gA, oA, none⟩) n c) ∧ w'.cell? ⟨gA, oA + h, none⟩ = some (.int .i64 WA)) 20 (by kernel_rfl) ⟨cell_be hbd zc, cell_be hbd xc, cell_be hbd k1, cell_be hbd a1⟩ ?_
                intro hS
                refine anyE_takeL 0 rfl (by kernel_rfl) (fun _ _ _ h => h) hS (by rfl) (v := ?_) ?_ ?_
                rotate_left
                · intro w' hSw; (try dsimp only at hSw); go_simp; (try with_reducible rfl)
                try simp only [Act.put, List.setIfInBounds_toArray, List.set_cons_zero, List.set_cons_succ]
                refine anyE_takeL 1 rfl (by kernel_rfl) (fun _ _ _ h => h) hS (by rfl) (v := ?_) ?_ ?_
                rotate_left
                · intro w' hSw; (try dsimp only at hSw); go_simp; (try with_reducible rfl)
                try simp only [Act.put, List.setIfInBounds_toArray, List.set_cons_zero, List.set_cons_succ]
                refine anyE_takeL 2 rfl (by kernel_rfl) (fun _ _ _ h => h) hS (by rfl) (v := ?_) ?_ ?_
                rotate_left
                · intro w' hSw; (try dsimp only at hSw); go_simp; (try with_reducible rfl)
                try simp only [Act.put, List.setIfInBounds_toArray, List.set_cons_zero, List.set_cons_succ]
                refine anyE_takeL 3 rfl (by kernel_rfl) (fun _ _ _ h => h) hS (by rfl) (v := ?_) ?_ ?_
                rotate_left
                · intro w' hSw; (try dsimp only at hSw); go_simp; (try with_reducible rfl)
                try simp only [Act.put, List.setIfInBounds_toArray, List.set_cons_zero, List.set_cons_succ]
                refine anyE_takeL 4 rfl (by kernel_rfl) (fun _ _ _ h => h) hS (by rfl) (v := ?_) ?_ ?_
                rotate_left
                · intro w' hSw; (try dsimp only at hSw); go_simp; (try with_reducible rfl)
                try simp only [Act.put, List.setIfInBounds_toArray, List.set_cons_zero, List.set_cons_succ]
                refine anyE_takeL 5 rfl (by kernel_rfl) (fun _ _ _ h => h) hS (by rfl) (v := ?_) ?_ ?_
                rotate_left
                · intro w' hSw; (try dsimp only at hSw); go_simp; (try with_reducible rfl)
                try simp only [Act.put, List.setIfInBounds_toArray, List.set_cons_zero, List.set_cons_succ]
                refine anyE_takeL 6 rfl (by kernel_rfl) (fun _ _ _ h => h) hS (by rfl) (v := ?_) ?_ ?_
                rotate_left
                · intro w' hSw; (try dsimp only at hSw); go_simp; (try with_reducible rfl)
                try simp only [Act.put, List.setIfInBounds_toArray, List.set_cons_zero, List.set_cons_succ]
                refine anyE_takeL 7 rfl (by kernel_rfl) (fun _ _ _ h => h) hS (by rfl) (v := ?_) ?_ ?_
                rotate_left
                · intro w' hSw; (try dsimp only at hSw); go_simp; (try with_reducible rfl)
                try simp only [Act.put, List.setIfInBounds_toArray, List.set_cons_zero, List.set_cons_succ]
                refine anyE_takeL 8 rfl (by kernel_rfl) (fun _ _ _ h => h) hS (by rfl) (v := ?_) ?_ ?_
                rotate_left
                · intro w' hSw; (try dsimp only at hSw); go_simp; (try with_reducible rfl)
                try simp only [Act.put, List.setIfInBounds_toArray, List.set_cons_zero, List.set_cons_succ]
                refine anyE_takeL 9 rfl (by kernel_rfl) (fun _ _ _ h => h) hS (by rfl) (v := ?_) ?_ ?_
                rotate_left
                · intro w' hSw; (try dsimp only at hSw); go_simp; (try with_reducible rfl)
                try simp only [Act.put, List.setIfInBounds_toArray, List.set_cons_zero, List.set_cons_succ]
                refine anyE_takeL 10 rfl (by kernel_rfl) (fun _ _ _ h => h) hS (by rfl) (v := ?_) ?_ ?_
                rotate_left
                · intro w' hSw; (try dsimp only at hSw); go_simp; (try with_reducible rfl)
                try simp only [Act.put, List.setIfInBounds_toArray, List.set_cons_zero, List.set_cons_succ]
                refine anyE_takeL 11 rfl (by kernel_rfl) (fun _ _ _ h => h) hS (by rfl) (v := ?_) ?_ ?_
                rotate_left
                · intro w' hSw; (try dsimp only at hSw); go_simp; (try with_reducible rfl)
                try simp only [Act.put, List.setIfInBounds_toArray, List.set_cons_zero, List.set_cons_succ]
                refine anyE_takeL 12 rfl (by kernel_rfl) (fun _ _ _ h => h) hS (by rfl) (v := ?_) ?_ ?_
                rotate_left
                · intro w' hSw; (try dsimp only at hSw); go_simp; (try with_reducible rfl)
                try simp only [Act.put, List.setIfInBounds_toArray, List.set_cons_zero, List.set_cons_succ]
                refine anyE_takeL 13 rfl (by kernel_rfl) (fun _ _ _ h => h) hS (by rfl) (v := ?_) ?_ ?_
                rotate_left
                · intro w' hSw; (try dsimp only at hSw); go_simp; (try with_reducible rfl)
                try simp only [Act.put, List.setIfInBounds_toArray, List.set_cons_zero, List.set_cons_succ]
                refine anyE_takeL 14 rfl (by kernel_rfl) (fun _ _ _ h => h) hS (by rfl) (v := ?_) ?_ ?_
                rotate_left
                · intro w' hSw; (try dsimp only at hSw); go_simp; (try with_reducible rfl)
                try simp only [Act.put, List.setIfInBounds_toArray, List.set_cons_zero, List.set_cons_succ]
                refine anyE_takeL 15 rfl (by kernel_rfl) (fun _ _ _ h => h) hS (by rfl) (v := ?_) ?_ ?_
                rotate_left
                · intro w' hSw; (try dsimp only at hSw); go_simp; (try with_reducible rfl)
                try simp only [Act.put, List.setIfInBounds_toArray, List.set_cons_zero, List.set_cons_succ]
                refine anyE_takeL 16 rfl (by kernel_rfl) (fun _ _ _ h => h) hS (by rfl) (v := ?_) ?_ ?_
                rotate_left
                · intro w' hSw; (try dsimp only at hSw); go_simp; (try with_reducible rfl)
                try simp only [Act.put, List.setIfInBounds_toArray, List.set_cons_zero, List.set_cons_succ]
                refine anyE_takeL 17 rfl (by kernel_rfl) (fun _ _ _ h => h) hS (by rfl) (v := ?_) ?_ ?_
                rotate_left
                · intro w' hSw; (try dsimp only at hSw); go_simp; (try with_reducible rfl)
                try simp only [Act.put, List.setIfInBounds_toArray, List.set_cons_zero, List.set_cons_succ]
                refine anyE_takeL 18 rfl (by kernel_rfl) (fun _ _ _ h => h) hS (by rfl) (v := ?_) ?_ ?_
                rotate_left
                · intro w' hSw; (try dsimp only at hSw); go_simp; (try with_reducible rfl)
                try simp only [Act.put, List.setIfInBounds_toArray, List.set_cons_zero, List.set_cons_succ]
                refine anyE_takeL 19 rfl (by kernel_rfl) (fun _ _ _ h => h) hS (by rfl) (v := ?_) ?_ ?_
                rotate_left
                · intro w' hSw; (try dsimp only at hSw); go_simp; (try with_reducible rfl)
                try simp only [Act.put, List.setIfInBounds_toArray, List.set_cons_zero, List.set_cons_succ]
                replace yc := fr_be hbd zc yc
                replace zc := cell_be hbd zc
                have HIn := (HIx.out.put h ((R + X * WA) % p)).below (Below.refl _ _).drew
                rw [show (row).set h ((R + X * WA) % p) = addAt p row h (X * WA) from ad_at p _ _ _ R HR.out] at HIn
                have HIm := hide HIn
                have hzd : w.heap.size < (wr.setCell ⟨gN, h, none⟩ (.int .i64 ((R + X * WA) % p))).drew.heap.size := by simp; omega
                refine anyE_lastL (by kernel_rfl) rfl (by kernel_rfl) (fun K' hK' => ?_)
                go_simp
                refine hK'.out _ _ ?_
                clear hK' K' hS HIn zc yc rc xc k1 k2 a1 a2 w1 w3 hbd HIx HR w2
                try simp only [Act.put, List.setIfInBounds_toArray, List.set_cons_zero, List.set_cons_succ]
                obtain ⟨wa, hwn⟩ : ∃ wn, wn = (wr.setCell ⟨gN, h, none⟩ (.int .i64 ((R + X * WA) % p))).drew := ⟨_, rfl⟩
                rw [← hwn] at HIm hzd ⊢
                have HIx := HIm
                replace Hrr := hide (rngL_add hp Hrr.out h (X * WA))
                replace Hrl := hide (show (addAt p row h (X * WA)).length = m by rw [addAt_len, Hrl.out])
                clear HIm hwn hzx
                have hzx := hzd
                clear hzd
                have u1 : IntKind.i64.wrap ((h : Int) + 1) = (h : Int) + 1 := IntWalk.i64_in _ (by omega)
                have u2 : ¬ (h : Int) + 1 < (m : Int) := by omega
                have d1 : ¬ (0 : Int) < (h : Int) := by have := Hd.out; omega
                have HIz := hide (show SumI w wa p _ n c _ d g gN v (rndsP p A B v (h + 1)) by
                  rw [HNr.out]
                  rw [addAt_out p _ (h + 1) X (by rw [Hl1.out]; omega)]
                  unfold rndD; rw [if_pos Hd.out]
                  exact HIx.out)
                clear HIx Hrr Hrl
                go_wp2
                go_roundw
                case rel => exact ⟨h + 1, by omega, by go_num, HIz, hzx⟩
                case measure => simp [intOf]; omega
            · have Hd := hide hd
              clear hd
              by_cases hu : h + 1 < m
              · have zc := HIx.out.new.cell h (by rw [Hrl.out]; omega)
                have yc := HIx.out.new.free h
                have rc := Hrr.out h
                obtain ⟨R, hR⟩ : ∃ R, (row).getD h 0 = R := ⟨_, rfl⟩
                rw [hR] at zc rc
                have HR := hide hR
                have xc := HIx.out.old.cell h (by rw [Hvl.out]; exact hhm)
                rw [HX.out] at xc
                have k1 := HIx.out.c1
                have k2 := HIx.out.c2
                have a1 := cell_be HIx.out.bel eA.out
                have a2 := cell_be HIx.out.bel eB.out
                have w1 : IntKind.i64.wrap (R + X * WA) = R + X * WA := IntWalk.i64_in _ (by omega)
                have w2 : IntKind.i64.wrap (X * WA) = X * WA := IntWalk.i64_in _ (by omega)
                have w3 : (R + X * WA).tmod p = (R + X * WA) % p := Int.tmod_eq_emod_of_nonneg (by omega)
                have hbd := (Below.refl wr.heap.size wr).drew
                clear hR
                go_upto_region 11 with fail
                refine region_E (fun w' => w'.cell? ⟨gN, h, none⟩ = some (.int .i64 R) ∧ w'.cell? ⟨g, h, none⟩ = some (.int .i64 X) ∧ w'.cell? ⟨w.heap.size, 1, none⟩ = some (.slice (some ⟨gA, oA, none⟩) n c) ∧ w'.cell? ⟨gA, oA + h, none⟩ = some (.int .i64 WA)) 20 (by kernel_rfl) ⟨cell_be hbd zc, cell_be hbd xc, cell_be hbd k1, cell_be hbd a1⟩ ?_
                intro hS
                refine anyE_takeL 0 rfl (by kernel_rfl) (fun _ _ _ h => h) hS (by rfl) (v := ?_) ?_ ?_
                rotate_left
                · intro w' hSw; (try dsimp only at hSw); go_simp; (try with_reducible rfl)
                try simp only [Act.put, List.setIfInBounds_toArray, List.set_cons_zero, List.set_cons_succ]
                refine anyE_takeL 1 rfl (by kernel_rfl) (fun _ _ _ h => h) hS (by rfl) (v := ?_) ?_ ?_
                rotate_left
                · intro w' hSw; (try dsimp only at hSw); go_simp; (try with_reducible rfl)
                try simp only [Act.put, List.setIfInBounds_toArray, List.set_cons_zero, List.set_cons_succ]
                refine anyE_takeL 2 rfl (by kernel_rfl) (fun _ _ _ h => h) hS (by rfl) (v := ?_) ?_ ?_
                rotate_left
                · intro w' hSw; (try dsimp only at hSw); go_simp; (try with_reducible rfl)
                try simp only [Act.put, List.setIfInBounds_toArray, List.set_cons_zero, List.set_cons_succ]
                refine anyE_takeL 3 rfl (by kernel_rfl) (fun _ _ _ h => h) hS (by rfl) (v := ?_) ?_ ?_
                rotate_left
                · intro w' hSw; (try dsimp only at hSw); go_simp; (try with_reducible rfl)
                try simp only [Act.put, List.setIfInBounds_toArray, List.set_cons_zero, List.set_cons_succ]
                refine anyE_takeL 4 rfl (by kernel_rfl) (fun _ _ _ h => h) hS (by rfl) (v := ?_) ?_ ?_
                rotate_left
                · intro w' hSw; (try dsimp only at hSw); go_simp; (try with_reducible rfl)
                try simp only [Act.put, List.setIfInBounds_toArray, List.set_cons_zero, List.set_cons_succ]
                refine anyE_takeL 5 rfl (by kernel_rfl) (fun _ _ _ h => h) hS (by rfl) (v := ?_) ?_ ?_
                rotate_left
                · intro w' hSw; (try dsimp only at hSw); go_simp; (try with_reducible rfl)
                try simp only [Act.put, List.setIfInBounds_toArray, List.set_cons_zero, List.set_cons_succ]
                refine anyE_takeL 6 rfl (by kernel_rfl) (fun _ _ _ h => h) hS (by rfl) (v := ?_) ?_ ?_
                rotate_left
                · intro w' hSw; (try dsimp only at hSw); go_simp; (try with_reducible rfl)
                try simp only [Act.put, List.setIfInBounds_toArray, List.set_cons_zero, List.set_cons_succ]
                refine anyE_takeL 7 rfl (by kernel_rfl) (fun _ _ _ h => h) hS (by rfl) (v := ?_) ?_ ?_
                rotate_left
                · intro w' hSw; (try dsimp only at hSw); go_simp; (try with_reducible rfl)
                try simp only [Act.put, List.setIfInBounds_toArray, List.set_cons_zero, List.set_cons_succ]
                refine anyE_takeL 8 rfl (by kernel_rfl) (fun _ _ _ h => h) hS (by rfl) (v := ?_) ?_ ?_
                rotate_left
                · intro w' hSw; (try dsimp only at hSw); go_simp; (try with_reducible rfl)
                try simp only [Act.put, List.setIfInBounds_toArray, List.set_cons_zero, List.set_cons_succ]
                refine anyE_takeL 9 rfl (by kernel_rfl) (fun _ _ _ h => h) hS (by rfl) (v := ?_) ?_ ?_
                rotate_left
                · intro w' hSw; (try dsimp only at hSw); go_simp; (try with_reducible rfl)
                try simp only [Act.put, List.setIfInBounds_toArray, List.set_cons_zero, List.set_cons_succ]
                refine anyE_takeL 10 rfl (by kernel_rfl) (fun _ _ _ h => h) hS (by rfl) (v := ?_) ?_ ?_
                rotate_left
                · intro w' hSw; (try dsimp only at hSw); go_simp; (try with_reducible rfl)
                try simp only [Act.put, List.setIfInBounds_toArray, List.set_cons_zero, List.set_cons_succ]
                refine anyE_takeL 11 rfl (by kernel_rfl) (fun _ _ _ h => h) hS (by rfl) (v := ?_) ?_ ?_
                rotate_left
                · intro w' hSw; (try dsimp only at hSw); go_simp; (try with_reducible rfl)
                try simp only [Act.put, List.setIfInBounds_toArray, List.set_cons_zero, List.set_cons_succ]
                refine anyE_takeL 12 rfl (by kernel_rfl) (fun _ _ _ h => h) hS (by rfl) (v := ?_) ?_ ?_
                rotate_left
                · intro w' hSw; (try dsimp only at hSw); go_simp; (try with_reducible rfl)
                try simp only [Act.put, List.setIfInBounds_toArray, List.set_cons_zero, List.set_cons_succ]
                refine anyE_takeL 13 rfl (by kernel_rfl) (fun _ _ _ h => h) hS (by rfl) (v := ?_) ?_ ?_
                rotate_left
                · intro w' hSw; (try dsimp only at hSw); go_simp; (try with_reducible rfl)
                try simp only [Act.put, List.setIfInBounds_toArray, List.set_cons_zero, List.set_cons_succ]
                refine anyE_takeL 14 rfl (by kernel_rfl) (fun _ _ _ h => h) hS (by rfl) (v := ?_) ?_ ?_
                rotate_left
                · intro w' hSw; (try dsimp only at hSw); go_simp; (try with_reducible rfl)
                try simp only [Act.put, List.setIfInBounds_toArray, List.set_cons_zero, List.set_cons_succ]
                refine anyE_takeL 15 rfl (by kernel_rfl) (fun _ _ _ h => h) hS (by rfl) (v := ?_) ?_ ?_
                rotate_left
                · intro w' hSw; (try dsimp only at hSw); go_simp; (try with_reducible rfl)
                try simp only [Act.put, List.setIfInBounds_toArray, List.set_cons_zero, List.set_cons_succ]
                refine anyE_takeL 16 rfl (by kernel_rfl) (fun _ _ _ h => h) hS (by rfl) (v := ?_) ?_ ?_
                rotate_left
                · intro w' hSw; (try dsimp only at hSw); go_simp; (try with_reducible rfl)
                try simp only [Act.put, List.setIfInBounds_toArray, List.set_cons_zero, List.set_cons_succ]
                refine anyE_takeL 17 rfl (by kernel_rfl) (fun _ _ _ h => h) hS (by rfl) (v := ?_) ?_ ?_
                rotate_left
                · intro w' hSw; (try dsimp only at hSw); go_simp; (try with_reducible rfl)
                try simp only [Act.put, List.setIfInBounds_toArray, List.set_cons_zero, List.set_cons_succ]
                refine anyE_takeL 18 rfl (by kernel_rfl) (fun _ _ _ h => h) hS (by rfl) (v := ?_) ?_ ?_
                rotate_left
                · intro w' hSw; (try dsimp only at hSw); go_simp; (try with_reducible rfl)
                try simp only [Act.put, List.setIfInBounds_toArray, List.set_cons_zero, List.set_cons_succ]
                refine anyE_takeL 19 rfl (by kernel_rfl) (fun _ _ _ h => h) hS (by rfl) (v := ?_) ?_ ?_
                rotate_left
                · intro w' hSw; (try dsimp only at hSw); go_simp; (try with_reducible rfl)
                try simp only [Act.put, List.setIfInBounds_toArray, List.set_cons_zero, List.set_cons_succ]
                replace yc := fr_be hbd zc yc
                replace zc := cell_be hbd zc
                have HIn := (HIx.out.put h ((R + X * WA) % p)).below (Below.refl _ _).drew
                rw [show (row).set h ((R + X * WA) % p) = addAt p row h (X * WA) from ad_at p _ _ _ R HR.out] at HIn
                have HIm := hide HIn
                have hzd : w.heap.size < (wr.setCell ⟨gN, h, none⟩ (.int .i64 ((R + X * WA) % p))).drew.heap.size := by simp; omega
                refine anyE_lastL (by kernel_rfl) rfl (by kernel_rfl) (fun K' hK' => ?_)
                go_simp
                refine hK'.out _ _ ?_
                clear hK' K' hS HIn zc yc rc xc k1 k2 a1 a2 w1 w3 hbd HIx HR w2
                try simp only [Act.put, List.setIfInBounds_toArray, List.set_cons_zero, List.set_cons_succ]
                obtain ⟨wa, hwn⟩ : ∃ wn, wn = (wr.setCell ⟨gN, h, none⟩ (.int .i64 ((R + X * WA) % p))).drew := ⟨_, rfl⟩
                rw [← hwn] at HIm hzd ⊢
                have HIx := HIm
                replace Hrr := hide (rngL_add hp Hrr.out h (X * WA))
                replace Hrl := hide (show (addAt p row h (X * WA)).length = m by rw [addAt_len, Hrl.out])
                clear HIm hwn hzx
                have hzx := hzd
                clear hzd
                have u1 : IntKind.i64.wrap ((h : Int) + 1) = (h : Int) + 1 := IntWalk.i64_in _ (by omega)
                have u2 : (h : Int) + 1 < (m : Int) := by omega
                have u3 : (0 : Int) ≤ (h : Int) + 1 := by omega
                have u4 : ((h : Int) + 1).toNat = h + 1 := by omega
                have zc := HIx.out.new.cell (h + 1) (by rw [Hrl.out]; omega)
                have yc := HIx.out.new.free (h + 1)
                have rc := Hrr.out (h + 1)
                obtain ⟨R, hR⟩ : ∃ R, (addAt p row h (X * WA)).getD (h + 1) 0 = R := ⟨_, rfl⟩
                rw [hR] at zc rc
                have HR := hide hR
                have xc := HIx.out.old.cell h (by rw [Hvl.out]; exact hhm)
                rw [HX.out] at xc
                have k1 := HIx.out.c1
                have k2 := HIx.out.c2
                have a1 := cell_be HIx.out.bel eA.out
                have a2 := cell_be HIx.out.bel eB.out
                have w1 : IntKind.i64.wrap (R + X) = R + X := IntWalk.i64_in _ (by omega)
                have w3 : (R + X).tmod p = (R + X) % p := Int.tmod_eq_emod_of_nonneg (by omega)
                have hbd := (Below.refl wa.heap.size wa).drew
                clear hR
                go_upto_region 13 with fail
                refine region_E (fun w' => w'.cell? ⟨gN, (h + 1), none⟩ = some (.int .i64 R) ∧ w'.cell? ⟨g, h, none⟩ = some (.int .i64 X)) 16 (by kernel_rfl) ⟨cell_be hbd zc, cell_be hbd xc⟩ ?_
                intro hS
                refine anyE_takeL 0 rfl (by kernel_rfl) (fun _ _ _ h => h) hS (by rfl) (v := ?_) ?_ ?_
                rotate_left
                · intro w' hSw; (try dsimp only at hSw); go_simp; (try with_reducible rfl)
                try simp only [Act.put, List.setIfInBounds_toArray, List.set_cons_zero, List.set_cons_succ]
                refine anyE_takeL 1 rfl (by kernel_rfl) (fun _ _ _ h => h) hS (by rfl) (v := ?_) ?_ ?_
                rotate_left
                · intro w' hSw; (try dsimp only at hSw); go_simp; (try with_reducible rfl)
                try simp only [Act.put, List.setIfInBounds_toArray, List.set_cons_zero, List.set_cons_succ]
                refine anyE_takeL 2 rfl (by kernel_rfl) (fun _ _ _ h => h) hS (by rfl) (v := ?_) ?_ ?_
                rotate_left
                · intro w' hSw; (try dsimp only at hSw); go_simp; (try with_reducible rfl)
                try simp only [Act.put, List.setIfInBounds_toArray, List.set_cons_zero, List.set_cons_succ]
                refine anyE_takeL 3 rfl (by kernel_rfl) (fun _ _ _ h => h) hS (by rfl) (v := ?_) ?_ ?_
                rotate_left
                · intro w' hSw; (try dsimp only at hSw); go_simp; (try with_reducible rfl)
                try simp only [Act.put, List.setIfInBounds_toArray, List.set_cons_zero, List.set_cons_succ]
                refine anyE_takeL 4 rfl (by kernel_rfl) (fun _ _ _ h => h) hS (by rfl) (v := ?_) ?_ ?_
                rotate_left
                · intro w' hSw; (try dsimp only at hSw); go_simp; (try with_reducible rfl)
                try simp only [Act.put, List.setIfInBounds_toArray, List.set_cons_zero, List.set_cons_succ]
                refine anyE_takeL 5 rfl (by kernel_rfl) (fun _ _ _ h => h) hS (by rfl) (v := ?_) ?_ ?_
                rotate_left
                · intro w' hSw; (try dsimp only at hSw); go_simp; (try with_reducible rfl)
                try simp only [Act.put, List.setIfInBounds_toArray, List.set_cons_zero, List.set_cons_succ]
                refine anyE_takeL 6 rfl (by kernel_rfl) (fun _ _ _ h => h) hS (by rfl) (v := ?_) ?_ ?_
                rotate_left
                · intro w' hSw; (try dsimp only at hSw); go_simp; (try with_reducible rfl)
                try simp only [Act.put, List.setIfInBounds_toArray, List.set_cons_zero, List.set_cons_succ]
                refine anyE_takeL 7 rfl (by kernel_rfl) (fun _ _ _ h => h) hS (by rfl) (v := ?_) ?_ ?_
                rotate_left
                · intro w' hSw; (try dsimp only at hSw); go_simp; (try with_reducible rfl)
                try simp only [Act.put, List.setIfInBounds_toArray, List.set_cons_zero, List.set_cons_succ]
                refine anyE_takeL 8 rfl (by kernel_rfl) (fun _ _ _ h => h) hS (by rfl) (v := ?_) ?_ ?_
                rotate_left
                · intro w' hSw; (try dsimp only at hSw); go_simp; (try with_reducible rfl)
                try simp only [Act.put, List.setIfInBounds_toArray, List.set_cons_zero, List.set_cons_succ]
                refine anyE_takeL 9 rfl (by kernel_rfl) (fun _ _ _ h => h) hS (by rfl) (v := ?_) ?_ ?_
                rotate_left
                · intro w' hSw; (try dsimp only at hSw); go_simp; (try with_reducible rfl)
                try simp only [Act.put, List.setIfInBounds_toArray, List.set_cons_zero, List.set_cons_succ]
                refine anyE_takeL 10 rfl (by kernel_rfl) (fun _ _ _ h => h) hS (by rfl) (v := ?_) ?_ ?_
                rotate_left
                · intro w' hSw; (try dsimp only at hSw); go_simp; (try with_reducible rfl)
                try simp only [Act.put, List.setIfInBounds_toArray, List.set_cons_zero, List.set_cons_succ]
                refine anyE_takeL 11 rfl (by kernel_rfl) (fun _ _ _ h => h) hS (by rfl) (v := ?_) ?_ ?_
                rotate_left
                · intro w' hSw; (try dsimp only at hSw); go_simp; (try with_reducible rfl)
                try simp only [Act.put, List.setIfInBounds_toArray, List.set_cons_zero, List.set_cons_succ]
                refine anyE_takeL 12 rfl (by kernel_rfl) (fun _ _ _ h => h) hS (by rfl) (v := ?_) ?_ ?_
                rotate_left
                · intro w' hSw; (try dsimp only at hSw); go_simp; (try with_reducible rfl)
                try simp only [Act.put, List.setIfInBounds_toArray, List.set_cons_zero, List.set_cons_succ]
                refine anyE_takeL 13 rfl (by kernel_rfl) (fun _ _ _ h => h) hS (by rfl) (v := ?_) ?_ ?_
                rotate_left
                · intro w' hSw; (try dsimp only at hSw); go_simp; (try with_reducible rfl)
                try simp only [Act.put, List.setIfInBounds_toArray, List.set_cons_zero, List.set_cons_succ]
                refine anyE_takeL 14 rfl (by kernel_rfl) (fun _ _ _ h => h) hS (by rfl) (v := ?_) ?_ ?_
                rotate_left
                · intro w' hSw; (try dsimp only at hSw); go_simp; (try with_reducible rfl)
                try simp only [Act.put, List.setIfInBounds_toArray, List.set_cons_zero, List.set_cons_succ]
                refine anyE_takeL 15 rfl (by kernel_rfl) (fun _ _ _ h => h) hS (by rfl) (v := ?_) ?_ ?_
                rotate_left
                · intro w' hSw; (try dsimp only at hSw); go_simp; (try with_reducible rfl)
                try simp only [Act.put, List.setIfInBounds_toArray, List.set_cons_zero, List.set_cons_succ]
                replace yc := fr_be hbd zc yc
                replace zc := cell_be hbd zc
                have HIn := (HIx.out.put (h + 1) ((R + X) % p)).below (Below.refl _ _).drew
                rw [show (addAt p row h (X * WA)).set (h + 1) ((R + X) % p) = addAt p (addAt p row h (X * WA)) (h + 1) X from ad_at p _ _ _ R HR.out] at HIn
                have HIm := hide HIn
                have hzd : w.heap.size < (wa.setCell ⟨gN, (h + 1), none⟩ (.int .i64 ((R + X) % p))).drew.heap.size := by simp; omega
                refine anyE_lastL (by kernel_rfl) rfl (by kernel_rfl) (fun K' hK' => ?_)
                go_simp
                refine hK'.out _ _ ?_
                clear hK' K' hS HIn zc yc rc xc k1 k2 a1 a2 w1 w3 hbd HIx HR
                try simp only [Act.put, List.setIfInBounds_toArray, List.set_cons_zero, List.set_cons_succ]
                obtain ⟨wb, hwn⟩ : ∃ wn, wn = (wa.setCell ⟨gN, (h + 1), none⟩ (.int .i64 ((R + X) % p))).drew := ⟨_, rfl⟩
                rw [← hwn] at HIm hzd ⊢
                have HIx := HIm
                replace Hrr := hide (rngL_add hp Hrr.out (h + 1) (X))
                replace Hrl := hide (show (addAt p (addAt p row h (X * WA)) (h + 1) X).length = m by rw [addAt_len, Hrl.out])
                clear HIm hwn hzx
                have hzx := hzd
                clear hzd
                clear u3 u4
                have d1 : (0 : Int) < (h : Int) := by have := Hd.out; omega
                have d2 : 1 ≤ (h : Int) := by omega
                have d3 : (0 : Int) ≤ (h : Int) - 1 := by omega
                have d4 : (h : Int) - 1 < (m : Int) := by omega
                have d5 : ((h : Int) - 1).toNat = h - 1 := by omega
                have d6 : IntKind.i64.wrap ((h : Int) - 1) = (h : Int) - 1 := IntWalk.i64_in _ (by omega)
                have zc := HIx.out.new.cell (h - 1) (by rw [Hrl.out]; omega)
                have yc := HIx.out.new.free (h - 1)
                have rc := Hrr.out (h - 1)
                obtain ⟨R, hR⟩ : ∃ R, (addAt p (addAt p row h (X * WA)) (h + 1) X).getD (h - 1) 0 = R := ⟨_, rfl⟩
                rw [hR] at zc rc
                have HR := hide hR
                have xc := HIx.out.old.cell h (by rw [Hvl.out]; exact hhm)
                rw [HX.out] at xc
                have k1 := HIx.out.c1
                have k2 := HIx.out.c2
                have a1 := cell_be HIx.out.bel eA.out
                have a2 := cell_be HIx.out.bel eB.out
                have w1 : IntKind.i64.wrap (R + X * WB) = R + X * WB := IntWalk.i64_in _ (by omega)
                have w2 : IntKind.i64.wrap (X * WB) = X * WB := IntWalk.i64_in _ (by omega)
                have w3 : (R + X * WB).tmod p = (R + X * WB) % p := Int.tmod_eq_emod_of_nonneg (by omega)
                have hbd := (Below.refl wb.heap.size wb).drew
                clear hR
                go_upto_region 15 with fail
                refine region_E (fun w' => w'.cell? ⟨gN, (h - 1), none⟩ = some (.int .i64 R) ∧ w'.cell? ⟨g, h, none⟩ = some (.int .i64 X) ∧ w'.cell? ⟨w.heap.size, 2, none⟩ = some (.slice (some ⟨gB, oB, none⟩) n d) ∧ w'.cell? ⟨gB, oB + h, none⟩ = some (.int .i64 WB)) 22 (by kernel_rfl) ⟨cell_be hbd zc, cell_be hbd xc, cell_be hbd k2, cell_be hbd a2⟩ ?_
                intro hS
                refine anyE_takeL 0 rfl (by kernel_rfl) (fun _ _ _ h => h) hS (by rfl) (v := ?_) ?_ ?_
                rotate_left
                · intro w' hSw; (try dsimp only at hSw); go_simp; (try with_reducible rfl)
                try simp only [Act.put, List.setIfInBounds_toArray, List.set_cons_zero, List.set_cons_succ]
                refine anyE_takeL 1 rfl (by kernel_rfl) (fun _ _ _ h => h) hS (by rfl) (v := ?_) ?_ ?_
                rotate_left
                · intro w' hSw; (try dsimp only at hSw); go_simp; (try with_reducible rfl)
                try simp only [Act.put, List.setIfInBounds_toArray, List.set_cons_zero, List.set_cons_succ]
                refine anyE_takeL 2 rfl (by kernel_rfl) (fun _ _ _ h => h) hS (by rfl) (v := ?_) ?_ ?_
                rotate_left
                · intro w' hSw; (try dsimp only at hSw); go_simp; (try with_reducible rfl)
                try simp only [Act.put, List.setIfInBounds_toArray, List.set_cons_zero, List.set_cons_succ]
                refine anyE_takeL 3 rfl (by kernel_rfl) (fun _ _ _ h => h) hS (by rfl) (v := ?_) ?_ ?_
                rotate_left
                · intro w' hSw; (try dsimp only at hSw); go_simp; (try with_reducible rfl)
                try simp only [Act.put, List.setIfInBounds_toArray, List.set_cons_zero, List.set_cons_succ]
                refine anyE_takeL 4 rfl (by kernel_rfl) (fun _ _ _ h => h) hS (by rfl) (v := ?_) ?_ ?_
                rotate_left
                · intro w' hSw; (try dsimp only at hSw); go_simp; (try with_reducible rfl)
                try simp only [Act.put, List.setIfInBounds_toArray, List.set_cons_zero, List.set_cons_succ]
                refine anyE_takeL 5 rfl (by kernel_rfl) (fun _ _ _ h => h) hS (by rfl) (v := ?_) ?_ ?_
                rotate_left
                · intro w' hSw; (try dsimp only at hSw); go_simp; (try with_reducible rfl)
                try simp only [Act.put, List.setIfInBounds_toArray, List.set_cons_zero, List.set_cons_succ]
                refine anyE_takeL 6 rfl (by kernel_rfl) (fun _ _ _ h => h) hS (by rfl) (v := ?_) ?_ ?_
                rotate_left
                · intro w' hSw; (try dsimp only at hSw); go_simp; (try with_reducible rfl)
                try simp only [Act.put, List.setIfInBounds_toArray, List.set_cons_zero, List.set_cons_succ]
                refine anyE_takeL 7 rfl (by kernel_rfl) (fun _ _ _ h => h) hS (by rfl) (v := ?_) ?_ ?_
                rotate_left
                · intro w' hSw; (try dsimp only at hSw); go_simp; (try with_reducible rfl)
                try simp only [Act.put, List.setIfInBounds_toArray, List.set_cons_zero, List.set_cons_succ]
                refine anyE_takeL 8 rfl (by kernel_rfl) (fun _ _ _ h => h) hS (by rfl) (v := ?_) ?_ ?_
                rotate_left
                · intro w' hSw; (try dsimp only at hSw); go_simp; (try with_reducible rfl)
                try simp only [Act.put, List.setIfInBounds_toArray, List.set_cons_zero, List.set_cons_succ]
                refine anyE_takeL 9 rfl (by kernel_rfl) (fun _ _ _ h => h) hS (by rfl) (v := ?_) ?_ ?_
                rotate_left
                · intro w' hSw; (try dsimp only at hSw); go_simp; (try with_reducible rfl)
                try simp only [Act.put, List.setIfInBounds_toArray, List.set_cons_zero, List.set_cons_succ]
                refine anyE_takeL 10 rfl (by kernel_rfl) (fun _ _ _ h => h) hS (by rfl) (v := ?_) ?_ ?_
                rotate_left
                · intro w' hSw; (try dsimp only at hSw); go_simp; (try with_reducible rfl)
                try simp only [Act.put, List.setIfInBounds_toArray, List.set_cons_zero, List.set_cons_succ]
                refine anyE_takeL 11 rfl (by kernel_rfl) (fun _ _ _ h => h) hS (by rfl) (v := ?_) ?_ ?_
                rotate_left
                · intro w' hSw; (try dsimp only at hSw); go_simp; (try with_reducible rfl)
                try simp only [Act.put, List.setIfInBounds_toArray, List.set_cons_zero, List.set_cons_succ]
                refine anyE_takeL 12 rfl (by kernel_rfl) (fun _ _ _ h => h) hS (by rfl) (v := ?_) ?_ ?_
                rotate_left
                · intro w' hSw; (try dsimp only at hSw); go_simp; (try with_reducible rfl)
                try simp only [Act.put, List.setIfInBounds_toArray, List.set_cons_zero, List.set_cons_succ]
                refine anyE_takeL 13 rfl (by kernel_rfl) (fun _ _ _ h => h) hS (by rfl) (v := ?_) ?_ ?_
                rotate_left
                · intro w' hSw; (try dsimp only at hSw); go_simp; (try with_reducible rfl)
                try simp only [Act.put, List.setIfInBounds_toArray, List.set_cons_zero, List.set_cons_succ]
                refine anyE_takeL 14 rfl (by kernel_rfl) (fun _ _ _ h => h) hS (by rfl) (v := ?_) ?_ ?_
                rotate_left
                · intro w' hSw; (try dsimp only at hSw); go_simp; (try with_reducible rfl)
                try simp only [Act.put, List.setIfInBounds_toArray, List.set_cons_zero, List.set_cons_succ]
                refine anyE_takeL 15 rfl (by kernel_rfl) (fun _ _ _ h => h) hS (by rfl) (v := ?_) ?_ ?_
                rotate_left
                · intro w' hSw; (try dsimp only at hSw); go_simp; (try with_reducible rfl)
                try simp only [Act.put, List.setIfInBounds_toArray, List.set_cons_zero, List.set_cons_succ]
                refine anyE_takeL 16 rfl (by kernel_rfl) (fun _ _ _ h => h) hS (by rfl) (v := ?_) ?_ ?_
                rotate_left
                · intro w' hSw; (try dsimp only at hSw); go_simp; (try with_reducible rfl)
                try simp only [Act.put, List.setIfInBounds_toArray, List.set_cons_zero, List.set_cons_succ]
                refine anyE_takeL 17 rfl (by kernel_rfl) (fun _ _ _ h => h) hS (by rfl) (v := ?_) ?_ ?_
                rotate_left
                · intro w' hSw; (try dsimp only at hSw); go_simp; (try with_reducible rfl)
                try simp only [Act.put, List.setIfInBounds_toArray, List.set_cons_zero, List.set_cons_succ]
                refine anyE_takeL 18 rfl (by kernel_rfl) (fun _ _ _ h => h) hS (by rfl) (v := ?_) ?_ ?_
                rotate_left
                · intro w' hSw; (try dsimp only at hSw); go_simp; (try with_reducible rfl)
                try simp only [Act.put, List.setIfInBounds_toArray, List.set_cons_zero, List.set_cons_succ]
                refine anyE_takeL 19 rfl (by kernel_rfl) (fun _ _ _ h => h) hS (by rfl) (v := ?_) ?_ ?_
                rotate_left
                · intro w' hSw; (try dsimp only at hSw); go_simp; (try with_reducible rfl)
                try simp only [Act.put, List.setIfInBounds_toArray, List.set_cons_zero, List.set_cons_succ]
                refine anyE_takeL 20 rfl (by kernel_rfl) (fun _ _ _ h => h) hS (by rfl) (v := ?_) ?_ ?_
                rotate_left
                · intro w' hSw; (try dsimp only at hSw); go_simp; (try with_reducible rfl)
                try simp only [Act.put, List.setIfInBounds_toArray, List.set_cons_zero, List.set_cons_succ]
                refine anyE_takeL 21 rfl (by kernel_rfl) (fun _ _ _ h => h) hS (by rfl) (v := ?_) ?_ ?_
                rotate_left
                · intro w' hSw; (try dsimp only at hSw); go_simp; (try with_reducible rfl)
                try simp only [Act.put, List.setIfInBounds_toArray, List.set_cons_zero, List.set_cons_succ]
                replace yc := fr_be hbd zc yc
                replace zc := cell_be hbd zc
                have HIn := (HIx.out.put (h - 1) ((R + X * WB) % p)).below (Below.refl _ _).drew
                rw [show (addAt p (addAt p row h (X * WA)) (h + 1) X).set (h - 1) ((R + X * WB) % p) = addAt p (addAt p (addAt p row h (X * WA)) (h + 1) X) (h - 1) (X * WB) from ad_at p _ _ _ R HR.out] at HIn
                have HIm := hide HIn
                have hzd : w.heap.size < (wb.setCell ⟨gN, (h - 1), none⟩ (.int .i64 ((R + X * WB) % p))).drew.heap.size := by simp; omega
                refine anyE_lastL (by kernel_rfl) rfl (by kernel_rfl) (fun K' hK' => ?_)
                go_simp
                refine hK'.out _ _ ?_
                clear hK' K' hS HIn zc yc rc xc k1 k2 a1 a2 w1 w3 hbd HIx HR w2
                try simp only [Act.put, List.setIfInBounds_toArray, List.set_cons_zero, List.set_cons_succ]
                obtain ⟨wd, hwn⟩ : ∃ wn, wn = (wb.setCell ⟨gN, (h - 1), none⟩ (.int .i64 ((R + X * WB) % p))).drew := ⟨_, rfl⟩
                rw [← hwn] at HIm hzd ⊢
                have HIx := HIm
                replace Hrr := hide (rngL_add hp Hrr.out (h - 1) (X * WB))
                replace Hrl := hide (show (addAt p (addAt p (addAt p row h (X * WA)) (h + 1) X) (h - 1) (X * WB)).length = m by rw [addAt_len, Hrl.out])
                clear HIm hwn hzx
                have hzx := hzd
                clear hzd
                clear d1 d2 d3 d4 d5 d6
                have HIz := hide (show SumI w wd p _ n c _ d g gN v (rndsP p A B v (h + 1)) by
                  rw [HNr.out]
                  unfold rndD; rw [if_neg Hd.out, HWB.out, HX.out, Int.mul_comm WB X]
                  exact HIx.out)
                clear HIx Hrr Hrl
                go_wp2
                go_roundw
                case rel => exact ⟨h + 1, by omega, by go_num, HIz, hzx⟩
                case measure => simp [intOf]; omega
              · have zc := HIx.out.new.cell h (by rw [Hrl.out]; omega)
                have yc := HIx.out.new.free h
                have rc := Hrr.out h
                obtain ⟨R, hR⟩ : ∃ R, (row).getD h 0 = R := ⟨_, rfl⟩
                rw [hR] at zc rc
                have HR := hide hR
                have xc := HIx.out.old.cell h (by rw [Hvl.out]; exact hhm)
                rw [HX.out] at xc
                have k1 := HIx.out.c1
                have k2 := HIx.out.c2
                have a1 := cell_be HIx.out.bel eA.out
                have a2 := cell_be HIx.out.bel eB.out
                have w1 : IntKind.i64.wrap (R + X * WA) = R + X * WA := IntWalk.i64_in _ (by omega)
                have w2 : IntKind.i64.wrap (X * WA) = X * WA := IntWalk.i64_in _ (by omega)
                have w3 : (R + X * WA).tmod p = (R + X * WA) % p := Int.tmod_eq_emod_of_nonneg (by omega)
                have hbd := (Below.refl wr.heap.size wr).drew
                clear hR
                go_upto_region 11 with fail
                refine region_E (fun w' => w'.cell? ⟨gN, h, none⟩ = some (.int .i64 R) ∧ w'.cell? ⟨g, h, none⟩ = some (.int .i64 X) ∧ w'.cell? ⟨w.heap.size, 1, none⟩ = some (.slice (some ⟨gA, oA, none⟩) n c) ∧ w'.cell? ⟨gA, oA + h, none⟩ = some (.int .i64 WA)) 20 (by kernel_rfl) ⟨cell_be hbd zc, cell_be hbd xc, cell_be hbd k1, cell_be hbd a1⟩ ?_
                intro hS
                refine anyE_takeL 0 rfl (by kernel_rfl) (fun _ _ _ h => h) hS (by rfl) (v := ?_) ?_ ?_
                rotate_left
                · intro w' hSw; (try dsimp only at hSw); go_simp; (try with_reducible rfl)
                try simp only [Act.put, List.setIfInBounds_toArray, List.set_cons_zero, List.set_cons_succ]
                refine anyE_takeL 1 rfl (by kernel_rfl) (fun _ _ _ h => h) hS (by rfl) (v := ?_) ?_ ?_
                rotate_left
                · intro w' hSw; (try dsimp only at hSw); go_simp; (try with_reducible rfl)
                try simp only [Act.put, List.setIfInBounds_toArray, List.set_cons_zero, List.set_cons_succ]
                refine anyE_takeL 2 rfl (by kernel_rfl) (fun _ _ _ h => h) hS (by rfl) (v := ?_) ?_ ?_
                rotate_left
                · intro w' hSw; (try dsimp only at hSw); go_simp; (try with_reducible rfl)
                try simp only [Act.put, List.setIfInBounds_toArray, List.set_cons_zero, List.set_cons_succ]
                refine anyE_takeL 3 rfl (by kernel_rfl) (fun _ _ _ h => h) hS (by rfl) (v := ?_) ?_ ?_
                rotate_left
                · intro w' hSw; (try dsimp only at hSw); go_simp; (try with_reducible rfl)
                try simp only [Act.put, List.setIfInBounds_toArray, List.set_cons_zero, List.set_cons_succ]
                refine anyE_takeL 4 rfl (by kernel_rfl) (fun _ _ _ h => h) hS (by rfl) (v := ?_) ?_ ?_
                rotate_left
                · intro w' hSw; (try dsimp only at hSw); go_simp; (try with_reducible rfl)
                try simp only [Act.put, List.setIfInBounds_toArray, List.set_cons_zero, List.set_cons_succ]
                refine anyE_takeL 5 rfl (by kernel_rfl) (fun _ _ _ h => h) hS (by rfl) (v := ?_) ?_ ?_
                rotate_left
                · intro w' hSw; (try dsimp only at hSw); go_simp; (try with_reducible rfl)
                try simp only [Act.put, List.setIfInBounds_toArray, List.set_cons_zero, List.set_cons_succ]
                refine anyE_takeL 6 rfl (by kernel_rfl) (fun _ _ _ h => h) hS (by rfl) (v := ?_) ?_ ?_
                rotate_left
                · intro w' hSw; (try dsimp only at hSw); go_simp; (try with_reducible rfl)
                try simp only [Act.put, List.setIfInBounds_toArray, List.set_cons_zero, List.set_cons_succ]
                refine anyE_takeL 7 rfl (by kernel_rfl) (fun _ _ _ h => h) hS (by rfl) (v := ?_) ?_ ?_
                rotate_left
                · intro w' hSw; (try dsimp only at hSw); go_simp; (try with_reducible rfl)
                try simp only [Act.put, List.setIfInBounds_toArray, List.set_cons_zero, List.set_cons_succ]
                refine anyE_takeL 8 rfl (by kernel_rfl) (fun _ _ _ h => h) hS (by rfl) (v := ?_) ?_ ?_
                rotate_left
                · intro w' hSw; (try dsimp only at hSw); go_simp; (try with_reducible rfl)
                try simp only [Act.put, List.setIfInBounds_toArray, List.set_cons_zero, List.set_cons_succ]
                refine anyE_takeL 9 rfl (by kernel_rfl) (fun _ _ _ h => h) hS (by rfl) (v := ?_) ?_ ?_
                rotate_left
                · intro w' hSw; (try dsimp only at hSw); go_simp; (try with_reducible rfl)
                try simp only [Act.put, List.setIfInBounds_toArray, List.set_cons_zero, List.set_cons_succ]
                refine anyE_takeL 10 rfl (by kernel_rfl) (fun _ _ _ h => h) hS (by rfl) (v := ?_) ?_ ?_
                rotate_left
                · intro w' hSw; (try dsimp only at hSw); go_simp; (try with_reducible rfl)
                try simp only [Act.put, List.setIfInBounds_toArray, List.set_cons_zero, List.set_cons_succ]
                refine anyE_takeL 11 rfl (by kernel_rfl) (fun _ _ _ h => h) hS (by rfl) (v := ?_) ?_ ?_
                rotate_left
                · intro w' hSw; (try dsimp only at hSw); go_simp; (try with_reducible rfl)
                try simp only [Act.put, List.setIfInBounds_toArray, List.set_cons_zero, List.set_cons_succ]
                refine anyE_takeL 12 rfl (by kernel_rfl) (fun _ _ _ h => h) hS (by rfl) (v := ?_) ?_ ?_
                rotate_left
                · intro w' hSw; (try dsimp only at hSw); go_simp; (try with_reducible rfl)
                try simp only [Act.put, List.setIfInBounds_toArray, List.set_cons_zero, List.set_cons_succ]
                refine anyE_takeL 13 rfl (by kernel_rfl) (fun _ _ _ h => h) hS (by rfl) (v := ?_) ?_ ?_
                rotate_left
                · intro w' hSw; (try dsimp only at hSw); go_simp; (try with_reducible rfl)
                try simp only [Act.put, List.setIfInBounds_toArray, List.set_cons_zero, List.set_cons_succ]
                refine anyE_takeL 14 rfl (by kernel_rfl) (fun _ _ _ h => h) hS (by rfl) (v := ?_) ?_ ?_
                rotate_left
                · intro w' hSw; (try dsimp only at hSw); go_simp; (try with_reducible rfl)
                try simp only [Act.put, List.setIfInBounds_toArray, List.set_cons_zero, List.set_cons_succ]
                refine anyE_takeL 15 rfl (by kernel_rfl) (fun _ _ _ h => h) hS (by rfl) (v := ?_) ?_ ?_
                rotate_left
                · intro w' hSw; (try dsimp only at hSw); go_simp; (try with_reducible rfl)
                try simp only [Act.put, List.setIfInBounds_toArray, List.set_cons_zero, List.set_cons_succ]
                refine anyE_takeL 16 rfl (by kernel_rfl) (fun _ _ _ h => h) hS (by rfl) (v := ?_) ?_ ?_
                rotate_left
                · intro w' hSw; (try dsimp only at hSw); go_simp; (try with_reducible rfl)
                try simp only [Act.put, List.setIfInBounds_toArray, List.set_cons_zero, List.set_cons_succ]
                refine anyE_takeL 17 rfl (by kernel_rfl) (fun _ _ _ h => h) hS (by rfl) (v := ?_) ?_ ?_
                rotate_left
                · intro w' hSw; (try dsimp only at hSw); go_simp; (try with_reducible rfl)
                try simp only [Act.put, List.setIfInBounds_toArray, List.set_cons_zero, List.set_cons_succ]
                refine anyE_takeL 18 rfl (by kernel_rfl) (fun _ _ _ h => h) hS (by rfl) (v := ?_) ?_ ?_
                rotate_left
                · intro w' hSw; (try dsimp only at hSw); go_simp; (try with_reducible rfl)
                try simp only [Act.put, List.setIfInBounds_toArray, List.set_cons_zero, List.set_cons_succ]
                refine anyE_takeL 19 rfl (by kernel_rfl) (fun _ _ _ h => h) hS (by rfl) (v := ?_) ?_ ?_
                rotate_left
                · intro w' hSw; (try dsimp only at hSw); go_simp; (try with_reducible rfl)
                try simp only [Act.put, List.setIfInBounds_toArray, List.set_cons_zero, List.set_cons_succ]
                replace yc := fr_be hbd zc yc
                replace zc := cell_be hbd zc
                have HIn := (HIx.out.put h ((R + X * WA) % p)).below (Below.refl _ _).drew
                rw [show (row).set h ((R + X * WA) % p) = addAt p row h (X * WA) from ad_at p _ _ _ R HR.out] at HIn
                have HIm := hide HIn
                have hzd : w.heap.size < (wr.setCell ⟨gN, h, none⟩ (.int .i64 ((R + X * WA) % p))).drew.heap.size := by simp; omega
                refine anyE_lastL (by kernel_rfl) rfl (by kernel_rfl) (fun K' hK' => ?_)
                go_simp
                refine hK'.out _ _ ?_
                clear hK' K' hS HIn zc yc rc xc k1 k2 a1 a2 w1 w3 hbd HIx HR w2
                try simp only [Act.put, List.setIfInBounds_toArray, List.set_cons_zero, List.set_cons_succ]
                obtain ⟨wa, hwn⟩ : ∃ wn, wn = (wr.setCell ⟨gN, h, none⟩ (.int .i64 ((R + X * WA) % p))).drew := ⟨_, rfl⟩
                rw [← hwn] at HIm hzd ⊢
                have HIx := HIm
                replace Hrr := hide (rngL_add hp Hrr.out h (X * WA))
                replace Hrl := hide (show (addAt p row h (X * WA)).length = m by rw [addAt_len, Hrl.out])
                clear HIm hwn hzx
                have hzx := hzd
                clear hzd
                have u1 : IntKind.i64.wrap ((h : Int) + 1) = (h : Int) + 1 := IntWalk.i64_in _ (by omega)
                have u2 : ¬ (h : Int) + 1 < (m : Int) := by omega
                have d1 : (0 : Int) < (h : Int) := by have := Hd.out; omega
                have d2 : 1 ≤ (h : Int) := by omega
                have d3 : (0 : Int) ≤ (h : Int) - 1 := by omega
                have d4 : (h : Int) - 1 < (m : Int) := by omega
                have d5 : ((h : Int) - 1).toNat = h - 1 := by omega
                have d6 : IntKind.i64.wrap ((h : Int) - 1) = (h : Int) - 1 := IntWalk.i64_in _ (by omega)
                have zc := HIx.out.new.cell (h - 1) (by rw [Hrl.out]; omega)
                have yc := HIx.out.new.free (h - 1)
                have rc := Hrr.out (h - 1)
                obtain ⟨R, hR⟩ : ∃ R, (addAt p row h (X * WA)).getD (h - 1) 0 = R := ⟨_, rfl⟩
                rw [hR] at zc rc
                have HR := hide hR
                have xc := HIx.out.old.cell h (by rw [Hvl.out]; exact hhm)
                rw [HX.out] at xc
                have k1 := HIx.out.c1
                have k2 := HIx.out.c2
                have a1 := cell_be HIx.out.bel eA.out
                have a2 := cell_be HIx.out.bel eB.out
                have w1 : IntKind.i64.wrap (R + X * WB) = R + X * WB := IntWalk.i64_in _ (by omega)
                have w2 : IntKind.i64.wrap (X * WB) = X * WB := IntWalk.i64_in _ (by omega)
                have w3 : (R + X * WB).tmod p = (R + X * WB) % p := Int.tmod_eq_emod_of_nonneg (by omega)
                have hbd := (Below.refl wa.heap.size wa).drew
                clear hR
                go_upto_region 15 with fail
                refine region_E (fun w' => w'.cell? ⟨gN, (h - 1), none⟩ = some (.int .i64 R) ∧ w'.cell? ⟨g, h, none⟩ = some (.int .i64 X) ∧ w'.cell? ⟨w.heap.size, 2, none⟩ = some (.slice (some ⟨gB, oB, none⟩) n d) ∧ w'.cell? ⟨gB, oB + h, none⟩ = some (.int .i64 WB)) 22 (by kernel_rfl) ⟨cell_be hbd zc, cell_be hbd xc, cell_be hbd k2, cell_be hbd a2⟩ ?_
                intro hS
                refine anyE_takeL 0 rfl (by kernel_rfl) (fun _ _ _ h => h) hS (by rfl) (v := ?_) ?_ ?_
                rotate_left
                · intro w' hSw; (try dsimp only at hSw); go_simp; (try with_reducible rfl)
                try simp only [Act.put, List.setIfInBounds_toArray, List.set_cons_zero, List.set_cons_succ]
                refine anyE_takeL 1 rfl (by kernel_rfl) (fun _ _ _ h => h) hS (by rfl) (v := ?_) ?_ ?_
                rotate_left
                · intro w' hSw; (try dsimp only at hSw); go_simp; (try with_reducible rfl)
                try simp only [Act.put, List.setIfInBounds_toArray, List.set_cons_zero, List.set_cons_succ]
                refine anyE_takeL 2 rfl (by kernel_rfl) (fun _ _ _ h => h) hS (by rfl) (v := ?_) ?_ ?_
                rotate_left
                · intro w' hSw; (try dsimp only at hSw); go_simp; (try with_reducible rfl)
                try simp only [Act.put, List.setIfInBounds_toArray, List.set_cons_zero, List.set_cons_succ]
                refine anyE_takeL 3 rfl (by kernel_rfl) (fun _ _ _ h => h) hS (by rfl) (v := ?_) ?_ ?_
                rotate_left
                · intro w' hSw; (try dsimp only at hSw); go_simp; (try with_reducible rfl)
                try simp only [Act.put, List.setIfInBounds_toArray, List.set_cons_zero, List.set_cons_succ]
                refine anyE_takeL 4 rfl (by kernel_rfl) (fun _ _ _ h => h) hS (by rfl) (v := ?_) ?_ ?_
                rotate_left
                · intro w' hSw; (try dsimp only at hSw); go_simp; (try with_reducible rfl)
                try simp only [Act.put, List.setIfInBounds_toArray, List.set_cons_zero, List.set_cons_succ]
                refine anyE_takeL 5 rfl (by kernel_rfl) (fun _ _ _ h => h) hS (by rfl) (v := ?_) ?_ ?_
                rotate_left
                · intro w' hSw; (try dsimp only at hSw); go_simp; (try with_reducible rfl)
                try simp only [Act.put, List.setIfInBounds_toArray, List.set_cons_zero, List.set_cons_succ]
                refine anyE_takeL 6 rfl (by kernel_rfl) (fun _ _ _ h => h) hS (by rfl) (v := ?_) ?_ ?_
                rotate_left
                · intro w' hSw; (try dsimp only at hSw); go_simp; (try with_reducible rfl)
                try simp only [Act.put, List.setIfInBounds_toArray, List.set_cons_zero, List.set_cons_succ]
                refine anyE_takeL 7 rfl (by kernel_rfl) (fun _ _ _ h => h) hS (by rfl) (v := ?_) ?_ ?_
                rotate_left
                · intro w' hSw; (try dsimp only at hSw); go_simp; (try with_reducible rfl)
                try simp only [Act.put, List.setIfInBounds_toArray, List.set_cons_zero, List.set_cons_succ]
                refine anyE_takeL 8 rfl (by kernel_rfl) (fun _ _ _ h => h) hS (by rfl) (v := ?_) ?_ ?_
                rotate_left
                · intro w' hSw; (try dsimp only at hSw); go_simp; (try with_reducible rfl)
                try simp only [Act.put, List.setIfInBounds_toArray, List.set_cons_zero, List.set_cons_succ]
                refine anyE_takeL 9 rfl (by kernel_rfl) (fun _ _ _ h => h) hS (by rfl) (v := ?_) ?_ ?_
                rotate_left
                · intro w' hSw; (try dsimp only at hSw); go_simp; (try with_reducible rfl)
                try simp only [Act.put, List.setIfInBounds_toArray, List.set_cons_zero, List.set_cons_succ]
                refine anyE_takeL 10 rfl (by kernel_rfl) (fun _ _ _ h => h) hS (by rfl) (v := ?_) ?_ ?_
                rotate_left
                · intro w' hSw; (try dsimp only at hSw); go_simp; (try with_reducible rfl)
                try simp only [Act.put, List.setIfInBounds_toArray, List.set_cons_zero, List.set_cons_succ]
                refine anyE_takeL 11 rfl (by kernel_rfl) (fun _ _ _ h => h) hS (by rfl) (v := ?_) ?_ ?_
                rotate_left
                · intro w' hSw; (try dsimp only at hSw); go_simp; (try with_reducible rfl)
                try simp only [Act.put, List.setIfInBounds_toArray, List.set_cons_zero, List.set_cons_succ]
                refine anyE_takeL 12 rfl (by kernel_rfl) (fun _ _ _ h => h) hS (by rfl) (v := ?_) ?_ ?_
                rotate_left
                · intro w' hSw; (try dsimp only at hSw); go_simp; (try with_reducible rfl)
                try simp only [Act.put, List.setIfInBounds_toArray, List.set_cons_zero, List.set_cons_succ]
                refine anyE_takeL 13 rfl (by kernel_rfl) (fun _ _ _ h => h) hS (by rfl) (v := ?_) ?_ ?_
                rotate_left
                · intro w' hSw; (try dsimp only at hSw); go_simp; (try with_reducible rfl)
                try simp only [Act.put, List.setIfInBounds_toArray, List.set_cons_zero, List.set_cons_succ]
                refine anyE_takeL 14 rfl (by kernel_rfl) (fun _ _ _ h => h) hS (by rfl) (v := ?_) ?_ ?_
                rotate_left
                · intro w' hSw; (try dsimp only at hSw); go_simp; (try with_reducible rfl)
                try simp only [Act.put, List.setIfInBounds_toArray, List.set_cons_zero, List.set_cons_succ]
                refine anyE_takeL 15 rfl (by kernel_rfl) (fun _ _ _ h => h) hS (by rfl) (v := ?_) ?_ ?_
                rotate_left
                · intro w' hSw; (try dsimp only at hSw); go_simp; (try with_reducible rfl)
                try simp only [Act.put, List.setIfInBounds_toArray, List.set_cons_zero, List.set_cons_succ]
                refine anyE_takeL 16 rfl (by kernel_rfl) (fun _ _ _ h => h) hS (by rfl) (v := ?_) ?_ ?_
                rotate_left
                · intro w' hSw; (try dsimp only at hSw); go_simp; (try with_reducible rfl)
                try simp only [Act.put, List.setIfInBounds_toArray, List.set_cons_zero, List.set_cons_succ]
                refine anyE_takeL 17 rfl (by kernel_rfl) (fun _ _ _ h => h) hS (by rfl) (v := ?_) ?_ ?_
                rotate_left
                · intro w' hSw; (try dsimp only at hSw); go_simp; (try with_reducible rfl)
                try simp only [Act.put, List.setIfInBounds_toArray, List.set_cons_zero, List.set_cons_succ]
                refine anyE_takeL 18 rfl (by kernel_rfl) (fun _ _ _ h => h) hS (by rfl) (v := ?_) ?_ ?_
                rotate_left
                · intro w' hSw; (try dsimp only at hSw); go_simp; (try with_reducible rfl)
                try simp only [Act.put, List.setIfInBounds_toArray, List.set_cons_zero, List.set_cons_succ]
                refine anyE_takeL 19 rfl (by kernel_rfl) (fun _ _ _ h => h) hS (by rfl) (v := ?_) ?_ ?_
                rotate_left
                · intro w' hSw; (try dsimp only at hSw); go_simp; (try with_reducible rfl)
                try simp only [Act.put, List.setIfInBounds_toArray, List.set_cons_zero, List.set_cons_succ]
                refine anyE_takeL 20 rfl (by kernel_rfl) (fun _ _ _ h => h) hS (by rfl) (v := ?_) ?_ ?_
                rotate_left
                · intro w' hSw; (try dsimp only at hSw); go_simp; (try with_reducible rfl)
                try simp only [Act.put, List.setIfInBounds_toArray, List.set_cons_zero, List.set_cons_succ]
                refine anyE_takeL 21 rfl (by kernel_rfl) (fun _ _ _ h => h) hS (by rfl) (v := ?_) ?_ ?_
                rotate_left
                · intro w' hSw; (try dsimp only at hSw); go_simp; (try with_reducible rfl)
                try simp only [Act.put, List.setIfInBounds_toArray, List.set_cons_zero, List.set_cons_succ]
                replace yc := fr_be hbd zc yc
                replace zc := cell_be hbd zc
                have HIn := (HIx.out.put (h - 1) ((R + X * WB) % p)).below (Below.refl _ _).drew
                rw [show (addAt p row h (X * WA)).set (h - 1) ((R + X * WB) % p) = addAt p (addAt p row h (X * WA)) (h - 1) (X * WB) from ad_at p _ _ _ R HR.out] at HIn
                have HIm := hide HIn
                have hzd : w.heap.size < (wa.setCell ⟨gN, (h - 1), none⟩ (.int .i64 ((R + X * WB) % p))).drew.heap.size := by simp; omega
                refine anyE_lastL (by kernel_rfl) rfl (by kernel_rfl) (fun K' hK' => ?_)
                go_simp
                refine hK'.out _ _ ?_
                clear hK' K' hS HIn zc yc rc xc k1 k2 a1 a2 w1 w3 hbd HIx HR w2
                try simp only [Act.put, List.setIfInBounds_toArray, List.set_cons_zero, List.set_cons_succ]
                obtain ⟨wd, hwn⟩ : ∃ wn, wn = (wa.setCell ⟨gN, (h - 1), none⟩ (.int .i64 ((R + X * WB) % p))).drew := ⟨_, rfl⟩
                rw [← hwn] at HIm hzd ⊢
                have HIx := HIm
                replace Hrr := hide (rngL_add hp Hrr.out (h - 1) (X * WB))
                replace Hrl := hide (show (addAt p (addAt p row h (X * WA)) (h - 1) (X * WB)).length = m by rw [addAt_len, Hrl.out])
                clear HIm hwn hzx
                have hzx := hzd
                clear hzd
                clear d1 d2 d3 d4 d5 d6
                have HIz := hide (show SumI w wd p _ n c _ d g gN v (rndsP p A B v (h + 1)) by
                  rw [HNr.out]
                  rw [addAt_out p _ (h + 1) X (by rw [Hl1.out]; omega)]
                  unfold rndD; rw [if_neg Hd.out, HWB.out, HX.out, Int.mul_comm WB X]
                  exact HIx.out)
                clear HIx Hrr Hrl
                go_wp2
                go_roundw
                case rel => exact ⟨h + 1, by omega, by go_num, HIz, hzx⟩
                case measure => simp [intOf]; omega
          · have hhe : Hid (h = m) := hide (by omega)
            have hge : ¬ (h : Int) < (m : Int) := by omega
            have vN : IntKind.i64.wrap (((N - t : Nat) : Int) - 1) = ((N - (t + 1) : Nat) : Int) := by rw [show ((N - t : Nat) : Int) - 1 = ((N - (t + 1) : Nat) : Int) by omega]; exact IntWalk.i64_in _ (by omega)
            have Y1 := hide (show RowI wr gN (rowP p A B m i (t + 1)) by rw [HNx.out, ← hhe.out]; exact HIx.out.new)
            have Y2 := hide (And.intro HIx.out.c0 (And.intro HIx.out.c1 HIx.out.c2))
            have Y3 := hide HIx.out.bel
            have Y4 := HIx.out.lN
            clear HIx
            go_wp2
            go_roundw
            case rel => exact ⟨t + 1, gN, by omega, rfl, rfl, Y1, Y2, Y3, Y4, hzx⟩
            case measure => simp [intOf]; omega
      · have htN : Hid (t = N) := hide (by omega)
        have hge : ¬ (0 : Int) < ((N - t : Nat) : Int) := by omega
        go_wp2
        go_ret
        have z := hR.out
        rw [htN.out] at z
        have o := z.own' (B := w.heap.size) (by omega) (by rw [rowP_len]; unfold maxLen; omega)
        rw [rowP_len] at o
        exact ⟨_, rfl, o, hW.out⟩
end Go.Proofs.Ytcadiepghhnbeaa
