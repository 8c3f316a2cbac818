/- Merged texts. -/
import Derived.Test.YtmdfgibpkfkceaaYMj35
import Derived.Test.YtmdfgibpkfkceaaYMj16
import Derived.Test.YtmdfgibpkfkceaaYMj36
/- Contracts: l04Moments, MomentsOfJacobi (model). -/
namespace Go.Proofs.Ytmdfgibpkfkceaa
open Go.RowKit
set_option linter.unusedVariables false
set_option linter.unusedSimpArgs false

def mjS (p : Int) (xs ys : List Int) (n : Nat) : Nat → Int := fun j => (vL p xs ys n j).getD 0 0 * ys.getD 0 0 % p
theorem nxt_rng {p : Int} (hp : 2 ≤ p) (xs ys : List Int) (n : Nat) (v : List Int) (s i : Nat) : 0 ≤ nxt p xs ys n v s i ∧ nxt p xs ys n v s i < p := by
  unfold nxt
  simp only
  split
  · exact modb hp
  · split
    · exact modb hp
    · exact modb hp
theorem vL_are {p : Int} (hp : 2 ≤ p) (xs ys : List Int) (n k : Nat) : areB p (vL p xs ys n k) = true := by
  cases k with
  | zero => exact tab_are' fun j _ => by split <;> omega
  | succ k => exact tab_are' fun j _ => nxt_rng hp xs ys n _ 3 j
/-- The moments of the model are those of the program. -/
theorem mj_same {p : Int} (hp : 2 ≤ p) {xs ys : List Int} (hy : areB p ys = true) (K : Nat) (h0 : 0 < xs.length) : tab K (mjS p xs ys xs.length) = mjL p xs ys K := tab_congr fun j _ => by
  have h1 := getD_rng (rL_are (xs := xs) hp hy xs.length j) hp 0
  have h2 := rv_first p xs ys xs.length j rfl h0
  rw [Int.emod_eq_of_lt h1.1 h1.2] at h2
  rw [h2]
  rfl
/-- The next column while its number j is laid in s steps. -/
def rowQ (p : Int) (xs ys : List Int) (n : Nat) (v : List Int) (j s : Nat) : Nat → Int := fun t => if t < j then nxt p xs ys n v 3 t else if t = j ∧ 0 < s then nxt p xs ys n v s t else 0
theorem rowQ_set (p : Int) (xs ys : List Int) (n : Nat) (v : List Int) (j s s' : Nat) (hs : 0 < s') : (tab n (rowQ p xs ys n v j s)).set j (nxt p xs ys n v s' j) = tab n (rowQ p xs ys n v j s') := by
  rw [tab_set]
  apply tab_congr
  intro t _
  unfold rowQ
  by_cases e : t = j
  · subst e
    rw [if_pos rfl, if_neg (Nat.lt_irrefl t), if_pos ⟨rfl, hs⟩]
  · rw [if_neg e]
    by_cases h : t < j
    · rw [if_pos h, if_pos h]
    · rw [if_neg h, if_neg h, if_neg (fun q => e q.1), if_neg (fun q => e q.1)]
theorem rowQ_next (p : Int) (xs ys : List Int) (n : Nat) (v : List Int) (j : Nat) : tab n (rowQ p xs ys n v j 3) = tab n (rowQ p xs ys n v (j + 1) 0) := tab_congr fun t _ => by
  unfold rowQ
  by_cases h : t < j
  · rw [if_pos h, if_pos (by omega)]
  · rw [if_neg h]
    by_cases e : t = j
    · subst e
      rw [if_pos ⟨rfl, by omega⟩, if_pos (by omega)]
    · rw [if_neg (fun q => e q.1), if_neg (by omega), if_neg (by omega)]
theorem rowQ_zero (p : Int) (xs ys : List Int) (n : Nat) (v : List Int) : tab n (fun _ => 0) = tab n (rowQ p xs ys n v 0 0) := tab_congr fun t _ => by
  unfold rowQ
  rw [if_neg (by omega), if_neg (by omega)]
theorem rowQ_done (p : Int) (xs ys : List Int) (n : Nat) (k : Nat) : tab n (rowQ p xs ys n (vL p xs ys n k) n 0) = vL p xs ys n (k + 1) := tab_congr fun t ht => by
  unfold rowQ
  rw [if_pos ht]
theorem nxt_skip2 (p : Int) (xs ys : List Int) (n : Nat) (v : List Int) (j : Nat) (h : ¬ j + 1 < n) : nxt p xs ys n v 2 j = nxt p xs ys n v 1 j := by
  unfold nxt
  simp [h]
theorem nxt_skip3 (p : Int) (xs ys : List Int) (n : Nat) (v : List Int) (j : Nat) (h : ¬ 0 < j) : nxt p xs ys n v 3 j = nxt p xs ys n v 2 j := by
  unfold nxt
  simp [h]
theorem rowQ_skip (p : Int) (xs ys : List Int) (n : Nat) (v : List Int) (j s s' : Nat) (h1 : 0 < s) (h2 : 0 < s') (h : nxt p xs ys n v s j = nxt p xs ys n v s' j) : tab n (rowQ p xs ys n v j s) = tab n (rowQ p xs ys n v j s') := tab_congr fun t _ => by
  unfold rowQ
  by_cases e : t = j
  · subst e
    rw [if_neg (Nat.lt_irrefl t), if_neg (Nat.lt_irrefl t), if_pos ⟨rfl, h1⟩, if_pos ⟨rfl, h2⟩, h]
  · by_cases g : t < j
    · rw [if_pos g, if_pos g]
    · rw [if_neg g, if_neg g, if_neg (fun q => e q.1), if_neg (fun q => e q.1)]
theorem rowQ_at (p : Int) (xs ys : List Int) (n : Nat) (v : List Int) (j s : Nat) (hj : j < n) (hs : 0 < s) : (tab n (rowQ p xs ys n v j s)).getD j 0 = nxt p xs ys n v s j := by
  rw [tab_at _ _ _ hj]
  unfold rowQ
  rw [if_neg (Nat.lt_irrefl j), if_pos ⟨rfl, hs⟩]
theorem nxt_one (p : Int) (xs ys : List Int) (n : Nat) (v : List Int) (j : Nat) : nxt p xs ys n v 1 j = xs.getD j 0 * v.getD j 0 % p := by
  unfold nxt
  simp
theorem nxt_two (p : Int) (xs ys : List Int) (n : Nat) (v : List Int) (j : Nat) (h : j + 1 < n) : nxt p xs ys n v 2 j = (nxt p xs ys n v 1 j + v.getD (j + 1) 0) % p := by
  unfold nxt
  simp [h]
theorem nxt_three (p : Int) (xs ys : List Int) (n : Nat) (v : List Int) (j : Nat) (h : 0 < j) : nxt p xs ys n v 3 j = (nxt p xs ys n v 2 j + ys.getD j 0 * v.getD (j - 1) 0) % p := by
  unfold nxt
  simp [h]
theorem litOwn0 (W : World) : Own W.heap.size (W.alloc (.cells #[] 2)) (some ⟨W.heap.size, 0, none⟩) 0 [] := World.ownsRow_lit W (base := W.heap.size) (e := 2) (size := 1) #[] 0 (Nat.le_refl _) (by simp) rfl
theorem zrow_atT (W : World) (n g : Nat) (h : g = W.heap.size) : RowI (W.alloc (.cells (zrow n) 2)) g (tab n (fun _ => 0)) := by
  subst h
  exact zrow_row W n
theorem lit_at (W : World) (B g : Nat) (h : g = W.heap.size) (hB : B ≤ g) : Own B (W.alloc (.cells #[] 2)) (some ⟨g, 0, none⟩) 0 [] := by
  subst h
  exact (litOwn0 W).mono hB
set_option maxRecDepth 100000 in
set_option maxHeartbeats 6400000 in
theorem l04Moments_any (p : Int) (a : Option Addr) (n c : Nat) (xs : List Int) (b : Option Addr) (d : Nat) (ys : List Int) (K : Nat) (w : World) (hs : SL w a n c xs) (ht : SL w b n d ys) (hn1 : 1 ≤ n) (hn2 : n ≤ 12) (hK : K ≤ 24)
    (hp : 2 ≤ p) (hp2 : p ≤ 10007) (hx : areB p xs = true) (hy : areB p ys = true) :
    Calls Try.prog 117 #[jac p a n c b n d, .int .i64 K] w fun e w' => ∃ a' c', e = .returned (mom p a' K c') ∧ Own w.heap.size w' a' c' (tab K (mjS p xs ys n)) ∧ Below w.heap.size w w' := by
  have hl := hide hs.len
  have hl2 := hide ht.len
  have hb0 := bl2 w (.cells #[.int .i64 p, .slice a n c, .slice b n d] 39) (.cells #[.int .i64 0, .slice none 0 0] 36)
  obtain ⟨w0, hw0⟩ : ∃ w0, w0 = (w.alloc (.cells #[.int .i64 p, .slice a n c, .slice b n d] 39)).alloc (.cells #[.int .i64 0, .slice none 0 0] 36) := ⟨_, rfl⟩
  rw [← hw0] at hb0
  have j0 : w0.cell? ⟨w.heap.size, 0, none⟩ = some (.int .i64 p) := by rw [hw0]; simp [go_sem]
  have j1 : w0.cell? ⟨w.heap.size, 1, none⟩ = some (.slice a n c) := by rw [hw0]; simp [go_sem]
  have j2 : w0.cell? ⟨w.heap.size, 2, none⟩ = some (.slice b n d) := by rw [hw0]; simp [go_sem]
  have r0 : w0.cell? ⟨w.heap.size + 1, 0, none⟩ = some (.int .i64 0) := by rw [hw0]; simp [go_sem]
  have r1 : w0.cell? ⟨w.heap.size + 1, 1, none⟩ = some (.slice none 0 0) := by rw [hw0]; simp [go_sem]
  have y0 : w0.frozen? ⟨w.heap.size + 1, 0, none⟩ = false := by rw [hw0]; simp [go_sem]
  have y1 : w0.frozen? ⟨w.heap.size + 1, 1, none⟩ = false := by rw [hw0]; simp [go_sem]
  have z0 : w.heap.size + 2 ≤ w0.heap.size := by rw [hw0]; simp
  have Hw0 := hide hw0
  obtain ⟨ba, oa, rfl, hba, hca⟩ := hs.at (by omega)
  obtain ⟨bb, ob, rfl, hbb, hcb⟩ := ht.at (by omega)
  have Hca := hide hca
  have Hcb := hide hcb
  have Hx := hide hx
  have Hy := hide hy
  have hmk := run_mk n (by omega)
  clear hw0 hca hcb hx hy hs ht
  go_enter Try.func117, Try.ntmps117
  go_upto_region 1 with fail
  rw [← Hw0.out]
  go_cut [5, 6] (fun nv pv wx => nv = .int .i64 n ∧ pv = .int .i64 p ∧ Below w0.heap.size w0 wx)
  case first =>
    go_wp2
    go_quiet (fail)
    go_wp2_with fail
    go_meet
    exact ⟨rfl, rfl, below_drewN (Below.refl _ _) _⟩
  case rest =>
  obtain ⟨rfl, rfl, hbc⟩ := hcut
  have hB := bnext hb0 hbc
  have zc := hbc.size
  replace j1 := cell_be hbc j1
  replace j2 := cell_be hbc j2
  replace y0 := (hbc.frozen (World.block_lt_of_cell? _ _ r0)).trans y0
  replace y1 := (hbc.frozen (World.block_lt_of_cell? _ _ r1)).trans y1
  replace r0 := cell_be hbc r0
  replace r1 := cell_be hbc r1
  obtain ⟨w2, hw2⟩ : ∃ w2, w2 = wc := ⟨_, rfl⟩
  subst hw2
  clear hbc hb0 j0
  go_upto_region 2 with fail
  go_cut [7, 8] (fun xv sv wx => ∃ (X Rb Lb : Nat), xv = .pointer (some ⟨X, 0, none⟩) ∧ sv = .slice (some ⟨Rb, 0, none⟩) n n ∧ Hid (wx.cell? ⟨X, 0, none⟩ = some (.int .i64 p) ∧ wx.cell? ⟨X, 1, none⟩ = some (.slice (some ⟨Lb, 0, none⟩) 0 0) ∧ wx.frozen? ⟨X, 1, none⟩ = false) ∧
      Hid (X ≠ Rb ∧ X ≠ Lb ∧ Rb ≠ Lb ∧ w2.heap.size ≤ X ∧ w2.heap.size ≤ Rb ∧ w2.heap.size ≤ Lb) ∧ Hid (RowI wx Rb (tab n (fun _ => 0))) ∧ Hid (Own w2.heap.size wx (some ⟨Lb, 0, none⟩) 0 []) ∧ Hid (Below w2.heap.size w2 wx))
  case first =>
    go_wp2_with fail
    go_region
    all_goals go_wp2_with fail
    all_goals go_meet
    all_goals first
      | exact ⟨w2.heap.size, w2.heap.size + 1, w2.heap.size + 1 + 1, rfl, rfl, hide ⟨(by first | (simp [go_sem]; done) | fail), (by first | (simp [go_sem]; done) | fail), (by first | (simp [go_sem]; done) | fail)⟩, hide ⟨by omega, by omega, by omega, by omega, by omega, by omega⟩, hide (((zrow_atT _ n _ (by first | rfl | (simp; done))).next (bl1 _ _)).next ((Below.refl _ _).drew)), hide (((lit_at _ _ _ (by first | rfl | (simp; done)) (by omega)).below (Below.refl _ _)).below ((Below.refl _ _).drew)), hide ((bl3 _ _ _ _).drew)⟩
      | exact ⟨w2.heap.size, w2.heap.size + 1 + 1, w2.heap.size + 1, rfl, rfl, hide ⟨(by first | (simp [go_sem]; done) | fail), (by first | (simp [go_sem]; done) | fail), (by first | (simp [go_sem]; done) | fail)⟩, hide ⟨by omega, by omega, by omega, by omega, by omega, by omega⟩, hide (((zrow_atT _ n _ (by first | rfl | (simp; done))).next (Below.refl _ _)).next ((Below.refl _ _).drew)), hide (((lit_at _ _ _ (by first | rfl | (simp; done)) (by omega)).below (bl1 _ _)).below ((Below.refl _ _).drew)), hide ((bl3 _ _ _ _).drew)⟩
      | exact ⟨w2.heap.size + 1, w2.heap.size, w2.heap.size + 1 + 1, rfl, rfl, hide ⟨(by first | (simp [go_sem]; done) | fail), (by first | (simp [go_sem]; done) | fail), (by first | (simp [go_sem]; done) | fail)⟩, hide ⟨by omega, by omega, by omega, by omega, by omega, by omega⟩, hide (((zrow_atT _ n _ (by first | rfl | (simp; done))).next (bl2 _ _ _)).next ((Below.refl _ _).drew)), hide (((lit_at _ _ _ (by first | rfl | (simp; done)) (by omega)).below (Below.refl _ _)).below ((Below.refl _ _).drew)), hide ((bl3 _ _ _ _).drew)⟩
      | exact ⟨w2.heap.size + 1, w2.heap.size + 1 + 1, w2.heap.size, rfl, rfl, hide ⟨(by first | (simp [go_sem]; done) | fail), (by first | (simp [go_sem]; done) | fail), (by first | (simp [go_sem]; done) | fail)⟩, hide ⟨by omega, by omega, by omega, by omega, by omega, by omega⟩, hide (((zrow_atT _ n _ (by first | rfl | (simp; done))).next (Below.refl _ _)).next ((Below.refl _ _).drew)), hide (((lit_at _ _ _ (by first | rfl | (simp; done)) (by omega)).below (bl2 _ _ _)).below ((Below.refl _ _).drew)), hide ((bl3 _ _ _ _).drew)⟩
      | exact ⟨w2.heap.size + 1 + 1, w2.heap.size, w2.heap.size + 1, rfl, rfl, hide ⟨(by first | (simp [go_sem]; done) | fail), (by first | (simp [go_sem]; done) | fail), (by first | (simp [go_sem]; done) | fail)⟩, hide ⟨by omega, by omega, by omega, by omega, by omega, by omega⟩, hide (((zrow_atT _ n _ (by first | rfl | (simp; done))).next (bl2 _ _ _)).next ((Below.refl _ _).drew)), hide (((lit_at _ _ _ (by first | rfl | (simp; done)) (by omega)).below (bl1 _ _)).below ((Below.refl _ _).drew)), hide ((bl3 _ _ _ _).drew)⟩
      | exact ⟨w2.heap.size + 1 + 1, w2.heap.size + 1, w2.heap.size, rfl, rfl, hide ⟨(by first | (simp [go_sem]; done) | fail), (by first | (simp [go_sem]; done) | fail), (by first | (simp [go_sem]; done) | fail)⟩, hide ⟨by omega, by omega, by omega, by omega, by omega, by omega⟩, hide (((zrow_atT _ n _ (by first | rfl | (simp; done))).next (bl1 _ _)).next ((Below.refl _ _).drew)), hide (((lit_at _ _ _ (by first | rfl | (simp; done)) (by omega)).below (bl2 _ _ _)).below ((Below.refl _ _).drew)), hide ((bl3 _ _ _ _).drew)⟩
  case rest =>
  obtain ⟨X, R0, L0, rfl, rfl, hX, hD, hR, hL, hW⟩ := hcut
  obtain ⟨w3, hw3⟩ : ∃ w3, w3 = wc := ⟨_, rfl⟩
  subst hw3
  obtain ⟨x0, x1, xf⟩ := hX.out
  obtain ⟨d1, d2, d3, d4, d5, d6⟩ := hD.out
  have j13 := cell_be (hW.out.mono (by omega)) j1
  have cR := hR.out.cell 0 (by rw [tab_len]; omega)
  rw [tab_at _ _ _ (by omega)] at cR
  have fR := hR.out.free 0
  have hR4 := hR.out.set 0 1
  have q0 : (0 : Int) < (n : Int) := by omega
  have e4 : (tab n (fun _ => 0)).set 0 1 = vL p xs ys n 0 := by rw [tab_set]; rfl
  rw [e4] at hR4
  obtain ⟨w4, hw4⟩ : ∃ w4, w4 = w3.setCell ⟨R0, 0, none⟩ (.int .i64 1) := ⟨_, rfl⟩
  have hL4 : Hid (Own w2.heap.size w4 (some ⟨L0, 0, none⟩) 0 (tab 0 (mjS p xs ys n))) := hide (by rw [hw4]; exact hL.out.otherG (by simp [blk]; omega) _)
  have hX4 : Hid (w4.cell? ⟨X, 0, none⟩ = some (.int .i64 p) ∧ w4.cell? ⟨X, 1, none⟩ = some (.slice (some ⟨L0, 0, none⟩) 0 0) ∧ w4.frozen? ⟨X, 1, none⟩ = false) := hide (by
    rw [hw4]
    exact ⟨cell_set2 x0 (by simp; omega) _, cell_set2 x1 (by simp; omega) _, by simpa using xf⟩)
  have hW4 : Hid (Below w2.heap.size w2 w4) := hide (by rw [hw4]; exact hW.out.setCell d5 _)
  rw [← hw4] at hR4
  have HR4 := hide hR4
  have HW4 := hide hw4
  clear hw4 hR4 e4 hX hD hL hW hR x0 x1 xf
  go_upto_region 4 with fail
  rw [← HW4.out]
  clear HW4 cR fR j13 q0
  go_loopw [1, 8] (fun kv vv wr => ∃ (i : Nat) (a' : Option Addr) (c' R : Nat), i ≤ K ∧ kv = .int .i64 ((K : Int) - i) ∧ vv = .slice (some ⟨R, 0, none⟩) n n ∧ Hid (wr.cell? ⟨X, 0, none⟩ = some (.int .i64 p) ∧ wr.cell? ⟨X, 1, none⟩ = some (.slice a' i c') ∧ wr.frozen? ⟨X, 1, none⟩ = false) ∧
      Hid (Own w2.heap.size wr a' c' (tab i (mjS p xs ys n))) ∧ Hid (blk a' ≠ some X ∧ blk a' ≠ some R ∧ R ≠ X ∧ w2.heap.size ≤ R) ∧ Hid (RowI wr R (vL p xs ys n i)) ∧ Hid (Below w2.heap.size w2 wr)) (fun kv _ _ => (intOf kv).toNat)
  case atStart => exact ⟨0, _, _, _, by omega, by simp, rfl, hX4, hL4, hide ⟨by simp [blk]; omega, by simp [blk]; omega, by omega, d5⟩, HR4, hW4⟩
  case round =>
    obtain ⟨i, a', c', R, hi, rfl, rfl, hx, hO, hd, hR, hB2⟩ := hrel
    clear hL4 hX4 hW4 HR4 d1 d2 d3 d5 d6
    obtain ⟨x0, x1, xf⟩ := hx.out
    obtain ⟨e1, e2, e3, e4⟩ := hd.out
    have xs1 := World.block_lt_of_cell? _ _ x0
    simp only at xs1
    have zr := hB2.out.size
    have rl := hR.out.lt
    by_cases hlt : i < K
    · have hlt' : (0 : Int) < (K : Int) - i := by omega
      have q0 : (0 : Int) < (n : Int) := by omega
      have q0n : 0 < n := by omega
      have cR := hR.out.cell 0 (by rw [vL_len]; omega)
      have cB := cell_be hB2.out (cell_be hB (Hcb.out 0 (by omega)))
      rw [Nat.add_zero] at cB
      have jb := cell_be hB2.out j2
      have g1 := getD_rng (vL_are hp xs ys n i) hp 0
      have g2 := getD_rng Hy.out hp 0
      have hst := hide (tab_snoc i (mjS p xs ys n))
      obtain ⟨zs, hzs⟩ : ∃ zs, tab i (mjS p xs ys n) = zs := ⟨_, rfl⟩
      have hzl := hide (show zs.length = i by rw [← hzs, tab_len])
      rw [hzs] at hst hO
      have hm : Hid (mjS p xs ys n i = (vL p xs ys n i).getD 0 0 * ys.getD 0 0 % p) := hide rfl
      obtain ⟨x, hxx⟩ : ∃ x, (vL p xs ys n i).getD 0 0 = x := ⟨_, rfl⟩
      obtain ⟨y, hyy⟩ : ∃ y, ys.getD 0 0 = y := ⟨_, rfl⟩
      rw [hxx] at cR g1 hm
      rw [hyy] at cB g2 hm
      have hxy : 0 ≤ x * y ∧ x * y ≤ 10007 * 10007 := ⟨Int.mul_nonneg g1.1 g2.1, by
        have a := Int.mul_le_mul (show x ≤ 10007 by omega) (show y ≤ 10007 by omega) g2.1 (by omega)
        exact a⟩
      have v3 : IntKind.i64.wrap (x * y) = x * y := IntWalk.i64_in _ (by omega)
      have v6 : (x * y).tmod p = (x * y) % p := Int.tmod_eq_emod_of_nonneg (by omega)
      have v7 := modb (x := x * y) hp
      obtain ⟨v, hv⟩ : ∃ v, (x * y) % p = v := ⟨_, rfl⟩
      rw [hv] at v6 v7 hm
      rw [hm.out] at hst
      have v5 : IntKind.i64.wrap v = v := IntWalk.i64_in _ (by omega)
      have hp0 : ¬ p = 0 := by omega
      have s1a : ((wr.alloc (.cells #[.int .i64 v] 2)).drew).cell? ⟨X, 1, none⟩ = some (.slice a' i c') := cell_al x1 (.cells #[.int .i64 v] 2)
      have sfa : ((wr.alloc (.cells #[.int .i64 v] 2)).drew).frozen? ⟨X, 1, none⟩ = false := frz_al x1 xf (.cells #[.int .i64 v] 2)
      have hba : Below wr.heap.size wr ((wr.alloc (.cells #[.int .i64 v] 2)).drew) := (bl1 wr _).drew
      have s0a := cell_be hba x0
      have hOa := hide (hO.out.below hba)
      have hRa := hide (hR.out.next hba)
      have hcl : ((wr.alloc (.cells #[.int .i64 v] 2)).drew).cell? ⟨wr.heap.size, 0, none⟩ = some (.int .i64 v) := by simp [go_sem]
      have hb2 : Below w2.heap.size w2 ((wr.alloc (.cells #[.int .i64 v] 2)).drew) := (hB2.out.alloc (by omega) _).drew
      have F : ∀ w', Below wr.heap.size wr w' → w'.cell? ⟨w.heap.size, 2, none⟩ = some (.slice (some ⟨bb, ob, none⟩) n d) ∧ w'.cell? ⟨R, 0, none⟩ = some (.int .i64 x) ∧ w'.cell? ⟨bb, ob, none⟩ = some (.int .i64 y) := fun w' hb => ⟨cell_be hb jb, cell_be hb cR, cell_be hb cB⟩
      have hbd := (Below.refl wr.heap.size wr).drew
      clear hxx hyy hv hzs hm hO hR
      go_upto_region 6 with fail
      refine region_E (fun w' => w'.cell? ⟨w.heap.size, 2, none⟩ = some (.slice (some ⟨bb, ob, none⟩) n d) ∧ w'.cell? ⟨R, 0, none⟩ = some (.int .i64 x) ∧ w'.cell? ⟨bb, ob, none⟩ = some (.int .i64 y) ∧ w'.cell? ⟨X, 1, none⟩ = some (.slice a' i c')) 15 (by kernel_rfl) ?_ ?_
      · have F0 := F _ hbd
        exact ⟨F0.1, F0.2.1, F0.2.2, cell_be hbd x1⟩
      intro hS
      refine anyE_takeL 0 rfl (by kernel_rfl) (fun _ _ _ h => h) hS (by rfl) (v := ?_) ?_ ?_
      rotate_left
      · intro w' hSw; (try dsimp only at hSw); go_simp; (try with_reducible rfl)
      try simp only [Act.put, List.setIfInBounds_toArray, List.set_cons_zero, List.set_cons_succ]
      refine anyE_takeL 1 rfl (by kernel_rfl) (fun _ _ _ h => h) hS (by rfl) (v := ?_) ?_ ?_
      rotate_left
      · intro w' hSw; (try dsimp only at hSw); go_simp; (try with_reducible rfl)
      try simp only [Act.put, List.setIfInBounds_toArray, List.set_cons_zero, List.set_cons_succ]
      refine anyE_takeL 2 rfl (by kernel_rfl) (fun _ _ _ h => h) hS (by rfl) (v := ?_) ?_ ?_
      rotate_left
      · intro w' hSw; (try dsimp only at hSw); go_simp; (try with_reducible rfl)
      try simp only [Act.put, List.setIfInBounds_toArray, List.set_cons_zero, List.set_cons_succ]
      refine anyE_takeL 3 rfl (by kernel_rfl) (fun _ _ _ h => h) hS (by rfl) (v := ?_) ?_ ?_
      rotate_left
      · intro w' hSw; (try dsimp only at hSw); go_simp; (try with_reducible rfl)
      try simp only [Act.put, List.setIfInBounds_toArray, List.set_cons_zero, List.set_cons_succ]
      refine anyE_takeL 4 rfl (by kernel_rfl) (fun _ _ _ h => h) hS (by rfl) (v := ?_) ?_ ?_
      rotate_left
      · intro w' hSw; (try dsimp only at hSw); go_simp; (try with_reducible rfl)
      try simp only [Act.put, List.setIfInBounds_toArray, List.set_cons_zero, List.set_cons_succ]
      refine anyE_takeL 5 rfl (by kernel_rfl) (fun _ _ _ h => h) hS (by rfl) (v := ?_) ?_ ?_
      rotate_left
      · intro w' hSw; (try dsimp only at hSw); go_simp; (try with_reducible rfl)
      try simp only [Act.put, List.setIfInBounds_toArray, List.set_cons_zero, List.set_cons_succ]
      refine anyE_takeL 6 rfl (by kernel_rfl) (fun _ _ _ h => h) hS (by rfl) (v := ?_) ?_ ?_
      rotate_left
      · intro w' hSw; (try dsimp only at hSw); go_simp; (try with_reducible rfl)
      try simp only [Act.put, List.setIfInBounds_toArray, List.set_cons_zero, List.set_cons_succ]
      refine anyE_takeL 7 rfl (by kernel_rfl) (fun _ _ _ h => h) hS (by rfl) (v := ?_) ?_ ?_
      rotate_left
      · intro w' hSw; (try dsimp only at hSw); go_simp; (try with_reducible rfl)
      try simp only [Act.put, List.setIfInBounds_toArray, List.set_cons_zero, List.set_cons_succ]
      refine anyE_takeL 8 rfl (by kernel_rfl) (fun _ _ _ h => h) hS (by rfl) (v := ?_) ?_ ?_
      rotate_left
      · intro w' hSw; (try dsimp only at hSw); go_simp; (try with_reducible rfl)
      try simp only [Act.put, List.setIfInBounds_toArray, List.set_cons_zero, List.set_cons_succ]
      refine anyE_takeL 9 rfl (by kernel_rfl) (fun _ _ _ h => h) hS (by rfl) (v := ?_) ?_ ?_
      rotate_left
      · intro w' hSw; (try dsimp only at hSw); go_simp; (try with_reducible rfl)
      try simp only [Act.put, List.setIfInBounds_toArray, List.set_cons_zero, List.set_cons_succ]
      refine anyE_takeL 10 rfl (by kernel_rfl) (fun _ _ _ h => h) hS (by rfl) (v := ?_) ?_ ?_
      rotate_left
      · intro w' hSw; (try dsimp only at hSw); go_simp; (try with_reducible rfl)
      try simp only [Act.put, List.setIfInBounds_toArray, List.set_cons_zero, List.set_cons_succ]
      refine anyE_takeL 11 rfl (by kernel_rfl) (fun _ _ _ h => h) hS (by rfl) (v := ?_) ?_ ?_
      rotate_left
      · intro w' hSw; (try dsimp only at hSw); go_simp; (try with_reducible rfl)
      try simp only [Act.put, List.setIfInBounds_toArray, List.set_cons_zero, List.set_cons_succ]
      clear hS
      refine anyE_oneL 12 (by kernel_rfl) rfl (fun K hK => ?_)
      go_simp
      have S0 := F _ hba
      have S1 := And.intro S0.1 (And.intro S0.2.1 (And.intro S0.2.2 s1a))
      refine hK.out _ _ S1 ?_
      clear hK K
      try simp only [Act.put, List.setIfInBounds_toArray, List.set_cons_zero, List.set_cons_succ]
      refine anyE_oneL 13 (by kernel_rfl) rfl (fun K hK => ?_)
      refine step_app1 (by rfl) _ _ (by rfl) w2.heap.size _ _ _ zs (by rfl) hzl.out.symm hOa.out _ _ v (by rfl) hcl (by omega) (by simp; omega) ?_
      intro ad' cap' w' hown' hgr hloc
      have hge := own_blk_ge hOa.out
      have s0' := cell_ne hgr s0a e1
      have s1' := cell_ne hgr s1a e1
      have sf' := frz_ne hgr s1a sfa e1
      have hR' : Hid (RowI w' R (vL p xs ys n i)) := hide ((hgr.block R hRa.out.lt (fun e => e2 e.symm)).trans hRa.out)
      have S2 := And.intro (cell_ne hgr S0.1 (fun e => by have := hge _ e; omega)) (And.intro (cell_ne hgr S0.2.1 e2) (And.intro (cell_ne hgr S0.2.2 (fun e => by have := hge _ e; omega)) s1'))
      refine hK.out _ _ S2 ?_
      clear hK K
      try simp only [Act.put, List.setIfInBounds_toArray, List.set_cons_zero, List.set_cons_succ]
      refine anyE_takeL 14 rfl (by kernel_rfl) (fun _ _ _ h => h) S2 (by rfl) (v := ?_) ?_ ?_
      rotate_left
      · intro w' hSw; (try dsimp only at hSw); go_simp; (try with_reducible rfl)
      try simp only [Act.put, List.setIfInBounds_toArray, List.set_cons_zero, List.set_cons_succ]
      clear S0 S1 S2
      refine anyE_lastL (by kernel_rfl) rfl (by kernel_rfl) (fun K hK => ?_)
      go_simp
      refine hK.out _ _ ?_
      clear hK K
      try simp only [Act.put, List.setIfInBounds_toArray, List.set_cons_zero, List.set_cons_succ]
      obtain ⟨w5, hw5⟩ : ∃ w5, w5 = w'.setCell ⟨X, 1, none⟩ (.slice ad' (zs.length + 1) cap') := ⟨_, rfl⟩
      rw [← hw5]
      have hbn := hb2.grown hgr (by simp; omega) (own_blk_ge hOa.out)
      have hgs := hgr.size
      simp only [World.size_drew, World.size_alloc] at hgs
      have n2 : blk ad' ≠ some X := by
        rcases hloc with h | h <;> rw [h]
        · exact e1
        · simp; omega
      have n3 : blk ad' ≠ some R := by
        rcases hloc with h | h <;> rw [h]
        · exact e2
        · simp; omega
      have hO5 : Hid (Own w2.heap.size w5 ad' cap' (tab (i + 1) (mjS p xs ys n))) := hide (by rw [hw5, ← hst.out]; exact hown'.otherG n2 _)
      have hX5 : Hid (w5.cell? ⟨X, 0, none⟩ = some (.int .i64 p) ∧ w5.cell? ⟨X, 1, none⟩ = some (.slice ad' (i + 1) cap') ∧ w5.frozen? ⟨X, 1, none⟩ = false) := hide (by
        rw [hw5, hzl.out]
        exact ⟨cell_set2' s0' (by simp) _, World.cell?_setCell_same _ _ _ s1', by simpa using sf'⟩)
      have hR5 : Hid (RowI w5 R (vL p xs ys n i)) := hide (by rw [hw5]; exact hR'.out.other (fun e => e3 e.symm) _)
      have hB5 : Hid (Below w2.heap.size w2 w5) := hide (by rw [hw5]; exact hbn.setCell (by simp; omega) _)
      have lt5 : ∀ g, blk ad' = some g → g < w5.heap.size := fun g hg => by
        obtain ⟨g', e, _, hg', _⟩ := hO5.out.blkG (by rw [tab_len]; omega)
        rw [e] at hg
        cases hg
        exact hg'
      have xlt5 := World.block_lt_of_cell? _ _ hX5.out.1
      simp only at xlt5
      have rlt5 := hR5.out.lt
      have z5 := hB5.out.size
      have Hw5 := hide hw5
      have jA5 := hide (cell_be hB5.out j1)
      have jB5 := hide (cell_be hB5.out j2)
      have HA5 := hide (fun t ht => cell_be hB5.out (cell_be hB (Hca.out t ht)))
      have HB5 := hide (fun t ht => cell_be hB5.out (cell_be hB (Hcb.out t ht)))
      have hmk5 := hmk w5
      obtain ⟨w6, hw6⟩ : ∃ w6, w6 = w5.alloc (.cells (zrow n) 2) := ⟨_, rfl⟩
      have hN6 : Hid (RowI w6 w5.heap.size (tab n (rowQ p xs ys n (vL p xs ys n i) 0 0))) := hide (by
        rw [hw6, ← rowQ_zero]
        exact zrow_row w5 n)
      have hB6 : Hid (Below w5.heap.size w5 w6) := hide (by rw [hw6]; exact bl1 _ _)
      have HW6 := hide hw6
      have HVA := hide (vL_are hp xs ys n i)
      have HVL := hide (vL_len p xs ys n i)
      have HVN := hide (rowQ_done p xs ys n i)
      obtain ⟨V, hV⟩ : ∃ V, vL p xs ys n i = V := ⟨_, rfl⟩
      rw [hV] at hR5 hN6 HVA HVL HVN
      clear hw5 hw6 s0a s1a sfa hba hOa hRa hcl hb2 F hbd s0' s1' sf' hR' hbn hgr hloc hge hown' hV x0 x1 xf cR cB jb g1 g2 hst hzl hxy v3 v5 v6 v7 e1 e2 hx hd hB2
      go_upto_region 8 with fail
      rw [← HW6.out]
      clear HW6 hmk5
      go_wp2
      go_loopw [10] (fun jv wv => ∃ (j : Nat), j ≤ n ∧ jv = .int .i64 j ∧ Hid (RowI wv w5.heap.size (tab n (rowQ p xs ys n V j 0))) ∧ Hid (Below w5.heap.size w5 wv)) (fun jv _ => n - (intOf jv).toNat)
      case atStart => exact ⟨0, by omega, rfl, hN6, hB6⟩
      case round =>
        obtain ⟨j, hj, rfl, hN, hBv⟩ := hrel
        clear hN6 hB6
        by_cases hjl : j < n
        · have hj1 : (j : Int) < (n : Int) := by omega
          have hj0 : (0 : Int) ≤ (j : Int) := by omega
          obtain ⟨j', hj'⟩ : ∃ j' : Nat, j' = j + 1 := ⟨_, rfl⟩
          have vj : IntKind.i64.wrap ((j : Int) + 1) = (j' : Int) := by rw [IntWalk.i64_in _ (by omega)]; omega
          have cA := cell_be hBv.out (HA5.out j hjl)
          have cV := cell_be hBv.out (hR5.out.cell j (by rw [HVL.out]; exact hjl))
          have jA := cell_be hBv.out jA5.out
          have cN := hN.out.cell j (by rw [tab_len]; exact hjl)
          have fN := hN.out.free j
          have hset := hN.out.set j (nxt p xs ys n V 1 j)
          rw [rowQ_set _ _ _ _ _ _ _ _ (by omega)] at hset
          have g1 := getD_rng Hx.out hp j
          have g2 := getD_rng HVA.out hp j
          have hq : Hid (nxt p xs ys n V 1 j = xs.getD j 0 * V.getD j 0 % p) := hide (nxt_one p xs ys n V j)
          obtain ⟨x, hxx⟩ : ∃ x, xs.getD j 0 = x := ⟨_, rfl⟩
          obtain ⟨y, hyy⟩ : ∃ y, V.getD j 0 = y := ⟨_, rfl⟩
          obtain ⟨o, hoo⟩ : ∃ o, (tab n (rowQ p xs ys n V j 0)).getD j 0 = o := ⟨_, rfl⟩
          rw [hxx] at cA g1 hq
          rw [hyy] at cV g2 hq
          rw [hoo] at cN
          have hxy : 0 ≤ x * y ∧ x * y ≤ 10007 * 10007 := ⟨Int.mul_nonneg g1.1 g2.1, Int.mul_le_mul (show x ≤ 10007 by omega) (show y ≤ 10007 by omega) g2.1 (by omega)⟩
          have v3 : IntKind.i64.wrap (x * y) = x * y := IntWalk.i64_in _ (by omega)
          have v6 : (x * y).tmod p = (x * y) % p := Int.tmod_eq_emod_of_nonneg (by omega)
          have v7 := modb (x := x * y) hp
          obtain ⟨v1, hv⟩ : ∃ v1, (x * y) % p = v1 := ⟨_, rfl⟩
          rw [hv] at v6 v7 hq
          rw [hq.out] at hset
          have v5 : IntKind.i64.wrap v1 = v1 := IntWalk.i64_in _ (by omega)
          obtain ⟨W1, hW1⟩ : ∃ W1, W1 = (wr.setCell ⟨w5.heap.size, j, none⟩ (.int .i64 v1)).drew := ⟨_, rfl⟩
          have hN1 : Hid (RowI W1 w5.heap.size (tab n (rowQ p xs ys n V j 1))) := hide (by rw [hW1]; exact hset)
          have hB1 : Hid (Below w5.heap.size w5 W1) := hide (by rw [hW1]; exact (hBv.out.setCell (Nat.le_refl _) _).drew)
          have HW1 := hide hW1
          have Hj' := hide hj'
          clear hset hxx hyy hoo hv hW1 hN
          go_upto_region 11 with fail
          refine wp_region_still_tail 15 (by kernel_rfl) (by kernel_rfl) ?_
          simp only [List.take_succ_cons, List.take_zero, List.drop_succ_cons, List.drop_zero]
          repeat still_step
          refine wpStill_nil ?_
          go_upto_if 67 with fail
          rw [← HW1.out]
          clear HW1 cN fN cA cV g1 g2 hq hxy v3 v5 v6 v7
          go_cut [] (fun wx => Hid (RowI wx w5.heap.size (tab n (rowQ p xs ys n V j 2))) ∧ Hid (Below w5.heap.size w5 wx))
          case first =>
            by_cases hc : j' < n
            · have hc1 : (j' : Int) < (n : Int) := by omega
              have hc0 : (0 : Int) ≤ (j : Int) + 1 := by omega
              have hc2 : (j : Int) + 1 < (n : Int) := by omega
              have cV := cell_be hB1.out (hR5.out.cell j' (by rw [HVL.out]; exact hc))
              rw [Hj'.out] at cV
              have cN := hN1.out.cell j (by rw [tab_len]; exact hjl)
              rw [rowQ_at _ _ _ _ _ _ _ hjl (by omega)] at cN
              have fN := hN1.out.free j
              have hset := hN1.out.set j (nxt p xs ys n V 2 j)
              rw [rowQ_set _ _ _ _ _ _ _ _ (by omega)] at hset
              have g1 := nxt_rng hp xs ys n V 1 j
              have g2 := getD_rng HVA.out hp (j + 1)
              have hq : Hid (nxt p xs ys n V 2 j = (nxt p xs ys n V 1 j + V.getD (j + 1) 0) % p) := hide (by exact nxt_two p xs ys n V j (by rw [← Hj'.out]; exact hc))
              obtain ⟨x, hxx⟩ : ∃ x, nxt p xs ys n V 1 j = x := ⟨_, rfl⟩
              obtain ⟨y, hyy⟩ : ∃ y, V.getD (j + 1) 0 = y := ⟨_, rfl⟩
              rw [hxx] at cN g1 hq
              rw [hyy] at cV g2 hq
              have v3 : IntKind.i64.wrap (x + y) = x + y := IntWalk.i64_in _ (by omega)
              have v6 : (x + y).tmod p = (x + y) % p := Int.tmod_eq_emod_of_nonneg (by omega)
              have v7 := modb (x := x + y) hp
              obtain ⟨v2, hv⟩ : ∃ v2, (x + y) % p = v2 := ⟨_, rfl⟩
              rw [hv] at v6 v7 hq
              rw [hq.out] at hset
              have v5 : IntKind.i64.wrap v2 = v2 := IntWalk.i64_in _ (by omega)
              have hN2 : Hid (RowI ((W1.setCell ⟨w5.heap.size, j, none⟩ (.int .i64 v2)).drew) w5.heap.size (tab n (rowQ p xs ys n V j 2))) := hide hset
              have hB2 : Hid (Below w5.heap.size w5 ((W1.setCell ⟨w5.heap.size, j, none⟩ (.int .i64 v2)).drew)) := hide ((hB1.out.setCell (Nat.le_refl _) _).drew)
              clear hset hxx hyy hv hq
              go_upto_region 13 with fail
              refine wp_region_still_tail 15 (by kernel_rfl) (by kernel_rfl) ?_
              simp only [List.take_succ_cons, List.take_zero, List.drop_succ_cons, List.drop_zero]
              repeat still_step
              refine wpStill_nil ?_
              go_wp2_with fail
              go_meet
              exact ⟨hN2, hB2⟩
            · have hc1 : (n : Int) ≤ (j' : Int) := by omega
              go_wp2_with fail
              go_meet
              exact ⟨hide (by rw [← rowQ_skip p xs ys n V j 1 2 (by omega) (by omega) (nxt_skip2 p xs ys n V j (by rw [← Hj'.out]; exact hc)).symm]; exact hN1.out), hB1⟩
          case rest =>
          obtain ⟨hN2, hB2⟩ := hcut
          obtain ⟨W2, hW2⟩ : ∃ W2, W2 = wc := ⟨_, rfl⟩
          subst hW2
          clear hN1 hB1
          go_upto_if 84 with fail
          by_cases hc : 0 < j
          · obtain ⟨j0, hj0'⟩ : ∃ j0 : Nat, j0 = j - 1 := ⟨_, rfl⟩
            have hk0 : (0 : Int) < (j : Int) := by omega
            have hk1 : (0 : Int) ≤ (j : Int) - 1 := by omega
            have hk2 : (j : Int) - 1 < (n : Int) := by omega
            have hk3 : (1 : Int) ≤ (j : Int) := by omega
            have vk : IntKind.i64.wrap ((j : Int) - 1) = (j : Int) - 1 := IntWalk.i64_in _ (by omega)
            have vk2 : ((j : Int) - 1).toNat = j - 1 := by omega
            have cV := cell_be hB2.out (hR5.out.cell (j - 1) (by rw [HVL.out]; omega))
            have cB := cell_be hB2.out (HB5.out j hjl)
            have jB := cell_be hB2.out jB5.out
            have cN := hN2.out.cell j (by rw [tab_len]; exact hjl)
            rw [rowQ_at _ _ _ _ _ _ _ hjl (by omega)] at cN
            have fN := hN2.out.free j
            have hset := hN2.out.set j (nxt p xs ys n V 3 j)
            rw [rowQ_set _ _ _ _ _ _ _ _ (by omega)] at hset
            have g1 := nxt_rng hp xs ys n V 2 j
            have g2 := getD_rng HVA.out hp (j - 1)
            have g3 := getD_rng Hy.out hp j
            have hq : Hid (nxt p xs ys n V 3 j = (nxt p xs ys n V 2 j + ys.getD j 0 * V.getD (j - 1) 0) % p) := hide (nxt_three p xs ys n V j hc)
            obtain ⟨x, hxx⟩ : ∃ x, nxt p xs ys n V 2 j = x := ⟨_, rfl⟩
            obtain ⟨y, hyy⟩ : ∃ y, V.getD (j - 1) 0 = y := ⟨_, rfl⟩
            obtain ⟨u, huu⟩ : ∃ u, ys.getD j 0 = u := ⟨_, rfl⟩
            rw [hxx] at cN g1 hq
            rw [hyy] at cV g2 hq
            rw [huu] at cB g3 hq
            have hxy : 0 ≤ u * y ∧ u * y ≤ 10007 * 10007 := ⟨Int.mul_nonneg g3.1 g2.1, Int.mul_le_mul (show u ≤ 10007 by omega) (show y ≤ 10007 by omega) g2.1 (by omega)⟩
            have v3 : IntKind.i64.wrap (u * y) = u * y := IntWalk.i64_in _ (by omega)
            have v4 : IntKind.i64.wrap (x + u * y) = x + u * y := IntWalk.i64_in _ (by omega)
            have v6 : (x + u * y).tmod p = (x + u * y) % p := Int.tmod_eq_emod_of_nonneg (by omega)
            have v7 := modb (x := x + u * y) hp
            obtain ⟨v8, hv⟩ : ∃ v8, (x + u * y) % p = v8 := ⟨_, rfl⟩
            rw [hv] at v6 v7 hq
            rw [hq.out] at hset
            have v5 : IntKind.i64.wrap v8 = v8 := IntWalk.i64_in _ (by omega)
            have hN3 : Hid (RowI ((W2.setCell ⟨w5.heap.size, j, none⟩ (.int .i64 v8)).drew) w5.heap.size (tab n (rowQ p xs ys n V j 3))) := hide hset
            have hB3 : Hid (Below w5.heap.size w5 ((W2.setCell ⟨w5.heap.size, j, none⟩ (.int .i64 v8)).drew)) := hide ((hB2.out.setCell (Nat.le_refl _) _).drew)
            clear hset hxx hyy huu hv hq hj0' j0
            go_upto_region 15 with fail
            refine wp_region_still_tail 21 (by kernel_rfl) (by kernel_rfl) ?_
            simp only [List.take_succ_cons, List.take_zero, List.drop_succ_cons, List.drop_zero]
            repeat still_step
            refine wpStill_nil ?_
            go_wp2
            go_roundw
            case rel => exact ⟨j + 1, by omega, by go_num, hide (by rw [← rowQ_next]; exact hN3.out), hB3⟩
            case measure => simp [intOf]; omega
          · have hk0 : (j : Int) ≤ 0 := by omega
            have hN3 : Hid (RowI W2 w5.heap.size (tab n (rowQ p xs ys n V j 3))) := hide (by rw [← rowQ_skip p xs ys n V j 2 3 (by omega) (by omega) (nxt_skip3 p xs ys n V j hc).symm]; exact hN2.out)
            go_wp2
            go_roundw
            case rel => exact ⟨j + 1, by omega, by go_num, hide (by rw [← rowQ_next]; exact hN3.out), hB2⟩
            case measure => simp [intOf]; omega
        · obtain rfl : j = n := by omega
          have hge : (j : Int) ≤ (j : Int) := by omega
          have hNV : Hid (RowI wr w5.heap.size (vL p xs ys j (i + 1))) := hide (by rw [← HVN.out]; exact hN.out)
          have zw := hBv.out.size
          have n4 : blk ad' ≠ some w5.heap.size := fun e => by have := lt5 _ e; omega
          have hOv := hide (hO5.out.below hBv.out)
          have hXv : Hid (wr.cell? ⟨X, 0, none⟩ = some (.int .i64 p) ∧ wr.cell? ⟨X, 1, none⟩ = some (.slice ad' (i + 1) cap') ∧ wr.frozen? ⟨X, 1, none⟩ = false) := hide ⟨cell_be hBv.out hX5.out.1, cell_be hBv.out hX5.out.2.1, (hBv.out.frozen (World.block_lt_of_cell? _ _ hX5.out.2.1)).trans hX5.out.2.2⟩
          have hBB : Hid (Below w2.heap.size w2 wr) := hide (hB5.out.trans (hBv.out.mono z5))
          have vK : IntKind.i64.wrap ((K : Int) - i - 1) = (K : Int) - (i + 1 : Nat) := by rw [IntWalk.i64_in _ (by omega)]; omega
          go_wp2
          go_roundw
          case rel => exact ⟨i + 1, ad', cap', _, by omega, by go_num, rfl, hXv, hOv, hide ⟨n2, n4, by omega, z5⟩, hNV, hBB⟩
          case measure => simp [intOf]; omega
    · obtain rfl : i = K := by omega
      have hge : ((i : Int) - i) = 0 := by omega
      have hBw := hB.trans (hB2.out.mono hB.size)
      have zw := hB.size
      have rr0 := cell_be hB2.out r0
      have rr1 := cell_be hB2.out r1
      have yy0 := (hB2.out.frozen (World.block_lt_of_cell? _ _ r0)).trans y0
      have yy1 := (hB2.out.frozen (World.block_lt_of_cell? _ _ r1)).trans y1
      clear r0 r1 y0 y1
      have hf : ¬ (0 : Int) < (i : Int) - i := by omega
      go_wp2
      refine bodyPost_ret (v := mom p a' i c') (by simp [results, Try.results117, go_sem, rr0, rr1]) rfl ?_
      exact ⟨a', c', rfl, ((hO.out.setLow (by simp; omega) _).setLow (by simp; omega) _).mono zw, (hBw.setCell (by simp) _).setCell (by simp) _⟩
end Go.Proofs.Ytmdfgibpkfkceaa
/- Contract: MomentsOfJacobi (model). -/
namespace Go.Proofs.Ytmdfgibpkfkceaa
open Go.RowKit
set_option linter.unusedVariables false
set_option linter.unusedSimpArgs false

set_option maxRecDepth 100000 in
set_option maxHeartbeats 3200000 in
theorem specMomentsOfJacobi (p : Int) (a : Option Addr) (n c : Nat) (xs : List Int) (b : Option Addr) (m d : Nat) (ys : List Int) (k : Int) (w : World) (hs : SL w a n c xs) (ht : SL w b m d ys) (hn : n ≤ 4000000) (hm : m ≤ 4000000) :
    Calls Try.prog 21 #[jac p a n c b m d, .int .i64 k] w (ResM w (mjP p xs ys k) (mjV p xs ys k) (mjC p xs ys k)) := by
  have hl := hide hs.len
  have hl2 := hide ht.len
  have hb0 := bl2 w (.cells #[.int .i64 p, .slice a n c, .slice b m d] 39) (.cells #[.int .i64 0, .slice none 0 0] 36)
  obtain ⟨w0, hw0⟩ : ∃ w0, w0 = (w.alloc (.cells #[.int .i64 p, .slice a n c, .slice b m d] 39)).alloc (.cells #[.int .i64 0, .slice none 0 0] 36) := ⟨_, rfl⟩
  rw [← hw0] at hb0
  have j0 : w0.cell? ⟨w.heap.size, 0, none⟩ = some (.int .i64 p) := by rw [hw0]; simp [go_sem]
  have j1 : w0.cell? ⟨w.heap.size, 1, none⟩ = some (.slice a n c) := by rw [hw0]; simp [go_sem]
  have j2 : w0.cell? ⟨w.heap.size, 2, none⟩ = some (.slice b m d) := by rw [hw0]; simp [go_sem]
  have r0 : w0.cell? ⟨w.heap.size + 1, 0, none⟩ = some (.int .i64 0) := by rw [hw0]; simp [go_sem]
  have r1 : w0.cell? ⟨w.heap.size + 1, 1, none⟩ = some (.slice none 0 0) := by rw [hw0]; simp [go_sem]
  have y0 : w0.frozen? ⟨w.heap.size + 1, 0, none⟩ = false := by rw [hw0]; simp [go_sem]
  have y1 : w0.frozen? ⟨w.heap.size + 1, 1, none⟩ = false := by rw [hw0]; simp [go_sem]
  have z0 : w.heap.size + 2 ≤ w0.heap.size := by rw [hw0]; simp
  have Hw0 := hide hw0
  have g1 := hs.below hb0
  have g2 := ht.below hb0
  have v0 : IntKind.i64.wrap (2 * (n : Int)) = 2 * (n : Int) := IntWalk.i64_in _ (by omega)
  clear hw0
  cases hM : jacB p xs ys
  · have HM := hide hM
    have hC := hide (show mjC p xs ys k = 1 by unfold mjC jcd; rw [hM]; rfl)
    have hP := hide (show mjP p xs ys k = 0 by unfold mjP; rw [hC.out]; rfl)
    have hV := hide (show mjV p xs ys k = [] by unfold mjV; rw [hC.out]; rfl)
    clear hM
    go_enter Try.func21, Try.ntmps21
    go_upto_region 1 with fail
    rw [← Hw0.out]
    go_wp2_with fail
    refine (l03Is_any _ _ _ _ _ _ _ _ _ _ g1 g2 hn hm).mono ?_
    rintro e w1 ⟨rfl, t1⟩
    rw [HM.out]
    have hB := bnext hb0 t1
    have z1 := t1.size
    replace y0 := (t1.frozen (World.block_lt_of_cell? _ _ r0)).trans y0
    replace y1 := (t1.frozen (World.block_lt_of_cell? _ _ r1)).trans y1
    replace j0 := cell_be t1 j0
    replace j1 := cell_be t1 j1
    replace j2 := cell_be t1 j2
    replace r0 := cell_be t1 r0
    replace r1 := cell_be t1 r1
    replace g1 := g1.below t1
    replace g2 := g2.below t1
    go_wp2
    refine bodyPost_ret (v := .tuple #[mom 0 none 0 0, .int .i64 1]) (by simp [results, Try.results21, go_sem, r0, r1]) rfl ?_
    exact ResM.nil hP.out hV.out hC.out ((hB.setCell (by simp) _).setCell (by simp) _)
  have HM := hide hM
  by_cases hk : 1 ≤ k ∧ k ≤ 2 * (n : Int)
  rotate_left
  · have hC := hide (show mjC p xs ys k = 2 by unfold mjC jcd; rw [hM, hl.out]; simp only [if_true]; rw [if_neg hk])
    have hP := hide (show mjP p xs ys k = 0 by unfold mjP; rw [hC.out]; rfl)
    have hV := hide (show mjV p xs ys k = [] by unfold mjV; rw [hC.out]; rfl)
    clear hM
    go_enter Try.func21, Try.ntmps21
    go_upto_region 1 with fail
    rw [← Hw0.out]
    go_wp2_with fail
    refine (l03Is_any _ _ _ _ _ _ _ _ _ _ g1 g2 hn hm).mono ?_
    rintro e w1 ⟨rfl, t1⟩
    rw [HM.out]
    have hB := bnext hb0 t1
    have z1 := t1.size
    replace y0 := (t1.frozen (World.block_lt_of_cell? _ _ r0)).trans y0
    replace y1 := (t1.frozen (World.block_lt_of_cell? _ _ r1)).trans y1
    replace j0 := cell_be t1 j0
    replace j1 := cell_be t1 j1
    replace j2 := cell_be t1 j2
    replace r0 := cell_be t1 r0
    replace r1 := cell_be t1 r1
    replace g1 := g1.below t1
    replace g2 := g2.below t1
    go_wp2_with fail
    refine (l01In_no _ _ _ _ hk).mono ?_
    rintro e v2 ⟨rfl, rfl⟩
    go_wp2
    refine bodyPost_ret (v := .tuple #[mom 0 none 0 0, .int .i64 2]) (by simp [results, Try.results21, go_sem, r0, r1]) rfl ?_
    exact ResM.nil hP.out hV.out hC.out ((hB.setCell (by simp) _).setCell (by simp) _)
  have hC := hide (show mjC p xs ys k = 0 by unfold mjC jcd; rw [hM, hl.out]; simp only [if_true]; rw [if_pos hk])
  obtain ⟨hpr, n1, n2, n3, hx, hy⟩ := jacB_rng hM
  obtain ⟨hp, hp2⟩ := primeB_lo hpr
  rw [hl.out] at n1 n2 n3
  rw [hl2.out] at n3
  subst n3
  obtain ⟨K, rfl⟩ : ∃ K : Nat, k = K := ⟨k.toNat, by omega⟩
  have hP := hide (show mjP p xs ys K = p by unfold mjP; rw [hC.out, if_pos rfl])
  have hV := hide (show mjV p xs ys K = tab K (mjS p xs ys m) by
    have e := mj_same hp (xs := xs) (posB_are hy) K (by rw [hl.out]; omega)
    rw [hl.out] at e
    unfold mjV
    rw [hC.out, if_pos rfl, Int.toNat_natCast, e])
  have Hx := hide hx
  have Hy := hide (posB_are hy)
  clear hM hpr hx hy
  go_enter Try.func21, Try.ntmps21
  go_upto_region 1 with fail
  rw [← Hw0.out]
  go_wp2_with fail
  refine (l03Is_any _ _ _ _ _ _ _ _ _ _ g1 g2 hn hm).mono ?_
  rintro e w1 ⟨rfl, t1⟩
  rw [HM.out]
  have hB := bnext hb0 t1
  have z1 := t1.size
  replace y0 := (t1.frozen (World.block_lt_of_cell? _ _ r0)).trans y0
  replace y1 := (t1.frozen (World.block_lt_of_cell? _ _ r1)).trans y1
  replace j0 := cell_be t1 j0
  replace j1 := cell_be t1 j1
  replace j2 := cell_be t1 j2
  replace r0 := cell_be t1 r0
  replace r1 := cell_be t1 r1
  replace g1 := g1.below t1
  replace g2 := g2.below t1
  go_wp2_with fail
  refine (l01In_yes _ _ _ _ hk.1 hk.2).mono ?_
  rintro e v2 ⟨rfl, rfl⟩
  go_wp2_with fail
  refine (l04Moments_any p _ _ _ xs _ _ ys K _ g1 g2 n1 n2 (by omega) hp hp2 Hx.out Hy.out).mono ?_
  rintro e w3 ⟨a', c', rfl, ho, t3⟩
  replace y0 := (t3.frozen (World.block_lt_of_cell? _ _ r0)).trans y0
  replace y1 := (t3.frozen (World.block_lt_of_cell? _ _ r1)).trans y1
  replace r0 := cell_be t3 r0
  replace r1 := cell_be t3 r1
  have hB3 := bnext hB t3
  go_wp2
  refine bodyPost_ret (v := .tuple #[mom p a' K c', .int .i64 0]) (by simp [results, Try.results21, go_sem, r0, r1]) rfl ?_
  exact ResM.own hP.out hC.out (by rw [hV.out, tab_len]) (by rw [hV.out]; exact ((ho.setLow (by simp; omega) _).setLow (by simp; omega) _).mono (by omega)) (by rw [hV.out, tab_len]; omega) ((hB3.setCell (by simp) _).setCell (by simp) _)
end Go.Proofs.Ytmdfgibpkfkceaa
