/- Merged texts. -/
import Derived.Test.YtllcgoachgfpjaaYD425
import Derived.Test.YtllcgoachgfpjaaYD420
import Derived.Test.YtllcgoachgfpjaaYD418
import Derived.Test.YtllcgoachgfpjaaYD422
/- Contracts: ReverseJacobi (program and model). -/
namespace Go.Proofs.Ytllcgoachgfpjaa
open Go.RowKit
set_option linter.unusedVariables false
set_option linter.unusedSimpArgs false

def rvA (n : Nat) (xs : List Int) : List Int := tab n (fun j => xs.getD (n - 1 - j) 0)
def rvG (n : Nat) (ys : List Int) : Nat → Int := fun j => if 1 ≤ j then ys.getD (n - j) 0 else ys.getD j 0
def rvB (n : Nat) (ys : List Int) : List Int := tab n (rvG n ys)
def revC (p : Int) (xs ys : List Int) : Int := if jacB p xs ys then 0 else 1
def revP (p : Int) (xs ys : List Int) : Int := if revC p xs ys = 0 then p else 0
def revV (p : Int) (xs ys : List Int) : List Int := if revC p xs ys = 0 then rvA xs.length xs else []
def revU (p : Int) (xs ys : List Int) : List Int := if revC p xs ys = 0 then rvB xs.length ys else []
theorem rvA_of (n : Nat) (xs : List Int) : tab (0 + n) (fun j => if 0 ≤ j then xs.getD (0 + (0 + n - 1 - j)) 0 else xs.getD j 0) = rvA n xs := by
  unfold rvA
  rw [Nat.zero_add]
  apply tab_congr
  intro j hj
  rw [if_pos (by omega)]
  congr 1; omega
theorem rvB_of (n : Nat) (ys : List Int) (hn : 1 ≤ n) : tab (1 + (n - 1)) (fun j => if 1 ≤ j then ys.getD (1 + (1 + (n - 1) - 1 - j)) 0 else ys.getD j 0) = rvB n ys := by
  unfold rvB
  rw [show 1 + (n - 1) = n by omega]
  apply tab_congr
  intro j hj
  unfold rvG
  by_cases h : 1 ≤ j
  · rw [if_pos h, if_pos h]
    congr 1; omega
  · rw [if_neg h, if_neg h]
theorem rvB_one (ys : List Int) : rvB 1 ys = tab 1 (fun j => ys.getD j 0) := by
  unfold rvB
  apply tab_congr
  intro j hj
  unfold rvG
  rw [if_neg (by omega)]
theorem own_lit0 (w : World) : Own w.heap.size (w.alloc (.cells #[] 2)) (some ⟨w.heap.size, 0, none⟩) 0 [] :=
  World.ownsRow_lit w (base := w.heap.size) (e := 2) (size := 1) #[] 0 (Nat.le_refl _) (by decide) rfl
theorem own_lit0' (w : World) (q : Nat) (hq : q = w.heap.size) (B : Nat) (hB : B ≤ q) : Own B (w.alloc (.cells #[] 2)) (some ⟨q, 0, none⟩) 0 [] := by subst hq; exact (own_lit0 w).mono hB
theorem own_lit1 (w : World) (v : Int) : Own w.heap.size (w.alloc (.cells #[.int .i64 v] 2)) (some ⟨w.heap.size, 0, none⟩) 1 [v] :=
  World.ownsRow_lit w (base := w.heap.size) (e := 2) (size := 1) #[.int .i64 v] 1 (Nat.le_refl _) (by first | decide | simp) rfl
theorem own_lit1' (w : World) (v : Int) (q : Nat) (hq : q = w.heap.size) (B : Nat) (hB : B ≤ q) : Own B (w.alloc (.cells #[.int .i64 v] 2)) (some ⟨q, 0, none⟩) 1 [v] := by subst hq; exact (own_lit1 w v).mono hB
end Go.Proofs.Ytllcgoachgfpjaa
/- Contract: JacobiOfSteps (program). -/
namespace Go.Proofs.Ytllcgoachgfpjaa
open Go.RowKit
set_option linter.unusedVariables false
set_option linter.unusedSimpArgs false

def jsA (p : Int) (xs : List Int) (k : Nat) : Int := if k = 0 then xs.getD 1 0 else (xs.getD (2 * k) 0 + xs.getD (2 * k + 1) 0) % p
def jsB (p : Int) (xs : List Int) (k : Nat) : Int := if k = 0 then xs.getD 0 0 else xs.getD (2 * k - 1) 0 * xs.getD (2 * k) 0 % p
def josC (p : Int) (xs : List Int) : Int := if lisB p xs 2 24 = true ∧ xs.length % 2 = 0 then (if hasB 0 (tab (xs.length / 2) (jsB p xs)) = true then 5 else 0) else 2
def josP (p : Int) (xs : List Int) : Int := if josC p xs = 0 then p else 0
def josV (p : Int) (xs : List Int) : List Int := if josC p xs = 0 then tab (xs.length / 2) (jsA p xs) else []
def josU (p : Int) (xs : List Int) : List Int := if josC p xs = 0 then tab (xs.length / 2) (jsB p xs) else []
theorem jsA_rng {p : Int} (hp : 2 ≤ p) {xs : List Int} (h : areB p xs = true) (k : Nat) : 0 ≤ jsA p xs k ∧ jsA p xs k < p := by
  unfold jsA
  split
  · exact getD_rng h hp 1
  · exact modb hp
theorem jsB_rng {p : Int} (hp : 2 ≤ p) {xs : List Int} (h : areB p xs = true) (k : Nat) : 0 ≤ jsB p xs k ∧ jsB p xs k < p := by
  unfold jsB
  split
  · exact getD_rng h hp 0
  · exact modb hp
theorem own_blk_lt {B : Nat} {w : World} {a : Option Addr} {c : Nat} {ys : List Int} (h : Own B w a c ys) : ∀ g, blk a = some g → g < w.heap.size := fun g hg => by
  rcases h.shape with ⟨rfl, _, _⟩ | ⟨g', cur, rfl, _, hgc, _⟩
  · cases hg
  · cases hg; exact lt_of_block hgc
set_option maxRecDepth 100000 in
set_option maxHeartbeats 6400000 in
theorem implJacobiOfSteps (p : Int) (a : Option Addr) (n c : Nat) (xs : List Int) (w : World) (hs : SL w a n c xs) (hn : n ≤ 4000000) :
    Calls Try.prog 78 #[.int .i64 p, .slice a n c] w (ResJ w (josP p xs) (josV p xs) (josU p xs) (josC p xs)) := by
  have hl := hide hs.len
  have hb0 := bl1 w (.cells #[.int .i64 0, .slice none 0 0, .slice none 0 0] 38)
  replace hs := hs.below hb0
  cases hL : lisB p xs 2 24
  · have HL := hide hL
    have HC := hide (show josC p xs = 2 by simp [josC, hL])
    have HV := hide (show josV p xs = [] by simp [josV, HC.out])
    have HU := hide (show josU p xs = [] by simp [josU, HC.out])
    have HQ := hide (show josP p xs = 0 by simp [josP, HC.out])
    clear hL
    go_enter Try.func78, Try.ntmps78
    go_wp2_with fail
    refine (isListFor_any p _ _ _ xs 2 24 _ hs hn).mono ?_
    rintro e v1 ⟨rfl, rfl⟩
    rw [HL.out]
    go_wp2
    refine bodyPost_ret (v := .tuple #[jac 0 none 0 0 none 0 0, .int .i64 2]) (by simp [results, Try.results78, go_sem]) rfl ?_
    exact ResJ.nil HQ.out HV.out HU.out HC.out hb0
  have HL := hide hL
  obtain ⟨hP, q1, q2, hX⟩ := lisB_rng hL
  rw [hl.out] at q1 q2
  obtain ⟨hp, hp2⟩ := primeB_lo hP
  have vm : (n : Int).tmod 2 = ((n % 2 : Nat) : Int) := by rw [Int.tmod_eq_emod_of_nonneg (by omega)]; omega
  by_cases hev : n % 2 = 0
  rotate_left
  · have hodd : n % 2 = 1 := by omega
    have vm1 : (n : Int).tmod 2 = 1 := by rw [vm, hodd]; rfl
    have HC := hide (show josC p xs = 2 by simp [josC, hl.out, hodd])
    have HV := hide (show josV p xs = [] by simp [josV, HC.out])
    have HU := hide (show josU p xs = [] by simp [josU, HC.out])
    have HQ := hide (show josP p xs = 0 by simp [josP, HC.out])
    clear hL hP hX vm hev hodd
    go_enter Try.func78, Try.ntmps78
    go_wp2_with fail
    refine (isListFor_any p _ _ _ xs 2 24 _ hs hn).mono ?_
    rintro e v1 ⟨rfl, rfl⟩
    rw [HL.out]
    go_wp2
    refine bodyPost_ret (v := .tuple #[jac 0 none 0 0 none 0 0, .int .i64 2]) (by simp [results, Try.results78, go_sem]) rfl ?_
    exact ResJ.nil HQ.out HV.out HU.out HC.out hb0
  have vm0 : (n : Int).tmod 2 = 0 := by rw [vm, hev]; rfl
  obtain ⟨r, hr⟩ : ∃ r, r = n / 2 := ⟨_, rfl⟩
  have hnr : n = 2 * r := by omega
  have hCC : josC p xs = if hasB 0 (tab r (jsB p xs)) = true then 5 else 0 := by simp only [josC, hL, hl.out, hev, hr, if_true, and_self]
  have HCC := hide hCC
  have HX := hide hX
  have Hr := hide hr
  have Hnr := hide hnr
  obtain ⟨b, off, rfl, hbw, hcell⟩ := hs.at (by omega)
  have Hc := hide hcell
  have e0 := hcell 0 (by omega)
  have e1 := hcell 1 (by omega)
  rw [Nat.add_zero] at e0
  obtain ⟨X0, hX0⟩ : ∃ X0, xs.getD 0 0 = X0 := ⟨_, rfl⟩
  obtain ⟨X1, hX1⟩ : ∃ X1, xs.getD 1 0 = X1 := ⟨_, rfl⟩
  rw [hX0] at e0
  rw [hX1] at e1
  have hA1 : Hid (tab 1 (jsA p xs) = [X1]) := hide (by simp [tab, jsA]; rw [← hX1]; simp)
  have hB1 : Hid (tab 1 (jsB p xs) = [X0]) := hide (by simp [tab, jsB]; rw [← hX0]; simp)
  have q3 : (1 : Int) < (n : Int) := by omega
  have q4 : (0 : Int) < (n : Int) := by omega
  have q5 : 1 < n := by omega
  have q6 : 0 < n := by omega
  have hr1 : 1 ≤ r := by omega
  have hr2 : r ≤ 12 := by omega
  obtain ⟨w2, hw2⟩ : ∃ w2, w2 = w.alloc (.cells #[.int .i64 0, .slice none 0 0, .slice none 0 0] 38) := ⟨_, rfl⟩
  have r0 : w2.cell? ⟨w.heap.size, 0, none⟩ = some (.int .i64 0) := by rw [hw2]; simp [go_sem]
  have r1 : w2.cell? ⟨w.heap.size, 1, none⟩ = some (.slice none 0 0) := by rw [hw2]; simp [go_sem]
  have r2 : w2.cell? ⟨w.heap.size, 2, none⟩ = some (.slice none 0 0) := by rw [hw2]; simp [go_sem]
  have y0 : w2.frozen? ⟨w.heap.size, 0, none⟩ = false := by rw [hw2]; simp [go_sem]
  have y1 : w2.frozen? ⟨w.heap.size, 1, none⟩ = false := by rw [hw2]; simp [go_sem]
  have y2 : w2.frozen? ⟨w.heap.size, 2, none⟩ = false := by rw [hw2]; simp [go_sem]
  have hz2 : w.heap.size + 1 = w2.heap.size := by rw [hw2]; simp
  rw [← hw2] at hb0 hs hbw hcell e0 e1 Hc
  have hF2 : ∀ w', Below w2.heap.size w2 w' → Below w2.heap.size w2 w' ∧ w'.cell? ⟨b, off, none⟩ = some (.int .i64 X0) ∧ w'.cell? ⟨b, off + 1, none⟩ = some (.int .i64 X1) := fun w' h => ⟨h, cell_be h e0, cell_be h e1⟩
  clear hL hP hX hCC hr hnr hX0 hX1 hcell vm hev
  go_enter Try.func78, Try.ntmps78
  go_wp2_with fail
  rw [← hw2]
  clear hw2
  refine (isListFor_any p _ _ _ xs 2 24 _ hs hn).mono ?_
  rintro e v1 ⟨rfl, rfl⟩
  rw [HL.out]
  go_upto_region 3 with fail
  go_cut [6, 7] (fun sa sb wx => ∃ (ga gb : Nat), sa = .slice (some ⟨ga, 0, none⟩) 1 1 ∧ sb = .slice (some ⟨gb, 0, none⟩) 1 1 ∧ Hid (ga ≠ gb) ∧ Hid (Own w2.heap.size wx (some ⟨ga, 0, none⟩) 1 [X1]) ∧ Hid (Own w2.heap.size wx (some ⟨gb, 0, none⟩) 1 [X0]) ∧ Hid (Below w2.heap.size w2 wx))
  case first =>
    go_region_held3 (fun w' => Below w2.heap.size w2 w' ∧ w'.cell? ⟨b, off, none⟩ = some (.int .i64 X0) ∧ w'.cell? ⟨b, off + 1, none⟩ = some (.int .i64 X1))
      (first | exact hF2 _ (((bl1 _ _)).drew) | exact hF2 _ (((bl2 _ _ _)).drew) | exact hF2 _ ((Below.refl _ _).drew))
      (fail)
    all_goals go_wp2_with fail
    all_goals go_meet
    all_goals first
      | exact ⟨w2.heap.size, w2.heap.size + 1, rfl, rfl, hide (by omega), hide (((own_lit1' _ _ _ (by first | rfl | simp) _ (by omega)).below (bl1 _ _)).below ((Below.refl _ _).drew)), hide ((own_lit1' _ _ _ (by first | rfl | simp) _ (by omega)).below ((Below.refl _ _).drew)), hide ((bl2 _ _ _).drew)⟩
      | exact ⟨w2.heap.size + 1, w2.heap.size, rfl, rfl, hide (by omega), hide ((own_lit1' _ _ _ (by first | rfl | simp) _ (by omega)).below ((Below.refl _ _).drew)), hide (((own_lit1' _ _ _ (by first | rfl | simp) _ (by omega)).below (bl1 _ _)).below ((Below.refl _ _).drew)), hide ((bl2 _ _ _).drew)⟩
  case rest =>
    obtain ⟨ga, gb, rfl, rfl, hd, oA, oB, hW⟩ := hcut
    obtain ⟨w5, hu⟩ : ∃ u, u = wc := ⟨wc, rfl⟩
    subst hu
    clear hF2
    have hd0 : Hid (∀ g, blk (some ⟨ga, 0, none⟩) = some g → blk (some ⟨gb, 0, none⟩) ≠ some g) := hide (fun g h1 h2 => by
      have := hd.out
      simp [blk] at h1 h2
      omega)
    have oA0 : Hid (Own w2.heap.size w5 (some ⟨ga, 0, none⟩) 1 (tab 1 (jsA p xs))) := hide (by rw [hA1.out]; exact oA.out)
    have oB0 : Hid (Own w2.heap.size w5 (some ⟨gb, 0, none⟩) 1 (tab 1 (jsB p xs))) := hide (by rw [hB1.out]; exact oB.out)
    clear oA oB hd e0 e1
    go_wp2_with fail
    go_loopw [6, 7, 8] (fun av bv kv wr => ∃ (i c' d' : Nat) (a' b' : Option Addr), 1 ≤ i ∧ i ≤ r ∧ kv = .int .i64 (2 * (i : Int)) ∧ av = .slice a' i c' ∧ bv = .slice b' i d' ∧ Hid (Own w2.heap.size wr a' c' (tab i (jsA p xs))) ∧ Hid (Own w2.heap.size wr b' d' (tab i (jsB p xs))) ∧ Hid (∀ g, blk a' = some g → blk b' ≠ some g) ∧ Hid (Below w2.heap.size w2 wr)) (fun _ _ kv _ => n - (intOf kv).toNat)
    case atStart => exact ⟨1, 1, 1, _, _, by omega, by omega, rfl, rfl, rfl, oA0, oB0, hd0, hW⟩
    case round =>
      obtain ⟨i, c', d', a', b', hi1, hi2, rfl, rfl, rfl, oA, oB, hn', hW'⟩ := hrel
      clear oA0 oB0 hd0 hW
      have zr := hW'.out.size
      by_cases hlt : i < r
      · have k1 : wr.cell? ⟨b, off + 2 * i, none⟩ = some (.int .i64 (xs.getD (2 * i) 0)) := cell_be hW'.out (Hc.out (2 * i) (by have := Hnr.out; omega))
        have k2 : wr.cell? ⟨b, off + (2 * i + 1), none⟩ = some (.int .i64 (xs.getD (2 * i + 1) 0)) := cell_be hW'.out (Hc.out (2 * i + 1) (by have := Hnr.out; omega))
        have k3 : wr.cell? ⟨b, off + (2 * i - 1), none⟩ = some (.int .i64 (xs.getD (2 * i - 1) 0)) := cell_be hW'.out (Hc.out (2 * i - 1) (by have := Hnr.out; omega))
        have g1 := getD_rng HX.out hp (2 * i)
        have g2 := getD_rng HX.out hp (2 * i + 1)
        have g3 := getD_rng HX.out hp (2 * i - 1)
        have hstA : Hid (tab (i + 1) (jsA p xs) = tab i (jsA p xs) ++ [(xs.getD (2 * i) 0 + xs.getD (2 * i + 1) 0) % p]) := hide (by rw [← tab_snoc]; unfold jsA; rw [if_neg (by omega)])
        have hstB : Hid (tab (i + 1) (jsB p xs) = tab i (jsB p xs) ++ [xs.getD (2 * i - 1) 0 * xs.getD (2 * i) 0 % p]) := hide (by rw [← tab_snoc]; unfold jsB; rw [if_neg (by omega)])
        obtain ⟨X, hX⟩ : ∃ X, xs.getD (2 * i) 0 = X := ⟨_, rfl⟩
        obtain ⟨Y, hY⟩ : ∃ Y, xs.getD (2 * i + 1) 0 = Y := ⟨_, rfl⟩
        obtain ⟨V, hV⟩ : ∃ V, xs.getD (2 * i - 1) 0 = V := ⟨_, rfl⟩
        rw [hX] at k1 g1 hstA hstB
        rw [hY] at k2 g2 hstA
        rw [hV] at k3 g3 hstB
        have HXd := hide hX
        have HVd := hide hV
        have HK3 := hide k3
        have HK1 := hide k1
        obtain ⟨m1, m2⟩ := mulb g3.1 g3.2 g1.1 g1.2 hp2
        have v1 : IntKind.i64.wrap (2 * (i : Int) + 1) = 2 * (i : Int) + 1 := IntWalk.i64_in _ (by omega)
        have v2 : (2 * (i : Int)).toNat = 2 * i := by omega
        have v3 : (2 * (i : Int) + 1).toNat = 2 * i + 1 := by omega
        have v4 : IntKind.i64.wrap (X + Y) = X + Y := IntWalk.i64_in _ (by omega)
        have v5 : (X + Y).tmod p = (X + Y) % p := Int.tmod_eq_emod_of_nonneg (by omega)
        have v7 := modb (x := X + Y) hp
        obtain ⟨Z, hZ⟩ : ∃ Z, (X + Y) % p = Z := ⟨_, rfl⟩
        rw [hZ] at v5 v7 hstA
        have v6 : IntKind.i64.wrap Z = Z := IntWalk.i64_in _ (by omega)
        have hp0 : ¬ p = 0 := by omega
        obtain ⟨zs, hzs⟩ : ∃ zs, tab i (jsA p xs) = zs := ⟨_, rfl⟩
        have hzl := hide (show zs.length = i by rw [← hzs, tab_len])
        rw [hzs] at oA hstA
        have l1 : 2 * (i : Int) < (n : Int) := by have := Hnr.out; omega
        have l2 : 2 * (i : Int) + 1 < (n : Int) := by have := Hnr.out; omega
        have l3 : (0 : Int) ≤ 2 * (i : Int) := by omega
        have l4 : (0 : Int) ≤ 2 * (i : Int) + 1 := by omega
        clear hX hY hV hzs hZ k3
        have hbd := (Below.refl wr.heap.size wr).drew
        have hba : Below wr.heap.size wr ((wr.alloc (.cells #[.int .i64 Z] 2)).drew) := (bl1 wr _).drew
        have hOa := hide (oA.out.below hba)
        have hOo := hide (oB.out.below hba)
        have hcl : ((wr.alloc (.cells #[.int .i64 Z] 2)).drew).cell? ⟨wr.heap.size, 0, none⟩ = some (.int .i64 Z) := by simp [go_sem]
        go_upto_region 7 with fail
        refine region_E (fun w' => w'.cell? ⟨b, off + 2 * i, none⟩ = some (.int .i64 X) ∧ w'.cell? ⟨b, off + (2 * i + 1), none⟩ = some (.int .i64 Y)) 15 (by kernel_rfl) ⟨cell_be hbd k1, cell_be hbd k2⟩ ?_
        intro hS
        refine anyE_takeL 0 rfl (by kernel_rfl) (fun _ _ _ h => h) hS (by rfl) (v := ?_) ?_ ?_
        rotate_left
        · intro w' hSw; (try dsimp only at hSw); go_simp; (try with_reducible rfl)
        try simp only [Act.put, List.setIfInBounds_toArray, List.set_cons_zero, List.set_cons_succ]
        refine anyE_takeL 1 rfl (by kernel_rfl) (fun _ _ _ h => h) hS (by rfl) (v := ?_) ?_ ?_
        rotate_left
        · intro w' hSw; (try dsimp only at hSw); go_simp; (try with_reducible rfl)
        try simp only [Act.put, List.setIfInBounds_toArray, List.set_cons_zero, List.set_cons_succ]
        refine anyE_takeL 2 rfl (by kernel_rfl) (fun _ _ _ h => h) hS (by rfl) (v := ?_) ?_ ?_
        rotate_left
        · intro w' hSw; (try dsimp only at hSw); go_simp; (try with_reducible rfl)
        try simp only [Act.put, List.setIfInBounds_toArray, List.set_cons_zero, List.set_cons_succ]
        refine anyE_takeL 3 rfl (by kernel_rfl) (fun _ _ _ h => h) hS (by rfl) (v := ?_) ?_ ?_
        rotate_left
        · intro w' hSw; (try dsimp only at hSw); go_simp; (try with_reducible rfl)
        try simp only [Act.put, List.setIfInBounds_toArray, List.set_cons_zero, List.set_cons_succ]
        refine anyE_takeL 4 rfl (by kernel_rfl) (fun _ _ _ h => h) hS (by rfl) (v := ?_) ?_ ?_
        rotate_left
        · intro w' hSw; (try dsimp only at hSw); go_simp; (try with_reducible rfl)
        try simp only [Act.put, List.setIfInBounds_toArray, List.set_cons_zero, List.set_cons_succ]
        refine anyE_takeL 5 rfl (by kernel_rfl) (fun _ _ _ h => h) hS (by rfl) (v := ?_) ?_ ?_
        rotate_left
        · intro w' hSw; (try dsimp only at hSw); go_simp; (try with_reducible rfl)
        try simp only [Act.put, List.setIfInBounds_toArray, List.set_cons_zero, List.set_cons_succ]
        refine anyE_takeL 6 rfl (by kernel_rfl) (fun _ _ _ h => h) hS (by rfl) (v := ?_) ?_ ?_
        rotate_left
        · intro w' hSw; (try dsimp only at hSw); go_simp; (try with_reducible rfl)
        try simp only [Act.put, List.setIfInBounds_toArray, List.set_cons_zero, List.set_cons_succ]
        refine anyE_takeL 7 rfl (by kernel_rfl) (fun _ _ _ h => h) hS (by rfl) (v := ?_) ?_ ?_
        rotate_left
        · intro w' hSw; (try dsimp only at hSw); go_simp; (try with_reducible rfl)
        try simp only [Act.put, List.setIfInBounds_toArray, List.set_cons_zero, List.set_cons_succ]
        refine anyE_takeL 8 rfl (by kernel_rfl) (fun _ _ _ h => h) hS (by rfl) (v := ?_) ?_ ?_
        rotate_left
        · intro w' hSw; (try dsimp only at hSw); go_simp; (try with_reducible rfl)
        try simp only [Act.put, List.setIfInBounds_toArray, List.set_cons_zero, List.set_cons_succ]
        refine anyE_takeL 9 rfl (by kernel_rfl) (fun _ _ _ h => h) hS (by rfl) (v := ?_) ?_ ?_
        rotate_left
        · intro w' hSw; (try dsimp only at hSw); go_simp; (try with_reducible rfl)
        try simp only [Act.put, List.setIfInBounds_toArray, List.set_cons_zero, List.set_cons_succ]
        refine anyE_takeL 10 rfl (by kernel_rfl) (fun _ _ _ h => h) hS (by rfl) (v := ?_) ?_ ?_
        rotate_left
        · intro w' hSw; (try dsimp only at hSw); go_simp; (try with_reducible rfl)
        try simp only [Act.put, List.setIfInBounds_toArray, List.set_cons_zero, List.set_cons_succ]
        refine anyE_takeL 11 rfl (by kernel_rfl) (fun _ _ _ h => h) hS (by rfl) (v := ?_) ?_ ?_
        rotate_left
        · intro w' hSw; (try dsimp only at hSw); go_simp; (try with_reducible rfl)
        try simp only [Act.put, List.setIfInBounds_toArray, List.set_cons_zero, List.set_cons_succ]
        refine anyE_takeL 12 rfl (by kernel_rfl) (fun _ _ _ h => h) hS (by rfl) (v := ?_) ?_ ?_
        rotate_left
        · intro w' hSw; (try dsimp only at hSw); go_simp; (try with_reducible rfl)
        try simp only [Act.put, List.setIfInBounds_toArray, List.set_cons_zero, List.set_cons_succ]
        clear hS
        refine anyE_oneL 13 (by kernel_rfl) rfl (fun K' hK' => ?_)
        go_simp
        have S1 := And.intro (cell_be hba k1) (cell_be hba k2)
        refine hK'.out _ _ S1 ?_
        clear hK' K'
        try simp only [Act.put, List.setIfInBounds_toArray, List.set_cons_zero, List.set_cons_succ]
        refine anyE_oneL 14 (by kernel_rfl) rfl (fun K' hK' => ?_)
        refine step_app1 (by rfl) _ _ (by rfl) w2.heap.size _ _ _ zs (by rfl) hzl.out.symm hOa.out _ _ Z (by rfl) hcl (by omega) (by simp; omega) ?_
        intro ad' cap' w6 hown' hgr hloc
        have hge := own_blk_ge hOa.out
        have S2 := And.intro (cell_ne hgr S1.1 (fun e => by have := hge _ e; omega)) (cell_ne hgr S1.2 (fun e => by have := hge _ e; omega))
        refine hK'.out _ _ S2 ?_
        clear hK' K'
        try simp only [Act.put, List.setIfInBounds_toArray, List.set_cons_zero, List.set_cons_succ]
        clear S1 S2
        refine anyE_lastL (by kernel_rfl) rfl (by kernel_rfl) (fun K' hK' => ?_)
        go_simp
        refine hK'.out _ _ ?_
        clear hK' K'
        try simp only [Act.put, List.setIfInBounds_toArray, List.set_cons_zero, List.set_cons_succ]
        have oA6 : Hid (Own w2.heap.size w6 ad' cap' (tab (i + 1) (jsA p xs))) := hide (by rw [hstA.out]; exact hown')
        have oB6 : Hid (Own w2.heap.size w6 b' d' (tab i (jsB p xs))) := hide (Own.keep hOo.out hgr (fun g h1 h2 => hn'.out g h2 h1))
        have hn6 : Hid (∀ g, blk ad' = some g → blk b' ≠ some g) := hide (fun g h1 h2 => by
          rcases hloc with h | h
          · rw [h] at h1; exact hn'.out g h1 h2
          · rw [h] at h1
            have := own_blk_lt oB.out g h2
            simp at h1
            omega)
        have hW6 : Hid (Below w2.heap.size w2 w6) := hide ((hW'.out.trans (hba.mono (by omega))).grown hgr (by simp; omega) hge)
        have w1' : IntKind.i64.wrap (2 * (i : Int) - 1) = 2 * (i : Int) - 1 := IntWalk.i64_in _ (by omega)
        have w2' : (2 * (i : Int) - 1).toNat = 2 * i - 1 := by omega
        have w4' : IntKind.i64.wrap (V * X) = V * X := IntWalk.i64_in _ (by omega)
        have w5' : (V * X).tmod p = V * X % p := Int.tmod_eq_emod_of_nonneg (by omega)
        have w7' := modb (x := V * X) hp
        obtain ⟨Z2, hZ2⟩ : ∃ Z2, V * X % p = Z2 := ⟨_, rfl⟩
        rw [hZ2] at w5' w7' hstB
        have w6' : IntKind.i64.wrap Z2 = Z2 := IntWalk.i64_in _ (by omega)
        obtain ⟨us, hus⟩ : ∃ us, tab i (jsB p xs) = us := ⟨_, rfl⟩
        have hul := hide (show us.length = i by rw [← hus, tab_len])
        rw [hus] at oB6 hstB
        have l5 : 2 * (i : Int) - 1 < (n : Int) := by omega
        have l6 : (0 : Int) ≤ 2 * (i : Int) - 1 := by omega
        have l7 : (1 : Int) ≤ 2 * (i : Int) := by omega
        have hbw2 := World.block_lt_of_cell? _ _ HK1.out
        have j3 : w6.cell? ⟨b, off + (2 * i - 1), none⟩ = some (.int .i64 V) := cell_be hW6.out (by have := Hc.out (2 * i - 1) (by have := Hnr.out; omega); rwa [HVd.out] at this)
        have j1 : w6.cell? ⟨b, off + 2 * i, none⟩ = some (.int .i64 X) := cell_be hW6.out (by have := Hc.out (2 * i) (by have := Hnr.out; omega); rwa [HXd.out] at this)
        have z6 := hW6.out.size
        clear hgr hown' hloc hOa hOo hba hbd hcl hge hus hZ2 v1 v3 v4 v5 v6 v7 k1 k2 oA oB HK1 HK3
        have hbd := (Below.refl w6.heap.size w6).drew
        have hba : Below w6.heap.size w6 ((w6.alloc (.cells #[.int .i64 Z2] 2)).drew) := (bl1 w6 _).drew
        have hOa := hide (oB6.out.below hba)
        have hOo := hide (oA6.out.below hba)
        have hcl : ((w6.alloc (.cells #[.int .i64 Z2] 2)).drew).cell? ⟨w6.heap.size, 0, none⟩ = some (.int .i64 Z2) := by simp [go_sem]
        go_upto_region 8 with fail
        refine region_E (fun w' => w'.cell? ⟨b, off + (2 * i - 1), none⟩ = some (.int .i64 V) ∧ w'.cell? ⟨b, off + 2 * i, none⟩ = some (.int .i64 X)) 15 (by kernel_rfl) ⟨cell_be hbd j3, cell_be hbd j1⟩ ?_
        intro hS
        refine anyE_takeL 0 rfl (by kernel_rfl) (fun _ _ _ h => h) hS (by rfl) (v := ?_) ?_ ?_
        rotate_left
        · intro w' hSw; (try dsimp only at hSw); go_simp; (try with_reducible rfl)
        try simp only [Act.put, List.setIfInBounds_toArray, List.set_cons_zero, List.set_cons_succ]
        refine anyE_takeL 1 rfl (by kernel_rfl) (fun _ _ _ h => h) hS (by rfl) (v := ?_) ?_ ?_
        rotate_left
        · intro w' hSw; (try dsimp only at hSw); go_simp; (try with_reducible rfl)
        try simp only [Act.put, List.setIfInBounds_toArray, List.set_cons_zero, List.set_cons_succ]
        refine anyE_takeL 2 rfl (by kernel_rfl) (fun _ _ _ h => h) hS (by rfl) (v := ?_) ?_ ?_
        rotate_left
        · intro w' hSw; (try dsimp only at hSw); go_simp; (try with_reducible rfl)
        try simp only [Act.put, List.setIfInBounds_toArray, List.set_cons_zero, List.set_cons_succ]
        refine anyE_takeL 3 rfl (by kernel_rfl) (fun _ _ _ h => h) hS (by rfl) (v := ?_) ?_ ?_
        rotate_left
        · intro w' hSw; (try dsimp only at hSw); go_simp; (try with_reducible rfl)
        try simp only [Act.put, List.setIfInBounds_toArray, List.set_cons_zero, List.set_cons_succ]
        refine anyE_takeL 4 rfl (by kernel_rfl) (fun _ _ _ h => h) hS (by rfl) (v := ?_) ?_ ?_
        rotate_left
        · intro w' hSw; (try dsimp only at hSw); go_simp; (try with_reducible rfl)
        try simp only [Act.put, List.setIfInBounds_toArray, List.set_cons_zero, List.set_cons_succ]
        refine anyE_takeL 5 rfl (by kernel_rfl) (fun _ _ _ h => h) hS (by rfl) (v := ?_) ?_ ?_
        rotate_left
        · intro w' hSw; (try dsimp only at hSw); go_simp; (try with_reducible rfl)
        try simp only [Act.put, List.setIfInBounds_toArray, List.set_cons_zero, List.set_cons_succ]
        refine anyE_takeL 6 rfl (by kernel_rfl) (fun _ _ _ h => h) hS (by rfl) (v := ?_) ?_ ?_
        rotate_left
        · intro w' hSw; (try dsimp only at hSw); go_simp; (try with_reducible rfl)
        try simp only [Act.put, List.setIfInBounds_toArray, List.set_cons_zero, List.set_cons_succ]
        refine anyE_takeL 7 rfl (by kernel_rfl) (fun _ _ _ h => h) hS (by rfl) (v := ?_) ?_ ?_
        rotate_left
        · intro w' hSw; (try dsimp only at hSw); go_simp; (try with_reducible rfl)
        try simp only [Act.put, List.setIfInBounds_toArray, List.set_cons_zero, List.set_cons_succ]
        refine anyE_takeL 8 rfl (by kernel_rfl) (fun _ _ _ h => h) hS (by rfl) (v := ?_) ?_ ?_
        rotate_left
        · intro w' hSw; (try dsimp only at hSw); go_simp; (try with_reducible rfl)
        try simp only [Act.put, List.setIfInBounds_toArray, List.set_cons_zero, List.set_cons_succ]
        refine anyE_takeL 9 rfl (by kernel_rfl) (fun _ _ _ h => h) hS (by rfl) (v := ?_) ?_ ?_
        rotate_left
        · intro w' hSw; (try dsimp only at hSw); go_simp; (try with_reducible rfl)
        try simp only [Act.put, List.setIfInBounds_toArray, List.set_cons_zero, List.set_cons_succ]
        refine anyE_takeL 10 rfl (by kernel_rfl) (fun _ _ _ h => h) hS (by rfl) (v := ?_) ?_ ?_
        rotate_left
        · intro w' hSw; (try dsimp only at hSw); go_simp; (try with_reducible rfl)
        try simp only [Act.put, List.setIfInBounds_toArray, List.set_cons_zero, List.set_cons_succ]
        refine anyE_takeL 11 rfl (by kernel_rfl) (fun _ _ _ h => h) hS (by rfl) (v := ?_) ?_ ?_
        rotate_left
        · intro w' hSw; (try dsimp only at hSw); go_simp; (try with_reducible rfl)
        try simp only [Act.put, List.setIfInBounds_toArray, List.set_cons_zero, List.set_cons_succ]
        refine anyE_takeL 12 rfl (by kernel_rfl) (fun _ _ _ h => h) hS (by rfl) (v := ?_) ?_ ?_
        rotate_left
        · intro w' hSw; (try dsimp only at hSw); go_simp; (try with_reducible rfl)
        try simp only [Act.put, List.setIfInBounds_toArray, List.set_cons_zero, List.set_cons_succ]
        clear hS
        refine anyE_oneL 13 (by kernel_rfl) rfl (fun K' hK' => ?_)
        go_simp
        have S1 := And.intro (cell_be hba j3) (cell_be hba j1)
        refine hK'.out _ _ S1 ?_
        clear hK' K'
        try simp only [Act.put, List.setIfInBounds_toArray, List.set_cons_zero, List.set_cons_succ]
        refine anyE_oneL 14 (by kernel_rfl) rfl (fun K' hK' => ?_)
        refine step_app1 (by rfl) _ _ (by rfl) w2.heap.size _ _ _ us (by rfl) hul.out.symm hOa.out _ _ Z2 (by rfl) hcl (by omega) (by simp; omega) ?_
        intro bd' bap' w7 hown' hgr hloc
        have hge := own_blk_ge hOa.out
        have S2 := And.intro (cell_ne hgr S1.1 (fun e => by have := hge _ e; omega)) (cell_ne hgr S1.2 (fun e => by have := hge _ e; omega))
        refine hK'.out _ _ S2 ?_
        clear hK' K'
        try simp only [Act.put, List.setIfInBounds_toArray, List.set_cons_zero, List.set_cons_succ]
        clear S1 S2
        refine anyE_lastL (by kernel_rfl) rfl (by kernel_rfl) (fun K' hK' => ?_)
        go_simp
        refine hK'.out _ _ ?_
        clear hK' K'
        try simp only [Act.put, List.setIfInBounds_toArray, List.set_cons_zero, List.set_cons_succ]
        have oB7 : Hid (Own w2.heap.size w7 bd' bap' (tab (i + 1) (jsB p xs))) := hide (by rw [hstB.out]; exact hown')
        have oA7 : Hid (Own w2.heap.size w7 ad' cap' (tab (i + 1) (jsA p xs))) := hide (Own.keep hOo.out hgr (fun g h1 h2 => hn6.out g h1 h2))
        have hn7 : Hid (∀ g, blk ad' = some g → blk bd' ≠ some g) := hide (fun g h1 h2 => by
          rcases hloc with h | h
          · rw [h] at h2; exact hn6.out g h1 h2
          · rw [h] at h2
            have := own_blk_lt oA6.out g h1
            simp at h2
            omega)
        have hW7 : Hid (Below w2.heap.size w2 w7) := hide ((hW6.out.trans (hba.mono (by omega))).grown hgr (by simp; omega) hge)
        have v9 : IntKind.i64.wrap (2 * (i : Int) + 2) = 2 * (i : Int) + 2 := IntWalk.i64_in _ (by omega)
        have hee : 2 * (i : Int) + 2 = 2 * ((i + 1 : Nat) : Int) := by omega
        have Hee := hide hee
        clear hgr hown' hloc hOa hOo hba hbd hcl hge oA6 oB6 hn6 hW6 j1 j3 w1' w2' w4' w5' w6' w7' hee
        go_wp2
        go_roundw
        case rel => exact ⟨i + 1, cap', bap', ad', bd', by omega, by omega, by rw [← Hee.out], by rw [hzl.out], by rw [hul.out], oA7, oB7, hn7, hW7⟩
        case measure => first | (simp [intOf]; done) | (simp [intOf]; omega)
      · have hir : i = r := by omega
        subst hir
        have hsl := hide oB.out.sl
        have hgn : ¬ 2 * (i : Int) < (n : Int) := by have := Hnr.out; omega
        have hzb : Hid ((tab i (jsB p xs)).length = i) := hide (tab_len _ _)
        have hsl2 : Hid (SL wr b' i d' (tab i (jsB p xs))) := hide (by have := hsl.out; rwa [tab_len] at this)
        replace r0 := cell_be hW'.out r0
        replace r1 := cell_be hW'.out r1
        replace r2 := cell_be hW'.out r2
        replace y0 := (hW'.out.frozen (p := ⟨w.heap.size, 0, none⟩) (by simp; omega)).trans y0
        replace y1 := (hW'.out.frozen (p := ⟨w.heap.size, 1, none⟩) (by simp; omega)).trans y1
        replace y2 := (hW'.out.frozen (p := ⟨w.heap.size, 2, none⟩) (by simp; omega)).trans y2
        have hBw := hb0.trans (hW'.out.mono (by omega))
        cases hz : hasB 0 (tab i (jsB p xs))
        · have hC : josC p xs = 0 := by rw [HCC.out, hz]; rfl
          have HC := hide hC
          have HV := hide (show josV p xs = tab i (jsA p xs) by simp [josV, hC, hl.out, ← Hr.out])
          have HU := hide (show josU p xs = tab i (jsB p xs) by simp [josU, hC, hl.out, ← Hr.out])
          have HQ := hide (show josP p xs = p by simp [josP, hC])
          have HZ := hide hz
          clear hC hz hlt
          go_wp2_with fail
          refine (contains_any _ _ _ _ 0 _ hsl2.out (by omega)).mono ?_
          rintro e v2 ⟨rfl, rfl⟩
          rw [HZ.out]
          go_wp2
          refine bodyPost_ret (v := .tuple #[jac p a' i c' b' i d', .int .i64 0]) (by simp [results, Try.results78, go_sem, r0, r1, r2]) rfl ?_
          have jz : JZ w2.heap.size wr.heap.size wr a' i c' (tab i (jsA p xs)) b' i d' (tab i (jsB p xs)) := ⟨OZ.of oA.out (tab_len _ _).symm, OZ.of oB.out (tab_len _ _).symm, .inr (.inr (fun h => by obtain ⟨g, rfl, _⟩ := Own.blkG oA.out (by rw [tab_len]; omega); exact hn'.out g rfl h.symm))⟩
          have jz2 := ((jz.setLow (x := ⟨w.heap.size, 0, none⟩) (by simp; omega) (.int .i64 p)).setLow (x := ⟨w.heap.size, 1, none⟩) (by simp; omega) (.slice a' i c')).setLow (x := ⟨w.heap.size, 2, none⟩) (by simp; omega) (.slice b' i d')
          exact ResJ.mk HQ.out HC.out (by rw [HV.out]; exact (tab_len _ _).symm) (by rw [HU.out]; exact (tab_len _ _).symm) (by rw [HV.out, HU.out]; simpa using jz2.mono (lo' := w.heap.size) (by omega) (Nat.le_refl _)) (by rw [HV.out, tab_len]; omega) (by rw [HU.out, tab_len]; omega) (((hBw.setCell (by simp) _).setCell (by simp) _).setCell (by simp) _)
        · have hC : josC p xs = 5 := by rw [HCC.out, hz]; rfl
          have HC := hide hC
          have HV := hide (show josV p xs = [] by simp [josV, hC])
          have HU := hide (show josU p xs = [] by simp [josU, hC])
          have HQ := hide (show josP p xs = 0 by simp [josP, hC])
          have HZ := hide hz
          clear hC hz hlt
          go_wp2_with fail
          refine (contains_any _ _ _ _ 0 _ hsl2.out (by omega)).mono ?_
          rintro e v2 ⟨rfl, rfl⟩
          rw [HZ.out]
          go_wp2
          refine bodyPost_ret (v := .tuple #[jac 0 none 0 0 none 0 0, .int .i64 5]) (by simp [results, Try.results78, go_sem, r0, r1, r2]) rfl ?_
          exact ResJ.nil HQ.out HV.out HU.out HC.out (((hBw.setCell (by simp) _).setCell (by simp) _).setCell (by simp) _)
end Go.Proofs.Ytllcgoachgfpjaa
