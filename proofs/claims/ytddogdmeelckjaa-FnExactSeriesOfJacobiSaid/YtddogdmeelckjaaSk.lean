/- Contracts: l05Reverse (model), slices.Reverse on an owned list (program), SeriesOfJacobi (program and model). -/
import Derived.Test.YtddogdmeelckjaaSg
import Derived.Test.YtddogdmeelckjaaRf
import Derived.Test.YtddogdmeelckjaaRv
import Derived.Test.YtddogdmeelckjaaPd
import Derived.Test.YtddogdmeelckjaaWa
namespace Go.Proofs.Ytddogdmeelckjaa
open Go.RowKit
set_option linter.unusedVariables false
set_option linter.unusedSimpArgs false

/-- The numbers in the reverse order. -/
def revL (xs : List Int) : List Int := tab xs.length (fun j => xs.getD (xs.length - 1 - j) 0)
theorem revL_len (xs : List Int) : (revL xs).length = xs.length := tab_len _ _
theorem revL_are {p : Int} {xs : List Int} (h : areB p xs = true) : areB p (revL xs) = true := areB_mk fun j hj => by
  rw [revL_len] at hj
  unfold revL
  rw [tab_at _ _ _ hj]
  exact areB_at h _ (by omega)
set_option maxRecDepth 100000 in
set_option maxHeartbeats 1600000 in
theorem l05Reverse_any (a : Option Addr) (n c : Nat) (xs : List Int) (w : World) (hs : SL w a n c xs) (hn : n ≤ 100000) :
    Calls Try.prog 77 #[.slice a n c] w fun e w' => ∃ a' c', e = .returned (.slice a' n c') ∧ Own w.heap.size w' a' c' (revL xs) ∧ Below w.heap.size w w' := by
  have hl := hide hs.len
  have ho : Own w.heap.size (w.alloc (.cells #[] 2)) (some ⟨w.heap.size, 0, none⟩) 0 [] := World.ownsRow_lit w (base := w.heap.size) (e := 2) (size := 1) #[] 0 (Nat.le_refl _) (by simp) rfl
  have hb0 := bl1 w (.cells #[] 2)
  have hz0 : Hid (([] : List Int) = tab 0 (fun j => xs.getD (n - 1 - j) 0)) := hide rfl
  have v0 : IntKind.i64.wrap ((n : Int) - 1) = (n : Int) - 1 := IntWalk.i64_in _ (by omega)
  go_enter Try.func77, Try.ntmps77
  go_wp2
  clear v0
  go_loopw [3, 4] (fun ov iv wr => ∃ (k : Nat) (a' : Option Addr) (c' : Nat) (zs : List Int), k ≤ n ∧ iv = .int .i64 ((n : Int) - 1 - k) ∧ ov = .slice a' k c' ∧ Hid (zs = tab k (fun j => xs.getD (n - 1 - j) 0)) ∧ Hid (zs.length = k) ∧ Hid (Own w.heap.size wr a' c' zs) ∧ Below w.heap.size w wr) (fun _ iv _ => (intOf iv + 1).toNat)
  case atStart => exact ⟨0, _, 0, [], by omega, by simp, rfl, hz0, hide rfl, hide ho, hb0⟩
  case round =>
    obtain ⟨k, a', c', zs, hk, rfl, rfl, hZ, hzl, hO, hBr⟩ := hrel
    clear ho hb0 hz0
    by_cases hlt : k < n
    · obtain ⟨i, hi⟩ : ∃ i : Nat, i = n - 1 - k := ⟨_, rfl⟩
      have hii : (n : Int) - 1 - k = (i : Int) := by omega
      obtain ⟨b, off, ha, hbw, hcell⟩ := (hs.below hBr).at (by omega)
      subst ha
      have e1 := hcell i (by omega)
      have hst : Hid (tab (k + 1) (fun j => xs.getD (n - 1 - j) 0) = zs ++ [xs.getD i 0]) := hide (by rw [hZ.out, hi]; exact (tab_snoc k (fun j => xs.getD (n - 1 - j) 0)).symm)
      obtain ⟨x, hx⟩ : ∃ x, xs.getD i 0 = x := ⟨_, rfl⟩
      rw [hx] at e1 hst
      rw [hii]
      have Hi := hide hi
      have q1 : (i : Int) < (n : Int) := by omega
      have q2 : (0 : Int) ≤ (i : Int) := by omega
      have v1 : IntKind.i64.wrap ((i : Int) - 1) = (i : Int) - 1 := IntWalk.i64_in _ (by omega)
      have hbs := hBr.size
      have hOa := hide (hO.out.below (bl1 wr (.cells #[.int .i64 x] 2)))
      clear hcell hx hi hii hO
      go_wp2_with (at_builtin; refine wp_append rfl _ _ rfl w.heap.size _ k _ zs rfl hzl.out.symm hOa.out _ 1 1 [x] rfl (litSL wr x) (by omega) (by simp; omega) ?_; intro ad' cap' w1 hown hb)
      have hown' := hide hown
      have hB1 := (hBr.alloc hbs (.cells #[.int .i64 x] 2)).trans hb
      have hl2 : Hid ((zs ++ [x]).length = k + 1) := hide (by rw [List.length_append, hzl.out]; rfl)
      have hst' := hide hst.out.symm
      clear hown hb hOa hst
      go_wp2
      go_roundw
      case rel => exact ⟨k + 1, ad', cap', zs ++ [x], by omega, by rw [show ((n : Int) - 1 - ((k + 1 : Nat) : Int)) = (i : Int) - 1 by have := Hi.out; omega], by rw [hzl.out], hst', hl2, hown', hB1⟩
      case measure => first | (simp [intOf]; done) | (simp [intOf]; omega)
    · have hkn : k = n := by omega
      have Hk := hide hkn
      have hlt' : ¬ (0 : Int) ≤ (n : Int) - 1 - (k : Int) := by omega
      have hR : Hid (zs = revL xs) := hide (by rw [hZ.out, hkn]; unfold revL; rw [hl.out])
      clear hkn
      go_wp2
      refine bodyPost_ret (v := .slice a' k c') (by simp [results, Try.results77]) rfl ?_
      exact ⟨a', c', by rw [Hk.out], by rw [← hR.out]; exact hO.out, hBr⟩
theorem reverse_own (B : Nat) (a : Option Addr) (n c : Nat) (xs : List Int) (w : World) (ho : Own B w a c xs) (hl : n = xs.length) (hn : n ≤ 1000) :
    Calls Try.prog 84 #[.slice a n c] w fun e w' => e = .returned (.tuple #[]) ∧ Own B w' a c (revL xs) ∧ ∃ lo hi, Touch lo hi w w' ∧ B ≤ lo ∧ (∀ g, blk a = some g → lo = g ∧ hi = g + 1) ∧ (blk a = none → hi = 0) := by
  subst hl
  by_cases h1 : xs.length ≤ 1
  · refine (reverse_small a xs.length c w h1).mono ?_
    rintro e w' ⟨rfl, rfl⟩
    have e : revL xs = xs := by
      unfold revL
      apply ext_tab
      · rw [tab_len]
      · intro j hj
        rw [tab_len] at hj
        rw [tab_at _ _ _ hj]
        congr 1
        omega
    rw [e]
    cases hb : blk a with
    | none => exact ⟨rfl, ho, B, 0, Touch.refl _ _ _, Nat.le_refl _, (by intro g h; cases h), fun _ => rfl⟩
    | some g => exact ⟨rfl, ho, g, g + 1, Touch.refl _ _ _, own_blk_ge ho g hb, (by intro g' h; cases h; exact ⟨rfl, rfl⟩), (by intro h; cases h)⟩
  · obtain ⟨g, rfl, _, _, _⟩ := ho.blkG (by omega)
    have ho' : Own B w (some ⟨g, 0, none⟩) c (tab (0 + xs.length) (fun j => xs.getD j 0)) := by
      rw [Nat.zero_add, ← tab_of xs _ rfl]
      exact ho
    refine (reverse_any B g 0 xs.length c c (fun j => xs.getD j 0) w ho' (by omega) hn (by omega)).mono ?_
    rintro e w' ⟨rfl, h2, h3⟩
    refine ⟨rfl, ?_, g, g + 1, h3, own_blk_ge ho g rfl, fun g' h => by cases h; exact ⟨rfl, rfl⟩, fun h => by cases h⟩
    have e2 : tab (0 + xs.length) (fun j => if 0 ≤ j then (fun j => xs.getD j 0) (0 + (0 + xs.length - 1 - j)) else (fun j => xs.getD j 0) j) = revL xs := by
      unfold revL
      rw [Nat.zero_add]
      apply tab_congr
      intro j hj
      rw [if_pos (Nat.zero_le _)]
      simp only [Nat.zero_add]
    rw [e2] at h2
    exact h2
theorem addM_long {p k : Int} {f g : List Int} (hlt : g.length < f.length) (hl : f.getD (f.length - 1) 0 ≠ 0) : (addM p f g k).length = f.length := by
  unfold addM
  rw [show max f.length g.length = f.length by omega, trimL_self, tab_len]
  rw [tab_len, tab_at _ _ _ (by omega)]
  unfold sumH
  rw [if_neg (by omega)]
  exact hl
theorem lin_full {p : Int} (hp : primeB p = true) (a : Int) {f : List Int} (hf : polyB p f = true) (h0 : f.length ≠ 0) : (mulM p (linM p a) f).length = f.length + 1 ∧ (mulM p (linM p a) f).getD ((mulM p (linM p a) f).length - 1) 0 ≠ 0 := by
  have e1 : (mulM p (linM p a) f).length = f.length + 1 := by
    rw [mulM_len (by simp [linM]) (fun h => h0 (by rw [h]; rfl))]
    simp [linM]
    omega
  refine ⟨e1, ?_⟩
  have e := mulM_trim hp (linM_poly (primeB_lo hp).1 (a := a)) hf
  have := trimL_last (mulM p (linM p a) f)
  rw [e] at this
  rcases this with h | h
  · omega
  · exact h
theorem polJ_len2 {p : Int} (hp : primeB p = true) (xs ys : List Int) : ∀ i, i ≤ 22 → (polJ p xs ys i).length = i + 1 ∧ (polJ p xs ys (i + 1)).length = i + 2 := by
  intro i
  induction i with
  | zero => intro _; exact ⟨rfl, by rw [polJ_one (primeB_lo hp).1]; rfl⟩
  | succ i ih =>
    intro hi
    obtain ⟨h1, h2⟩ := ih (by omega)
    refine ⟨h2, ?_⟩
    have hf := (polJ_small (primeB_lo hp).1 xs ys (i + 1) (by omega)).1
    obtain ⟨l1, l2⟩ := lin_full hp (xs.getD (i + 1) 0) hf (by omega)
    rw [polJ_step]
    unfold stp
    rw [addM_long (by omega) l2]
    omega
theorem polJ_len {p : Int} (hp : primeB p = true) (xs ys : List Int) (i : Nat) (hi : i ≤ 22) : (polJ p xs ys i).length = i + 1 := (polJ_len2 hp xs ys i hi).1
def sojC (p : Int) (xs ys : List Int) (k : Int) : Int := jcd p xs ys k 0 24
def sojF (p : Int) (xs ys : List Int) : List Int := addM p [] (secJ p xs ys xs.length) (ys.getD 0 0)
def sojV (p : Int) (xs ys : List Int) (k : Int) : List Int := if sojC p xs ys k = 0 then serL p (revL (sojF p xs ys)) (revL (polJ p xs ys xs.length)) k.toNat else []
set_option maxRecDepth 100000 in
set_option maxHeartbeats 6400000 in
theorem implSeriesOfJacobi (p : Int) (a : Option Addr) (n c : Nat) (xs : List Int) (b : Option Addr) (m d : Nat) (ys : List Int) (k : Int) (w : World) (hs : SL w a n c xs) (ht : SL w b m d ys) (hn : n ≤ 4000000) (hm : m ≤ 4000000) :
    Calls Try.prog 38 #[jac p a n c b m d, .int .i64 k] w (Res1 w (sojV p xs ys k) (sojC p xs ys k)) := by
  have hl := hide hs.len
  have hl2 := hide ht.len
  have hb0 := bl1 w (.cells #[.int .i64 p, .slice a n c, .slice b m d] 41)
  have g1 := hs.below hb0
  have g2 := ht.below hb0
  rcases jcd_cases p xs ys k 0 24 with hc | hc | ⟨hc, hj, q1, q2⟩
  · have Hcd := hide hc
    have HC := hide (show sojC p xs ys k = 1 by exact hc)
    have HV := hide (show sojV p xs ys k = [] by simp [sojV, HC.out])
    clear hc
    go_enter Try.func38, Try.ntmps38
    go_wp2_with fail
    refine (checkJacobi_any _ _ _ _ _ _ _ _ _ _ _ _ _ _ g1 g2 hn hm Hcd.out).mono ?_
    rintro e w2 ⟨rfl, hm2⟩
    have hB2 := bnext hb0 hm2
    have z2 := hm2.size
    simp at z2
    go_wp2
    go_ret2
    exact Res1.nil HV.out HC.out hB2
  · have Hcd := hide hc
    have HC := hide (show sojC p xs ys k = 2 by exact hc)
    have HV := hide (show sojV p xs ys k = [] by simp [sojV, HC.out])
    clear hc
    go_enter Try.func38, Try.ntmps38
    go_wp2_with fail
    refine (checkJacobi_any _ _ _ _ _ _ _ _ _ _ _ _ _ _ g1 g2 hn hm Hcd.out).mono ?_
    rintro e w2 ⟨rfl, hm2⟩
    have hB2 := bnext hb0 hm2
    have z2 := hm2.size
    simp at z2
    go_wp2
    go_ret2
    exact Res1.nil HV.out HC.out hB2
  obtain ⟨hpr, n1, n2, n3, hx, hy⟩ := jacB_rng hj
  obtain ⟨hp, hp2⟩ := primeB_lo hpr
  have Hj := hide hj
  have Hpr := hide hpr
  have Hx := hide hx
  have Hy := hide (posB_are hy)
  have r0 := getD_rng (posB_are hy) hp 0
  rw [hl.out] at n1 n2 n3
  rw [hl2.out] at n3
  subst n3
  have Hcd := hide hc
  have HC := hide (show sojC p xs ys k = 0 by exact hc)
  have HV := hide (show sojV p xs ys k = serL p (revL (sojF p xs ys)) (revL (polJ p xs ys m)) k.toNat by simp only [sojV, HC.out, if_true]; rw [hl.out])
  obtain ⟨K, rfl⟩ : ∃ K : Nat, k = K := ⟨k.toNat, by omega⟩
  rw [Int.toNat_natCast] at HV
  obtain ⟨Y0, hY0⟩ : ∃ Y0, ys.getD 0 0 = Y0 := ⟨_, rfl⟩
  have HF := hide (show sojF p xs ys = addM p [] (secJ p xs ys m) Y0 by unfold sojF; rw [hl.out, hY0])
  obtain ⟨b2, o2, rfl, hw2, hc2⟩ := ht.at (by omega)
  have eY := hc2 0 (by omega)
  rw [hY0, Nat.add_zero] at eY
  rw [hY0] at r0
  have hmn : 0 < m := by omega
  have hmp : (0 : Int) < (m : Int) := by omega
  clear hc hj hpr hx hy hY0 hc2
  go_enter Try.func38, Try.ntmps38
  go_wp2_with fail
  refine (checkJacobi_any _ _ _ _ _ _ _ _ _ _ _ _ _ _ g1 g2 hn hm Hcd.out).mono ?_
  rintro e w2 ⟨rfl, hm2⟩
  have hB2 := bnext hb0 hm2
  have z2 := hm2.size
  simp at z2
  have f0 : w2.cell? ⟨w.heap.size, 0, none⟩ = some (.int .i64 p) := cell_be hm2 (by simp [go_sem])
  have f1 : w2.cell? ⟨w.heap.size, 1, none⟩ = some (.slice a m c) := cell_be hm2 (by simp [go_sem])
  have f2 : w2.cell? ⟨w.heap.size, 2, none⟩ = some (.slice (some ⟨b2, o2, none⟩) m d) := cell_be hm2 (by simp [go_sem])
  have fY : w2.cell? ⟨b2, o2, none⟩ = some (.int .i64 Y0) := cell_be hB2 eY
  have hbd2 := (Below.refl w2.heap.size w2).drew
  have F2 : ∀ w', Below w2.heap.size w2 w' → w'.cell? ⟨w.heap.size, 0, none⟩ = some (.int .i64 p) ∧ w'.cell? ⟨w.heap.size, 1, none⟩ = some (.slice a m c) ∧ w'.cell? ⟨w.heap.size, 2, none⟩ = some (.slice (some ⟨b2, o2, none⟩) m d) ∧ w'.cell? ⟨b2, o2, none⟩ = some (.int .i64 Y0) := fun w' h => ⟨cell_be h f0, cell_be h f1, cell_be h f2, cell_be h fY⟩
  have hBd := hB2.trans (hbd2.mono (by omega))
  have sQ := gS_small hp xs ys m m n2
  have lQ := sQ.2
  go_upto_region 4 with fail
  go_region_held3 (fun w' => w'.cell? ⟨w.heap.size, 0, none⟩ = some (.int .i64 p) ∧ w'.cell? ⟨w.heap.size, 1, none⟩ = some (.slice a m c) ∧ w'.cell? ⟨w.heap.size, 2, none⟩ = some (.slice (some ⟨b2, o2, none⟩) m d) ∧ w'.cell? ⟨b2, o2, none⟩ = some (.int .i64 Y0))
    (first | exact F2 _ (by assumption) | exact hS4 | exact hS5)
    (first
    | (go_at_call 81; refine (associatesOf_any p _ _ _ _ _ 0 0 w _ hBd (Nat.zero_le _)).mono ?_; rintro e w3 ⟨B, rfl, hBB, hR, hb3⟩; have hm3 := bnext hbd2 hb3)
    | (go_at_call 82; refine (sizeOf_any _ _ _ _ _ _ _ _ hm).mono ?_; rintro e w3b ⟨rfl, hb3b⟩; have hm3b := bnext hm3 hb3b; have hRb := hR.below hb3b)
    | (go_at_call 80; refine (goOn_any p _ _ _ xs _ _ ys m (gS p xs ys m) 0 0 B w _ hs ht Hpr.out Hx.out Hy.out (by omega) (by omega) (gS_step p xs ys m) (fun i => gS_small hp xs ys m i n2) (hRb.seconds n1) (.inr (Nat.zero_le _))).mono ?_; rintro e w4 ⟨ac, cc, rfl, hk, hR2, ht4⟩; obtain ⟨s0, s1, s2, s3⟩ := F2 _ hm3b; have hzd := hbd2.size; have hS4 := And.intro (ht4.cell s0 (.inl (by omega))) (And.intro (ht4.cell s1 (.inl (by omega))) (And.intro (ht4.cell s2 (.inl (by omega))) (ht4.cell s3 (.inl (by have := hB2.size; omega))))))
    | (go_at_call 71; refine (addMultiple_any p Y0 _ _ _ [] _ _ _ (gS p xs ys m m) _ (SL.nil _) hk.sl (by omega) (by omega) hp hp2 r0.1 r0.2 (areB_nil p) sQ.are).mono ?_; rintro e w5 ⟨af, cf', rfl, ho5, hb5⟩; have hB5 := hR2.hb.trans (hb5.mono (Nat.le_trans (by omega) hR2.sz)); obtain ⟨s0, s1, s2, s3⟩ := hS4; have hS5 := And.intro (cell_be hb5 s0) (And.intro (cell_be hb5 s1) (And.intro (cell_be hb5 s2) (cell_be hb5 s3)))))
  rw [gS_le (Nat.le_refl m), ← HF.out] at ho5 ⊢
  have zB := hR2.lb
  have z5 := hB5.size
  have lF : (sojF p xs ys).length ≤ 1000 := by rw [HF.out]; exact addM_len (by simp) (by rw [← gS_le (p := p) (xs := xs) (ys := ys) (Nat.le_refl m)]; omega)
  have aF : Hid (areB p (sojF p xs ys) = true) := hide (by rw [HF.out]; exact addM_areB hp (areB_nil p) _ _)
  obtain ⟨s0, s1, s2, s3⟩ := hS5
  have o5 := hide ho5
  have zR := hb5.size
  have zS := hR2.sz
  clear F2 hbd2 hm3 hm3b hR hRb hk hR2 ho5 f0 f1 f2 fY
  have hs5 := hs.below hB5
  have ht5 := ht.below hB5
  have hbd5 := (Below.refl w5.heap.size w5).drew
  have F5 : ∀ w', Below w5.heap.size w5 w' → w'.cell? ⟨w.heap.size, 0, none⟩ = some (.int .i64 p) ∧ w'.cell? ⟨w.heap.size, 1, none⟩ = some (.slice a m c) ∧ w'.cell? ⟨w.heap.size, 2, none⟩ = some (.slice (some ⟨b2, o2, none⟩) m d) := fun w' h => ⟨cell_be h s0, cell_be h s1, cell_be h s2⟩
  go_upto_region 5 with fail
  go_region_held3 (fun w' => w'.cell? ⟨w.heap.size, 0, none⟩ = some (.int .i64 p) ∧ w'.cell? ⟨w.heap.size, 1, none⟩ = some (.slice a m c) ∧ w'.cell? ⟨w.heap.size, 2, none⟩ = some (.slice (some ⟨b2, o2, none⟩) m d))
    (first | exact F5 _ (by assumption) | exact hS8)
    (first
    | (go_at_call 83; refine (polysOf_any p _ _ _ xs _ _ ys 0 0 w5 _ hs5 n1 hp hp2 Hx.out hbd5 (Nat.zero_le _)).mono ?_; rintro e w6 ⟨B', rfl, hBB', hR, hb6⟩; have hm6 := bnext hbd5 hb6)
    | (go_at_call 82; refine (sizeOf_any _ _ _ _ _ _ _ _ hm).mono ?_; rintro e w7 ⟨rfl, hb7⟩; have hm7 := bnext hm6 hb7; have hRb := hR.below hb7)
    | (go_at_call 80; refine (goOn_any p _ _ _ xs _ _ ys m (gP p xs ys m) 0 0 B' w5 _ hs5 ht5 Hpr.out Hx.out Hy.out (by omega) (by omega) (gP_step p xs ys m) (fun i => gP_small hp xs ys m i n2) (hRb.polys hp n1) (.inr (Nat.zero_le _))).mono ?_; rintro e w8 ⟨ad, cd, rfl, hk, hR2, ht8⟩; obtain ⟨t0, t1, t2⟩ := F5 _ hm7; have hzd := hbd5.size; have hS8 := And.intro (ht8.cell t0 (.inl (by omega))) (And.intro (ht8.cell t1 (.inl (by omega))) (ht8.cell t2 (.inl (by omega))))))
  rw [gP_le (Nat.le_refl m)] at hk ⊢
  have hB8 := hR2.hb
  have o8 := hide (o5.out.below hB8)
  have sP := polJ_small hp xs ys m (by omega)
  have lP := sP.2
  have lP1 := Nat.le_of_eq (polJ_len Hpr.out xs ys m (by omega)).symm
  have hG := hk.res
  have oG : Own w5.heap.size w8 ad cd (polJ p xs ys m) := by
    rcases hG.2 with h | h
    · omega
    · exact h.1
  have OG := hide oG
  have z8 := hB8.size
  obtain ⟨u0, _, _⟩ := hS8
  clear F5 hbd5 hm6 hm7 hR hRb hk hR2 hG oG
  go_wp2_with fail
  refine (reverse_own _ _ _ _ (sojF p xs ys) _ o8.out rfl lF).mono ?_
  rintro e w9 ⟨rfl, o9, lo, hi, ht9, hlo, hbs9, hbn9⟩
  have hbf : ∀ g, blk af = some g → g < w5.heap.size := fun g hg => by
    rcases o5.out.shape with ⟨rfl, _, _⟩ | ⟨g', cur, rfl, _, hgc, _⟩
    · cases hg
    · cases hg; exact lt_of_block hgc
  have hhi : hi ≤ w5.heap.size := by
    cases hb : blk af with
    | none => rw [hbn9 hb]; omega
    | some g => rw [(hbs9 g hb).2]; have := hbf g hb; omega
  have OG9 := hide (OG.out.touch ht9 (fun g hg => .inr (by have := own_blk_ge OG.out g hg; omega)))
  have u9 := ht9.cell u0 (.inl (by omega))
  have hB9 := below_touch (hB5.trans (hB8.mono z5)) ht9 (by omega) (by omega)
  have z9 := hB9.size
  have z9' := ht9.size
  have O9 := hide o9
  have Hbf := hide hbf
  clear o9 o8 OG u0 hbs9 hbn9 hbf
  go_wp2_with fail
  refine (reverse_own _ _ _ _ (polJ p xs ys m) _ OG9.out rfl (by omega)).mono ?_
  rintro e w10 ⟨rfl, o10, lo', hi', ht10, hlo', hbs10, hbn10⟩
  have u10 := ht10.cell u9 (.inl (by omega))
  have hB10 := below_touch hB9 ht10 (by omega) (by omega)
  have z10 := hB10.size
  have h10 := (O9.out.touch ht10 (fun g hg => .inl (by have := Hbf.out g hg; omega))).sl
  have k10 := o10.sl
  rw [revL_len] at h10 k10
  have aP := hide (revL_are (p := p) sP.are)
  clear u9 o10 O9 OG9 ht9 ht10
  go_wp2_with fail
  refine (seriesOf_any p _ _ _ (revL (sojF p xs ys)) _ _ _ (revL (polJ p xs ys m)) K _ h10 k10 (by omega) (by omega) (by omega) (by omega) hp hp2 (revL_are aF.out) aP.out).mono ?_
  rintro e w11 ⟨a', c', rfl, ho, t11⟩
  have B11 := hB10.trans (t11.mono z10)
  have ho2 := Own.mono (B' := w.heap.size) ho z10
  go_wp2
  go_ret2
  exact Res1.own HC.out (by rw [HV.out, serL_len]) (by rw [HV.out]; exact ho2) (by rw [HV.out, serL_len]; omega) B11
end Go.Proofs.Ytddogdmeelckjaa
