/- Merged texts. -/
import Derived.Test.YtkpmonopjkjflaaYC517
import Derived.Test.YtkpmonopjkjflaaYC518
import Derived.Test.YtkpmonopjkjflaaYC511
import Derived.Test.YtkpmonopjkjflaaYC516
import Derived.Test.YtkpmonopjkjflaaYC513
import Derived.BigRegion
import Derived.Deep.RegionHeld3
import Derived.Deep.DeepFit
/- Contracts: opposite, linear (program); l03Step, l03Poly, l03Second (model). -/
namespace Go.Proofs.Ytkpmonopjkjflaa
open Go.RowKit
set_option linter.unusedVariables false
set_option linter.unusedSimpArgs false

theorem opposite_any (p x : Int) (w : World) (hp : 2 ≤ p) (hp2 : p ≤ 10007) (h0 : 0 ≤ x) (h1 : x < p) :
    Calls Try.prog 109 #[.int .i64 p, .int .i64 x] w fun e w' => e = .returned (.int .i64 (opp p x)) ∧ w = w' := by
  have v1 : IntKind.i64.wrap (p - x) = p - x := IntWalk.i64_in _ (by omega)
  have v2 : (p - x).tmod p = opp p x := Int.tmod_eq_emod_of_nonneg (by omega)
  have r := opp_rng (x := x) (show 2 ≤ p by omega)
  generalize opp p x = y at v2 r ⊢
  have v3 : IntKind.i64.wrap y = y := IntWalk.i64_in _ (by omega)
  have hp0 : ¬ p = 0 := by omega
  go_enter Try.func109, Try.ntmps109
  go_wp2
  go_ret
  exact ⟨rfl, rfl⟩
theorem linear_any (p x : Int) (w : World) (hp : 2 ≤ p) (hp2 : p ≤ 10007) (h0 : 0 ≤ x) (h1 : x < p) :
    Calls Try.prog 122 #[.int .i64 p, .int .i64 x] w fun e w' => e = .returned (.slice (some ⟨w.heap.size, 0, none⟩) 2 2) ∧ Own w.heap.size w' (some ⟨w.heap.size, 0, none⟩) 2 (linM p x) ∧ Below w.heap.size w w' := by
  obtain ⟨y, hy⟩ : ∃ y, opp p x = y := ⟨_, rfl⟩
  unfold linM
  rw [hy]
  have Hy := Lib.hid hy
  clear hy
  go_enter Try.func122, Try.ntmps122
  go_wp2_with fail
  refine (opposite_any p x _ hp hp2 h0 h1).mono ?_
  rintro e w1 ⟨rfl, rfl⟩
  rw [Hy.out]
  go_wp2
  go_ret
  exact ⟨rfl, World.ownsRow_lit w (base := w.heap.size) (e := 2) (size := 1) #[.int .i64 y, .int .i64 1] 2 (Nat.le_refl _) (by decide) rfl, bl1 _ _⟩
set_option maxRecDepth 100000 in
set_option maxHeartbeats 1600000 in
theorem l03Step_any (p : Int) (a1 : Option Addr) (n1 c1 : Nat) (f : List Int) (a2 : Option Addr) (n2 c2 : Nat) (g : List Int) (a b : Int) (m : Nat) (w : World) (h1 : SL w a1 n1 c1 f) (h2 : SL w a2 n2 c2 g)
    (hpr : primeB p = true) (ha0 : 0 ≤ a) (ha1 : a < p) (hb0 : 0 ≤ b) (hb1 : b < p) (hf : Small p m f) (hg : Small p m g) (hm : m ≤ 24) :
    Calls Try.prog 136 #[.int .i64 p, .slice a1 n1 c1, .slice a2 n2 c2, .int .i64 a, .int .i64 b] w fun e w' => ∃ a' c', e = .returned (.slice a' (stp p a b f g).length c') ∧ Own w.heap.size w' a' c' (stp p a b f g) ∧ Below w.heap.size w w' := by
  obtain ⟨hp, hp2⟩ := primeB_lo hpr
  have d1 := h1.len
  have d2 := h2.len
  have e1 := hf.2
  have e2 := hg.2
  have ht := Lib.hid (stp_trim hpr a hf)
  have HF := hide hf.are
  have HG := hide hg.are
  have HL := hide (linM_poly (a := a) hp)
  have hll := lin_len p a f
  have oa := Lib.hid (opp_neg p a)
  have ob := Lib.hid (opp_neg p b)
  have rb := opp_rng (x := b) hp
  have v1 : IntKind.i64.wrap (-a) = -a := IntWalk.i64_in _ (by omega)
  have v2 : IntKind.i64.wrap (-b) = -b := IntWalk.i64_in _ (by omega)
  clear hf hg
  go_enter Try.func136, Try.ntmps136
  go_wp2_with fail
  refine (l01Mod_any p (-a) _ hp hp2 (by omega) (by omega)).mono ?_
  rintro e w1 ⟨rfl, rfl⟩
  rw [oa.out]
  have k1 := litSL2 w (opp p a) 1
  have k2 := h1.below (bl1 w (.cells #[.int .i64 (opp p a), .int .i64 1] 2))
  have k3 := h2.below (bl1 w (.cells #[.int .i64 (opp p a), .int .i64 1] 2))
  have hb0' := bl1 w (.cells #[.int .i64 (opp p a), .int .i64 1] 2)
  go_wp2_with fail
  refine (l01Times_any p _ _ _ [opp p a, 1] _ _ _ f _ k1 k2 (by omega) (by omega) hp hp2 (polyB_rng HL.out).2.1 HF.out).mono ?_
  rintro e w2 ⟨a', c', rfl, ho, hb2⟩
  rw [show ([opp p a, 1] : List Int) = linM p a from rfl, ht.out] at ho ⊢
  have k4 := k3.below hb2
  have k5 := ho.sl
  have hB2 := bnext hb0' hb2
  go_wp2_with fail
  refine (l01Mod_any p (-b) _ hp hp2 (by omega) (by omega)).mono ?_
  rintro e w1 ⟨rfl, rfl⟩
  rw [ob.out]
  go_wp2_with fail
  refine (l01Add_any p (opp p b) _ _ _ (mulM p (linM p a) f) _ _ _ g _ k5 k4 (by omega) (by omega) hp hp2 rb.1 rb.2 (mulM_are hp) HG.out).mono ?_
  rintro e w3 ⟨a2', c2', rfl, ho2, hb3⟩
  have hz := hB2.size
  go_wp2
  go_ret
  exact ⟨a2', c2', rfl, ho2.mono hz, bnext hB2 hb3⟩
set_option maxRecDepth 100000 in
set_option maxHeartbeats 1600000 in
theorem l03Poly_any (p : Int) (a : Option Addr) (n c : Nat) (xs : List Int) (b : Option Addr) (m d : Nat) (ys : List Int) (K : Nat) (w : World) (hs : SL w a n c xs) (ht : SL w b m d ys) (hj : jacB p xs ys = true) (hK : K ≤ n) :
    Calls Try.prog 101 #[jac p a n c b m d, .int .i64 K] w fun e w' => ∃ a' c', e = .returned (.slice a' (polJ p xs ys K).length c') ∧ Own w.heap.size w' a' c' (polJ p xs ys K) ∧ Below w.heap.size w w' := by
  obtain ⟨hpr, n1, n2, n3, hx, hy⟩ := jacB_rng hj
  obtain ⟨hp, hp2⟩ := primeB_lo hpr
  have hl := hide hs.len
  have hl2 := hide ht.len
  rw [hl.out] at n1 n2 n3
  rw [hl2.out] at n3
  subst n3
  have Hpr := hide hpr
  have Hx := hide hx
  have Hy := hide (posB_are hy)
  have Sm := fun i (hi : i ≤ 24) => Lib.hid (rcP_small hp xs ys 0 1 (Small.nil p 1) (Small.one hp (Nat.le_refl _)) i (by omega))
  obtain ⟨b1, o1, rfl, hw1, hc1⟩ := hs.at (by omega)
  obtain ⟨b2, o2, rfl, hw2, hc2⟩ := ht.at (by omega)
  have hb0 := bl3 w (.cells #[.int .i64 p, .slice (some ⟨b1, o1, none⟩) m c, .slice (some ⟨b2, o2, none⟩) m d] 63) (.cells #[] 2) (.cells #[.int .i64 1] 2)
  have q2 := litOwn ((w.alloc (.cells #[.int .i64 p, .slice (some ⟨b1, o1, none⟩) m c, .slice (some ⟨b2, o2, none⟩) m d] 63)).alloc (.cells #[] 2)) w.heap.size (by simp; omega) 1
  simp at q2
  clear hs ht hj hx hy hpr
  go_enter Try.func101, Try.ntmps101
  go_wp2
  go_loopw [5, 6, 7] (fun pv nv iv wr => ∃ (k : Nat) (a1 : Option Addr) (c1 : Nat) (a2 : Option Addr) (c2 : Nat) (f g : List Int), k ≤ K ∧ iv = .int .i64 k ∧ pv = .slice a1 f.length c1 ∧ nv = .slice a2 g.length c2 ∧ SL wr a1 f.length c1 f ∧ Own w.heap.size wr a2 c2 g ∧ Hid (rcP p xs ys 0 [] [1] k = (f, g)) ∧
    Below (w.heap.size + 1) (w.alloc (.cells #[.int .i64 p, .slice (some ⟨b1, o1, none⟩) m c, .slice (some ⟨b2, o2, none⟩) m d] 63)) wr ∧ w.heap.size + 1 ≤ wr.heap.size) (fun _ _ iv _ => K - (intOf iv).toNat)
  case atStart => exact ⟨0, _, 0, _, 1, [], [1], by omega, rfl, rfl, rfl, ⟨rfl, ⟨Nat.le_refl _, fun h => by cases h⟩, .inl rfl⟩, q2, rfl, by simpa using bl2 (w.alloc (.cells #[.int .i64 p, .slice (some ⟨b1, o1, none⟩) m c, .slice (some ⟨b2, o2, none⟩) m d] 63)) (.cells #[] 2) (.cells #[.int .i64 1] 2), by simp⟩
  case round =>
    obtain ⟨k, a1, c1, a2, c2, f, g, hk, rfl, rfl, rfl, hf, hg, hR, hbr, hsz⟩ := hrel
    have hB : Below w.heap.size w wr := (bl1 w (.cells #[.int .i64 p, .slice (some ⟨b1, o1, none⟩) m c, .slice (some ⟨b2, o2, none⟩) m d] 63)).trans (hbr.mono (Nat.le_succ _))
    by_cases hlt : k < K
    · have f0 : wr.cell? ⟨w.heap.size, 0, none⟩ = some (.int .i64 p) := (hbr.cell (by simp)).trans (by simp [go_sem])
      have f1 : wr.cell? ⟨w.heap.size, 1, none⟩ = some (.slice (some ⟨b1, o1, none⟩) m c) := (hbr.cell (by simp)).trans (by simp [go_sem])
      have f2 : wr.cell? ⟨w.heap.size, 2, none⟩ = some (.slice (some ⟨b2, o2, none⟩) m d) := (hbr.cell (by simp)).trans (by simp [go_sem])
      have e1 : wr.cell? ⟨b1, o1 + k, none⟩ = some (.int .i64 (xs.getD k 0)) := cell_be hB (hc1 k (by omega))
      have e2 : wr.cell? ⟨b2, o2 + k, none⟩ = some (.int .i64 (ys.getD k 0)) := cell_be hB (hc2 k (by omega))
      have x1 := getD_rng Hx.out hp k
      have x2 := getD_rng Hy.out hp k
      have hn := Lib.hid (rcP_succ p xs ys 0 [] [1] k)
      have sm := Sm k (by omega)
      rw [hR.out] at hn sm
      simp only [Nat.zero_add] at hn sm
      obtain ⟨x, hx⟩ : ∃ x, xs.getD k 0 = x := ⟨_, rfl⟩
      obtain ⟨y, hy⟩ : ∃ y, ys.getD k 0 = y := ⟨_, rfl⟩
      rw [hx] at e1 x1 hn
      rw [hy] at e2 x2 hn
      clear hx hy hc1 hc2 q2 hb0
      have hlt' : (k : Int) < (K : Int) := by omega
      have hlm : (k : Int) < (m : Int) := by omega
      have hbd := (Below.refl wr.heap.size wr).drew
      have F : ∀ w', Below wr.heap.size wr w' → w'.cell? ⟨w.heap.size, 0, none⟩ = some (.int .i64 p) ∧ w'.cell? ⟨w.heap.size, 1, none⟩ = some (.slice (some ⟨b1, o1, none⟩) m c) ∧ w'.cell? ⟨w.heap.size, 2, none⟩ = some (.slice (some ⟨b2, o2, none⟩) m d) ∧ w'.cell? ⟨b1, o1 + k, none⟩ = some (.int .i64 x) ∧ w'.cell? ⟨b2, o2 + k, none⟩ = some (.int .i64 y) := fun w' h => ⟨cell_be h f0, cell_be h f1, cell_be h f2, cell_be h e1, cell_be h e2⟩
      go_wp2
      go_region_held3 (fun w' => w'.cell? ⟨w.heap.size, 0, none⟩ = some (.int .i64 p) ∧ w'.cell? ⟨w.heap.size, 1, none⟩ = some (.slice (some ⟨b1, o1, none⟩) m c) ∧ w'.cell? ⟨w.heap.size, 2, none⟩ = some (.slice (some ⟨b2, o2, none⟩) m d) ∧ w'.cell? ⟨b1, o1 + k, none⟩ = some (.int .i64 x) ∧ w'.cell? ⟨b2, o2 + k, none⟩ = some (.int .i64 y))
        (exact F _ (by assumption))
        (first
        | (go_at_call 136; refine (l03Step_any p _ _ _ g _ _ _ f x y (1 + k) _ (hg.sl.below hbd) (hf.below hbd) Hpr.out x1.1 x1.2 x2.1 x2.2 sm.out.2 sm.out.1 (by omega)).mono ?_; rintro e w3 ⟨a', c', rfl, ho, hb3⟩; have hm3 := bnext hbd hb3))
      go_wp2
      go_roundw
      case rel => exact ⟨k + 1, a2, c2, a', c', g, stp p x y g f, by omega, by go_num, rfl, rfl, hg.sl.below hm3, ho.mono (by simp at hsz ⊢; omega), hn, hbr.trans (hm3.mono (by omega)), by have := hm3.size; omega⟩
      case measure => simp [intOf]; omega
    · have hkK : Hid (k = K) := hide (by omega)
      have hge : (K : Int) ≤ (k : Int) := by omega
      have he : Hid (polJ p xs ys K = g) := hide (by unfold polJ; rw [← hkK.out, hR.out])
      clear q2 hb0 hc1 hc2
      go_wp2
      go_ret
      exact ⟨a2, c2, by rw [he.out]; rfl, by rw [he.out]; exact hg, hB⟩
set_option maxRecDepth 100000 in
set_option maxHeartbeats 1600000 in
theorem l03Second_any (p : Int) (a : Option Addr) (n c : Nat) (xs : List Int) (b : Option Addr) (m d : Nat) (ys : List Int) (K : Nat) (w : World) (hs : SL w a n c xs) (ht : SL w b m d ys) (hj : jacB p xs ys = true) (hK : K ≤ n) :
    Calls Try.prog 143 #[jac p a n c b m d, .int .i64 K] w fun e w' => ∃ a' c', e = .returned (.slice a' (secJ p xs ys K).length c') ∧ Own w.heap.size w' a' c' (secJ p xs ys K) ∧ Below w.heap.size w w' := by
  obtain ⟨hpr, n1, n2, n3, hx, hy⟩ := jacB_rng hj
  obtain ⟨hp, hp2⟩ := primeB_lo hpr
  have hl := hide hs.len
  have hl2 := hide ht.len
  rw [hl.out] at n1 n2 n3
  rw [hl2.out] at n3
  subst n3
  have Hpr := hide hpr
  have Hx := hide hx
  have Hy := hide (posB_are hy)
  have Sm := fun i (hi : i ≤ 24) => Lib.hid (rcP_small hp xs ys 1 1 (Small.nil p 1) (Small.one hp (Nat.le_refl _)) i (by omega))
  obtain ⟨b1, o1, rfl, hw1, hc1⟩ := hs.at (by omega)
  obtain ⟨b2, o2, rfl, hw2, hc2⟩ := ht.at (by omega)
  have hb0 := bl3 w (.cells #[.int .i64 p, .slice (some ⟨b1, o1, none⟩) m c, .slice (some ⟨b2, o2, none⟩) m d] 63) (.cells #[] 2) (.cells #[.int .i64 1] 2)
  have q2 := litOwn ((w.alloc (.cells #[.int .i64 p, .slice (some ⟨b1, o1, none⟩) m c, .slice (some ⟨b2, o2, none⟩) m d] 63)).alloc (.cells #[] 2)) w.heap.size (by simp; omega) 1
  simp at q2
  clear hs ht hj hx hy hpr
  by_cases hK0 : K = 0
  · subst hK0
    have q0 : Own w.heap.size ((w.alloc (.cells #[.int .i64 p, .slice (some ⟨b1, o1, none⟩) m c, .slice (some ⟨b2, o2, none⟩) m d] 63)).alloc (.cells #[] 2)) (some ⟨w.heap.size + 1, 0, none⟩) 0 (secJ p xs ys 0) := by
      have := World.ownsRow_lit (w.alloc (.cells #[.int .i64 p, .slice (some ⟨b1, o1, none⟩) m c, .slice (some ⟨b2, o2, none⟩) m d] 63)) (base := w.heap.size) (e := 2) (size := 1) #[] 0 (by simp) (by simp) rfl
      simp at this
      exact this
    clear q2 hb0 hc1 hc2
    go_enter Try.func143, Try.ntmps143
    go_wp2
    go_ret
    exact ⟨_, _, rfl, q0, bl2 _ _ _⟩
  have hK1 : ((K : Int) == 0) = false := by simp; omega
  go_enter Try.func143, Try.ntmps143
  go_wp2
  go_loopw [5, 6, 7] (fun pv nv iv wr => ∃ (k i : Nat) (a1 : Option Addr) (c1 : Nat) (a2 : Option Addr) (c2 : Nat) (f g : List Int), i ≤ K ∧ Hid (i = k + 1) ∧ iv = .int .i64 i ∧ pv = .slice a1 f.length c1 ∧ nv = .slice a2 g.length c2 ∧ SL wr a1 f.length c1 f ∧ Own w.heap.size wr a2 c2 g ∧ Hid (rcP p xs ys 1 [] [1] k = (f, g)) ∧
    Below (w.heap.size + 1) (w.alloc (.cells #[.int .i64 p, .slice (some ⟨b1, o1, none⟩) m c, .slice (some ⟨b2, o2, none⟩) m d] 63)) wr ∧ w.heap.size + 1 ≤ wr.heap.size) (fun _ _ iv _ => K - (intOf iv).toNat)
  case atStart => exact ⟨0, 1, _, 0, _, 1, [], [1], by omega, rfl, rfl, rfl, rfl, ⟨rfl, ⟨Nat.le_refl _, fun h => by cases h⟩, .inl rfl⟩, q2, rfl, by simpa using bl2 (w.alloc (.cells #[.int .i64 p, .slice (some ⟨b1, o1, none⟩) m c, .slice (some ⟨b2, o2, none⟩) m d] 63)) (.cells #[] 2) (.cells #[.int .i64 1] 2), by simp⟩
  case round =>
    obtain ⟨k, i, a1, c1, a2, c2, f, g, hk, hi, rfl, rfl, rfl, hf, hg, hR, hbr, hsz⟩ := hrel
    have hB : Below w.heap.size w wr := (bl1 w (.cells #[.int .i64 p, .slice (some ⟨b1, o1, none⟩) m c, .slice (some ⟨b2, o2, none⟩) m d] 63)).trans (hbr.mono (Nat.le_succ _))
    by_cases hlt : i < K
    · have f0 : wr.cell? ⟨w.heap.size, 0, none⟩ = some (.int .i64 p) := (hbr.cell (by simp)).trans (by simp [go_sem])
      have f1 : wr.cell? ⟨w.heap.size, 1, none⟩ = some (.slice (some ⟨b1, o1, none⟩) m c) := (hbr.cell (by simp)).trans (by simp [go_sem])
      have f2 : wr.cell? ⟨w.heap.size, 2, none⟩ = some (.slice (some ⟨b2, o2, none⟩) m d) := (hbr.cell (by simp)).trans (by simp [go_sem])
      have e1 : wr.cell? ⟨b1, o1 + i, none⟩ = some (.int .i64 (xs.getD i 0)) := cell_be hB (hc1 i (by omega))
      have e2 : wr.cell? ⟨b2, o2 + i, none⟩ = some (.int .i64 (ys.getD i 0)) := cell_be hB (hc2 i (by omega))
      have x1 := getD_rng Hx.out hp i
      have x2 := getD_rng Hy.out hp i
      have hn := Lib.hid (rcP_succ p xs ys 1 [] [1] k)
      have sm := Sm k (by have := hi.out; omega)
      rw [hR.out] at hn sm
      rw [Nat.add_comm 1 k, ← hi.out] at hn
      obtain ⟨x, hx⟩ : ∃ x, xs.getD i 0 = x := ⟨_, rfl⟩
      obtain ⟨y, hy⟩ : ∃ y, ys.getD i 0 = y := ⟨_, rfl⟩
      rw [hx] at e1 x1 hn
      rw [hy] at e2 x2 hn
      clear hx hy hc1 hc2 q2 hb0
      have hlt' : (i : Int) < (K : Int) := by omega
      have hlm : (i : Int) < (m : Int) := by omega
      have hbd := (Below.refl wr.heap.size wr).drew
      have F : ∀ w', Below wr.heap.size wr w' → w'.cell? ⟨w.heap.size, 0, none⟩ = some (.int .i64 p) ∧ w'.cell? ⟨w.heap.size, 1, none⟩ = some (.slice (some ⟨b1, o1, none⟩) m c) ∧ w'.cell? ⟨w.heap.size, 2, none⟩ = some (.slice (some ⟨b2, o2, none⟩) m d) ∧ w'.cell? ⟨b1, o1 + i, none⟩ = some (.int .i64 x) ∧ w'.cell? ⟨b2, o2 + i, none⟩ = some (.int .i64 y) := fun w' h => ⟨cell_be h f0, cell_be h f1, cell_be h f2, cell_be h e1, cell_be h e2⟩
      go_wp2
      go_region_held3 (fun w' => w'.cell? ⟨w.heap.size, 0, none⟩ = some (.int .i64 p) ∧ w'.cell? ⟨w.heap.size, 1, none⟩ = some (.slice (some ⟨b1, o1, none⟩) m c) ∧ w'.cell? ⟨w.heap.size, 2, none⟩ = some (.slice (some ⟨b2, o2, none⟩) m d) ∧ w'.cell? ⟨b1, o1 + i, none⟩ = some (.int .i64 x) ∧ w'.cell? ⟨b2, o2 + i, none⟩ = some (.int .i64 y))
        (exact F _ (by assumption))
        (first
        | (go_at_call 136; refine (l03Step_any p _ _ _ g _ _ _ f x y (1 + k) _ (hg.sl.below hbd) (hf.below hbd) Hpr.out x1.1 x1.2 x2.1 x2.2 sm.out.2 sm.out.1 (by have := hi.out; omega)).mono ?_; rintro e w3 ⟨a', c', rfl, ho, hb3⟩; have hm3 := bnext hbd hb3))
      go_wp2
      go_roundw
      case rel => exact ⟨k + 1, i + 1, a2, c2, a', c', g, stp p x y g f, by omega, hide (by rw [hi.out]), by go_num, rfl, rfl, hg.sl.below hm3, ho.mono (by simp at hsz ⊢; omega), by rw [← hi.out]; exact hn, hbr.trans (hm3.mono (by omega)), by have := hm3.size; omega⟩
      case measure => simp [intOf]; omega
    · have hkK : Hid (K = k + 1) := hide (by have := hi.out; omega)
      have hge : (K : Int) ≤ (i : Int) := by omega
      have he : Hid (secJ p xs ys K = g) := hide (by unfold secJ; rw [hkK.out, rcP_one, hR.out])
      clear q2 hb0 hc1 hc2
      go_wp2
      go_ret
      exact ⟨a2, c2, by rw [he.out]; rfl, by rw [he.out]; exact hg, hB⟩
end Go.Proofs.Ytkpmonopjkjflaa
/- Contracts: l01Points, interpolate, l01Interpolate, InterpolatePoly (program and model). -/
namespace Go.Proofs.Ytkpmonopjkjflaa
open Go.RowKit
set_option linter.unusedVariables false
set_option linter.unusedSimpArgs false

set_option maxRecDepth 100000 in
set_option maxHeartbeats 800000 in
theorem l01Points_f (p : Int) (a : Option Addr) (n c : Nat) (xs : List Int) (w : World) (hs : SL w a n c xs) (hn : n ≤ 4000000) (hp : -1000000000000 ≤ p) (hp2 : p ≤ 1000000000000) :
    Calls Try.prog 76 #[.int .i64 p, .slice a n c, .bool false] w fun e w' => e = .returned (.bool (areB p xs)) ∧ Below w.heap.size w w' := by
  have hl := hide hs.len
  by_cases h0 : n = 0
  · subst h0
    obtain rfl := hs.empty
    go_enter Try.func76, Try.ntmps76
    go_wp2
    refine wp_loop_rounds 1 ?_
    rw [rounds_succ]
    go_wp2
    go_ret
    exact ⟨rfl, Below.refl _ _⟩
  obtain ⟨b, off, rfl, hbw, hcell⟩ := hs.at (by omega)
  clear hs
  have hb0 := Below.refl w.heap.size w
  go_enter Try.func76, Try.ntmps76
  go_wp2
  go_loopw [7] (fun i wr => ∃ k : Nat, k ≤ n ∧ i = .int .i64 k ∧ Hid (areB p (xs.take k) = true) ∧ Below w.heap.size w wr) (fun i _ => n - (intOf i).toNat)
  case atStart => exact ⟨0, by omega, rfl, by simp [Hid, areB], hb0⟩
  case round =>
    obtain ⟨k, hk, rfl, hR, hb⟩ := hrel
    by_cases hlt : k < n
    · have e1 := cell_be hb (hcell k hlt)
      have hsn := hide (areB_snoc p xs k (by rw [hl.out]; exact hlt))
      obtain ⟨x, hx⟩ : ∃ x, x = xs.getD k 0 := ⟨_, rfl⟩
      rw [← hx] at e1
      have Hx := hide hx
      clear hx hcell
      have hlt' : (k : Int) < (n : Int) := by omega
      by_cases hok : 0 ≤ x ∧ x ≤ p - 1
      · go_wp2_with fail
        refine (l01In_yes _ _ _ _ hok.1 hok.2).mono ?_
        rintro e w' ⟨rfl, rfl⟩
        go_wp2
        refine wp_loop_rounds 1 ?_
        rw [rounds_succ]
        go_wp2
        all_goals exact ⟨⟨k + 1, by omega, by go_num, hide (by rw [hsn.out, hR.out, ← Hx.out]; simp [okN]; omega), hb⟩, by simp [intOf]; omega⟩
      · have hF : Hid (areB p xs = false) := hide (areB_false p xs k (by rw [hl.out]; exact hlt) (by rw [← Hx.out]; simp [okN]; omega))
        go_wp2_with fail
        refine (l01In_no _ _ _ _ hok).mono ?_
        rintro e w' ⟨rfl, rfl⟩
        go_wp2
        go_ret
        exact ⟨ret_bool hF.out.symm, hb⟩
    · obtain rfl : k = n := by omega
      have hF : Hid (areB p xs = true) := hide (by have := hR.out; rwa [List.take_of_length_le (by rw [hl.out]; omega)] at this)
      go_wp2
      go_ret
      exact ⟨ret_bool hF.out.symm, hb⟩
theorem nodup_snoc (xs : List Int) (k : Nat) (hk : k < xs.length) : (xs.take (k + 1)).Nodup ↔ (xs.take k).Nodup ∧ xs.getD k 0 ∉ xs.take k := by
  rw [take_snoc xs k hk, List.nodup_append]
  constructor
  · rintro ⟨h1, _, h3⟩
    exact ⟨h1, fun h => h3 _ h _ (by simp) rfl⟩
  · rintro ⟨h1, h2⟩
    exact ⟨h1, by simp, fun a ha b hb e => by simp at hb; rw [hb] at e; rw [List.getD] at h2; rw [e] at ha; exact h2 ha⟩
theorem nodup_take {xs : List Int} (h : xs.Nodup) (k : Nat) : (xs.take k).Nodup := List.Sublist.nodup (List.take_sublist k xs) h
theorem mem_take_snoc (xs : List Int) (j : Nat) (x : Int) (hj : j < xs.length) : x ∈ xs.take (j + 1) ↔ x ∈ xs.take j ∨ x = xs.getD j 0 := by
  rw [take_snoc xs j hj]; simp
set_option maxRecDepth 100000 in
set_option maxHeartbeats 1600000 in
theorem l01Points_t (p : Int) (a : Option Addr) (n c : Nat) (xs : List Int) (w : World) (hs : SL w a n c xs) (hn : n ≤ 4000000) (hp : -1000000000000 ≤ p) (hp2 : p ≤ 1000000000000) :
    Calls Try.prog 76 #[.int .i64 p, .slice a n c, .bool true] w fun e w' => e = .returned (.bool (areB p xs && difB xs)) ∧ Below w.heap.size w w' := by
  have hl := hide hs.len
  by_cases h0 : n = 0
  · subst h0
    obtain rfl := hs.empty
    go_enter Try.func76, Try.ntmps76
    go_wp2
    refine wp_loop_rounds 1 ?_
    rw [rounds_succ]
    go_wp2
    go_ret
    exact ⟨rfl, Below.refl _ _⟩
  obtain ⟨b, off, rfl, hbw, hcell'⟩ := hs.at (by omega)
  have hcell := hide hcell'
  clear hs hcell'
  have hb0 := Below.refl w.heap.size w
  go_enter Try.func76, Try.ntmps76
  go_wp2
  go_loopw [7] (fun i wr => ∃ k : Nat, k ≤ n ∧ i = .int .i64 k ∧ Hid (areB p (xs.take k) = true) ∧ Hid ((xs.take k).Nodup) ∧ Below w.heap.size w wr) (fun i _ => n - (intOf i).toNat)
  case atStart => exact ⟨0, by omega, rfl, by simp [Hid, areB], hide (by simp), hb0⟩
  case round =>
    obtain ⟨k, hk, rfl, hR, hD, hb⟩ := hrel
    by_cases hlt : k < n
    · have e1 := cell_be hb (hcell.out k hlt)
      have hsn := hide (areB_snoc p xs k (by rw [hl.out]; exact hlt))
      obtain ⟨x, hx⟩ : ∃ x, x = xs.getD k 0 := ⟨_, rfl⟩
      rw [← hx] at e1
      have Hx := hide hx
      clear hx
      have hlt' : (k : Int) < (n : Int) := by omega
      by_cases hok : 0 ≤ x ∧ x ≤ p - 1
      · go_wp2_with fail
        refine (l01In_yes _ _ _ _ hok.1 hok.2).mono ?_
        rintro e w' ⟨rfl, rfl⟩
        go_wp2
        clear hb0
        go_loopw [8] (fun j wq => ∃ m : Nat, m ≤ k ∧ j = .int .i64 m ∧ Hid (x ∉ xs.take m) ∧ Below w.heap.size w wq) (fun j _ => k - (intOf j).toNat)
        case atStart => exact ⟨0, by omega, rfl, hide (by simp), hb⟩
        case round =>
          obtain ⟨m, hm, rfl, hN, hb2⟩ := hrel
          clear hb e1
          have hk0 : (0 : Int) ≤ (k : Int) := by omega
          have hm0 : (0 : Int) ≤ (m : Int) := by omega
          by_cases hlm : m < k
          · have e1 := cell_be hb2 (hcell.out k hlt)
            rw [← Hx.out] at e1
            have e2 := cell_be hb2 (hcell.out m (by omega))
            obtain ⟨y, hy⟩ : ∃ y, y = xs.getD m 0 := ⟨_, rfl⟩
            rw [← hy] at e2
            have Hy := hide hy
            clear hy
            have hlm' : (m : Int) < (k : Int) := by omega
            have hmn : (m : Int) < (n : Int) := by omega
            by_cases hxy : y = x
            · have hF : Hid ((areB p xs && difB xs) = false) := hide (by
                have h1 : ¬ xs.Nodup := fun h => by
                  have h2 := (nodup_snoc xs k (by rw [hl.out]; exact hlt)).1 (nodup_take h (k + 1))
                  refine h2.2 ?_
                  rw [← Hx.out, ← hxy, Hy.out]
                  have h3 := (mem_take_snoc xs m (xs.getD m 0) (by rw [hl.out]; omega)).2 (.inr rfl)
                  have h4 : xs.take (m + 1) = (xs.take k).take (m + 1) := by rw [List.take_take, Nat.min_eq_left (by omega)]
                  rw [h4] at h3
                  exact List.mem_of_mem_take h3
                unfold difB
                rw [decide_eq_false h1]; simp)
              have ob : (y == x) = true := by simpa using hxy
              clear hxy
              go_wp2_with fail
              go_region
              all_goals go_wp2
              all_goals go_ret
              all_goals exact ⟨ret_bool hF.out.symm, hb2.drew⟩
            · have hN2 : Hid (x ∉ xs.take (m + 1)) := hide (by
                rw [mem_take_snoc xs m x (by rw [hl.out]; omega)]
                rintro (h | h)
                · exact hN.out h
                · exact hxy (by rw [Hy.out, h]))
              have ob : (y == x) = false := by simpa using hxy
              clear hxy
              go_wp2_with fail
              go_region
              all_goals go_wp2
              all_goals go_roundw
              all_goals first
                | exact ⟨m + 1, by omega, by go_num, hN2, hb2.drew⟩
                | (simp [intOf]; omega)
          · have hmk : m = k := by omega
            have hN2 : Hid ((xs.take (k + 1)).Nodup) := hide ((nodup_snoc xs k (by rw [hl.out]; exact hlt)).2 ⟨hD.out, by rw [← Hx.out]; have := hN.out; rwa [hmk] at this⟩)
            have hlm' : ¬ (m : Int) < (k : Int) := by omega
            clear hmk
            go_wp2
            go_roundw
            case rel => exact ⟨k + 1, by omega, by go_num, hide (by rw [hsn.out, hR.out, ← Hx.out]; simp [okN]; omega), hN2, hb2⟩
            case measure => simp [intOf]; omega
      · have hF : Hid ((areB p xs && difB xs) = false) := hide (by rw [areB_false p xs k (by rw [hl.out]; exact hlt) (by rw [← Hx.out]; simp [okN]; omega)]; rfl)
        go_wp2_with fail
        refine (l01In_no _ _ _ _ hok).mono ?_
        rintro e w' ⟨rfl, rfl⟩
        go_wp2
        go_ret
        exact ⟨ret_bool hF.out.symm, hb⟩
    · obtain rfl : k = n := by omega
      have hF : Hid ((areB p xs && difB xs) = true) := hide (by
        have h1 := hR.out
        have h2 := hD.out
        rw [List.take_of_length_le (by rw [hl.out]; omega)] at h1 h2
        unfold difB
        rw [h1, decide_eq_true h2]; rfl)
      go_wp2
      go_ret
      exact ⟨ret_bool hF.out.symm, hb⟩
theorem mulpI {p : Int} {f g : List Int} (hp : primeB p = true) (hf : polyB p f = true) (hg : polyB p g = true) (hl : (mulM p f g).length ≤ 25) : polyB p (mulM p f g) = true := by
  have hpl := primeB_lo hp
  have := polyB_trim (p := p) (xs := mulM p f g) hl (fun j hj => areB_at (mulM_areB hpl.1 f g) j hj)
  rwa [mulM_trim hp hf hg] at this
theorem timesT (p : Int) (a1 : Option Addr) (n1 c1 : Nat) (f : List Int) (a2 : Option Addr) (n2 c2 : Nat) (g : List Int) (w : World) (h1 : SL w a1 n1 c1 f) (h2 : SL w a2 n2 c2 g)
    (b1 : n1 ≤ 1000) (b2 : n2 ≤ 1000) (hp : 2 ≤ p) (hp2 : p ≤ 10007) (hf : areB p f = true) (hg : areB p g = true) (ht : trimL (mulM p f g) = mulM p f g) :
    Calls Try.prog 68 #[.int .i64 p, .slice a1 n1 c1, .slice a2 n2 c2] w fun e w' => ∃ a' c', e = .returned (.slice a' (mulM p f g).length c') ∧ Own w.heap.size w' a' c' (mulM p f g) ∧ Below w.heap.size w w' := by
  have := l01Times_any p a1 n1 c1 f a2 n2 c2 g w h1 h2 b1 b2 hp hp2 hf hg
  rwa [ht] at this
/-- The polynomial that was found, and the product of x less the nodes, behind so many nodes. -/
def itpF (p : Int) (xs ys : List Int) : Nat → List Int × List Int
  | 0 => ([], [1])
  | i + 1 =>
    let s := itpF p xs ys i
    (addM p s.1 s.2 ((ys.getD i 0 - evM p s.1 (xs.getD i 0)) % p * invM p (evM p s.2 (xs.getD i 0)) % p), mulM p s.2 (linM p (xs.getD i 0)))
theorem itp_q {p : Int} (hp : primeB p = true) (xs ys : List Int) : ∀ i, areB p (itpF p xs ys i).2 = true ∧ (itpF p xs ys i).2.length ≤ i + 1 ∧ (i ≤ 24 → polyB p (itpF p xs ys i).2 = true) := by
  have hpl := primeB_lo hp
  intro i
  induction i with
  | zero => refine ⟨?_, ?_, fun _ => ?_⟩ <;> simp [itpF, areB, okN, polyB, lastZ] <;> omega
  | succ i ih =>
    have hlen : (itpF p xs ys (i + 1)).2.length ≤ i + 1 + 1 := by
      show (mulM p (itpF p xs ys i).2 (linM p (xs.getD i 0))).length ≤ _
      rcases mulM_up (p := p) (f := (itpF p xs ys i).2) (g := linM p (xs.getD i 0)) with h | ⟨_, _, h⟩
      · omega
      · rw [h]; have : (linM p (xs.getD i 0)).length = 2 := rfl; omega
    exact ⟨mulM_are hpl.1, hlen, fun h => mulpI hp (ih.2.2 (by omega)) (linM_poly hpl.1) (by have := hlen; show (itpF p xs ys (i + 1)).2.length ≤ 25; omega)⟩
theorem itp_f {p : Int} (hp : primeB p = true) (xs ys : List Int) : ∀ i, i ≤ 25 → areB p (itpF p xs ys i).1 = true ∧ (itpF p xs ys i).1.length ≤ i := by
  have hpl := primeB_lo hp
  intro i
  induction i with
  | zero => intro _; exact ⟨rfl, by simp [itpF]⟩
  | succ i ih =>
    intro hi
    replace ih := ih (by omega)
    refine ⟨(polyB_rng (addM_poly hpl.1 (by have := ih.2; omega) (by have := (itp_q hp xs ys i).2.1; omega) ih.1)).2.1, ?_⟩
    show (addM p _ _ _).length ≤ _
    unfold addM
    refine Nat.le_trans (trimL_le _) ?_
    rw [tab_len]
    have := (itp_q hp xs ys i).2.1
    omega
theorem itp_trim {p : Int} (hp : primeB p = true) (xs ys : List Int) (i : Nat) (hi : i ≤ 24) : trimL (mulM p (itpF p xs ys i).2 (linM p (xs.getD i 0))) = mulM p (itpF p xs ys i).2 (linM p (xs.getD i 0)) :=
  mulM_trim hp ((itp_q hp xs ys i).2.2 hi) (linM_poly (primeB_lo hp).1)
def itpC (p : Int) (xs ys : List Int) : Int := if primeB p && decide (xs.length ≤ 25) && decide (ys.length = xs.length) && areB p xs && areB p ys && difB xs then 0 else 2
def itpV (p : Int) (xs ys : List Int) : List Int := if itpC p xs ys = 0 then (itpF p xs ys xs.length).1 else []
set_option maxRecDepth 100000 in
set_option maxHeartbeats 1600000 in
theorem interpolate_any (p : Int) (a1 : Option Addr) (n c1 : Nat) (xs : List Int) (a2 : Option Addr) (c2 : Nat) (ys : List Int) (w : World) (h1 : SL w a1 n c1 xs) (h2 : SL w a2 n c2 ys) (hn : n ≤ 25) (hpr : primeB p = true) (hx : areB p xs = true) (hy : areB p ys = true) :
    Calls Try.prog 189 #[.int .i64 p, .slice a1 n c1, .slice a2 n c2] w fun e w' => ∃ a' c', e = .returned (.slice a' (itpF p xs ys n).1.length c') ∧ Own w.heap.size w' a' c' (itpF p xs ys n).1 ∧ Below w.heap.size w w' := by
  obtain ⟨hp, hp2⟩ := primeB_lo hpr
  have Hp := hide hpr
  have Hx := hide hx
  have Hy := hide hy
  clear hpr hx hy
  have hb0 := bl2 w (.cells #[] 2) (.cells #[.int .i64 1] 2)
  have hF0 : Hid (Own w.heap.size ((w.alloc (.cells #[] 2)).alloc (.cells #[.int .i64 1] 2)) (some ⟨w.heap.size, 0, none⟩) 0 (itpF p xs ys 0).1) := hide (by
    have h : Own w.heap.size (w.alloc (.cells #[] 2)) (some ⟨w.heap.size, 0, none⟩) 0 [] := World.ownsRow_lit w (base := w.heap.size) (e := 2) (size := 1) #[] 0 (Nat.le_refl _) (by decide) rfl
    exact h.below (bl1 _ _))
  have hQ0 : Hid (Own w.heap.size ((w.alloc (.cells #[] 2)).alloc (.cells #[.int .i64 1] 2)) (some ⟨w.heap.size + 1, 0, none⟩) 1 (itpF p xs ys 0).2) := hide (by
    have h : Own (w.alloc (.cells #[] 2)).heap.size ((w.alloc (.cells #[] 2)).alloc (.cells #[.int .i64 1] 2)) (some ⟨(w.alloc (.cells #[] 2)).heap.size, 0, none⟩) 1 [1] := World.ownsRow_lit _ (base := (w.alloc (.cells #[] 2)).heap.size) (e := 2) (size := 1) #[.int .i64 1] 1 (Nat.le_refl _) (by decide) rfl
    simp only [World.size_alloc] at h
    exact h.mono (by omega))
  by_cases h0 : n = 0
  · subst h0
    go_enter Try.func189, Try.ntmps189
    go_wp2
    refine wp_loop_rounds 1 ?_
    rw [rounds_succ]
    go_wp2
    refine bodyPost_ret (v := .slice (some ⟨w.heap.size, 0, none⟩) 0 0) (by simp [results, Try.results189]) rfl ?_
    exact ⟨_, _, rfl, hF0.out, hb0⟩
  obtain ⟨b1, o1, rfl, hw1, hc1⟩ := h1.at (by omega)
  obtain ⟨b2, o2, rfl, hw2, hc2⟩ := h2.at (by omega)
  have H1 := hide hc1
  have H2 := hide hc2
  clear h1 h2 hc1 hc2
  go_enter Try.func189, Try.ntmps189
  go_wp2
  go_loopw [7, 8, 17] (fun fv qv iv wr => ∃ (i : Nat) (a c a' c' : _) , i ≤ n ∧ iv = .int .i64 i ∧ fv = .slice a (itpF p xs ys i).1.length c ∧ qv = .slice a' (itpF p xs ys i).2.length c' ∧ Hid (Own w.heap.size wr a c (itpF p xs ys i).1) ∧ Hid (Own w.heap.size wr a' c' (itpF p xs ys i).2) ∧ Below w.heap.size w wr) (fun _ _ iv _ => n - (intOf iv).toNat)
  case atStart => exact ⟨0, _, _, _, _, by omega, rfl, rfl, rfl, hF0, hQ0, hb0⟩
  case round =>
    obtain ⟨i, a, c, a', c', hi, rfl, rfl, rfl, hF, hQ, hb⟩ := hrel
    clear hF0 hQ0 hb0
    by_cases hlt : i < n
    · have e1 := cell_be hb (H1.out i hlt)
      have e2 := cell_be hb (H2.out i hlt)
      have r1 := getD_rng Hx.out hp i
      have r2 := getD_rng Hy.out hp i
      have tf := hide (itp_f Hp.out xs ys i (by omega))
      have tq := hide (itp_q Hp.out xs ys i)
      have hstF : Hid ((itpF p xs ys (i + 1)).1 = addM p (itpF p xs ys i).1 (itpF p xs ys i).2 ((ys.getD i 0 - evM p (itpF p xs ys i).1 (xs.getD i 0)) % p * invM p (evM p (itpF p xs ys i).2 (xs.getD i 0)) % p)) := hide rfl
      have hstQ : Hid ((itpF p xs ys (i + 1)).2 = mulM p (itpF p xs ys i).2 (linM p (xs.getD i 0))) := hide rfl
      obtain ⟨f, hf⟩ : ∃ f, (itpF p xs ys i).1 = f := ⟨_, rfl⟩
      obtain ⟨q, hq⟩ : ∃ q, (itpF p xs ys i).2 = q := ⟨_, rfl⟩
      obtain ⟨x, hx⟩ : ∃ x, xs.getD i 0 = x := ⟨_, rfl⟩
      obtain ⟨y, hy⟩ : ∃ y, ys.getD i 0 = y := ⟨_, rfl⟩
      rw [hf] at tf hF hstF ⊢
      rw [hq] at tq hQ hstF hstQ ⊢
      rw [hx] at e1 r1 hstF hstQ
      rw [hy] at e2 r2 hstF
      clear hf hq hx hy
      have lf := tf.out.2
      have lq := tq.out.2.1
      have rE := evM_rng hp f x
      have rE2 := evM_rng hp q x
      have rI := invM_rng (p := p) (evM p q x) hp
      have hsub : Hid ((y + p - evM p f x) % p = (y - evM p f x) % p) := hide (by rw [show y + p - evM p f x = y - evM p f x + p by omega, Int.add_emod_right])
      have rM := modb (x := y - evM p f x) hp
      obtain ⟨E, hE⟩ : ∃ E, evM p f x = E := ⟨_, rfl⟩
      obtain ⟨E2, hE2⟩ : ∃ E2, evM p q x = E2 := ⟨_, rfl⟩
      obtain ⟨I, hI⟩ : ∃ I, invM p E2 = I := ⟨_, rfl⟩
      obtain ⟨M, hM⟩ : ∃ M, (y - E) % p = M := ⟨_, rfl⟩
      have HE := hide hE
      have HE2 := hide hE2
      have HI := hide hI
      rw [hE] at rE hsub hstF rM
      rw [hE2] at rE2 hstF rI
      rw [hI] at rI hstF
      rw [hM] at hstF rM hsub
      clear hE hE2 hI hM
      obtain ⟨m1, m2⟩ := mulb rM.1 rM.2 rI.1 rI.2 hp2
      have rK := modb (x := M * I) hp
      have v1 : IntKind.i64.wrap (y + p) = y + p := IntWalk.i64_in _ (by omega)
      have v2 : IntKind.i64.wrap (y + p - E) = y + p - E := IntWalk.i64_in _ (by omega)
      have v3 : (y + p - E).tmod p = M := by rw [Int.tmod_eq_emod_of_nonneg (by omega)]; exact hsub.out
      have v4 : IntKind.i64.wrap M = M := IntWalk.i64_in _ (by omega)
      have v5 : IntKind.i64.wrap (M * I) = M * I := IntWalk.i64_in _ (by omega)
      have v6 : (M * I).tmod p = M * I % p := Int.tmod_eq_emod_of_nonneg (by omega)
      obtain ⟨K, hK⟩ : ∃ K, M * I % p = K := ⟨_, rfl⟩
      rw [hK] at v6 rK hstF
      have v7 : IntKind.i64.wrap K = K := IntWalk.i64_in _ (by omega)
      clear hK
      have hp0 : ¬ p = 0 := by omega
      have hlt' : (i : Int) < (n : Int) := by omega
      have hi0 : (0 : Int) ≤ (i : Int) := by omega
      have hbd := (Below.refl wr.heap.size wr).drew
      have sF := Own.sl hF.out
      have sQ := Own.sl hQ.out
      go_upto_region 5 with fail
      go_region_held3 (fun w' => w'.cell? ⟨b2, o2 + i, none⟩ = some (.int .i64 y))
        (first | exact cell_be hbd e2 | exact cell_be (by assumption) e2)
        (first | (go_at_call 105; go_fit (evaluateAt_any p x _ _ _ f _ (sF.below hbd) (by omega) hp hp2 r1.1 r1.2 tf.out.1); rintro e w1 ⟨rfl, hb1⟩; rw [HE.out]; have hm1 := bnext hbd hb1))
      have hb3 := hb.trans (hm1.mono hb.size)
      clear e1 e2 hbd
      have sF1 := sF.below hm1
      have sQ1 := sQ.below hm1
      go_wp2_with fail
      refine (evaluateAt_any p x _ _ _ q _ sQ1 (by omega) hp hp2 r1.1 r1.2 tq.out.1).mono ?_
      rintro e w2 ⟨rfl, hb2⟩
      rw [HE2.out]
      go_wp2_with fail
      refine (inverse_any p E2 _ hp hp2 rE2.1 rE2.2).mono ?_
      rintro e w3 ⟨rfl, hb4⟩
      rw [HI.out]
      have hc3 := bnext hb2 hb4
      go_wp2_with fail
      refine (addMultiple_any p K _ _ _ f _ _ _ q _ (sF1.below hc3) (sQ1.below hc3) (by omega) (by omega) hp hp2 rK.1 rK.2 tf.out.1 tq.out.1).mono ?_
      rintro e w4 ⟨aF, cF, rfl, oF, hb5⟩
      have hc4 := bnext hc3 hb5
      go_wp2_with fail
      refine (linear_any p x _ hp hp2 r1.1 r1.2).mono ?_
      rintro e w5 ⟨rfl, oL, hb6⟩
      have hc5 := bnext hc4 hb6
      have sL := Own.sl oL
      go_wp2_with fail
      refine (multiply_any p _ _ _ q _ _ _ (linM p x) _ (sQ1.below hc5) sL (by omega) (show 2 ≤ 1000 by omega) hp hp2 tq.out.1 (polyB_rng (linM_poly hp)).2.1).mono ?_
      rintro e w6 ⟨aQ, cQ, rfl, oQ, hb7⟩
      have hc6 := bnext hc5 hb7
      have hbN := hb3.trans (hc6.mono hb3.size)
      have z1 := hb3.size
      have z3 := hc3.size
      have z5 := hc5.size
      have nF : Hid (Own w.heap.size w6 aF cF (itpF p xs ys (i + 1)).1) := hide (by rw [hstF.out]; exact ((oF.below hb6).below hb7).mono (by omega))
      have nQ : Hid (Own w.heap.size w6 aQ cQ (itpF p xs ys (i + 1)).2) := hide (by rw [hstQ.out]; exact oQ.mono (by omega))
      go_wp2
      go_roundw
      case rel => exact ⟨i + 1, aF, cF, aQ, cQ, by omega, by go_num, by rw [hstF.out], by rw [hstQ.out], nF, nQ, hbN⟩
      case measure => simp [intOf]; omega
    · obtain rfl : i = n := by omega
      have hlt' : ¬ (i : Int) < (i : Int) := by omega
      have lf := hide (itp_f Hp.out xs ys i hn)
      obtain ⟨f, hf⟩ : ∃ f, (itpF p xs ys i).1 = f := ⟨_, rfl⟩
      rw [hf] at hF ⊢
      have HF := hide hf
      clear hf
      go_wp2
      refine bodyPost_ret (v := .slice a f.length c) (by simp [results, Try.results189]) rfl ?_
      rw [HF.out]
      exact ⟨_, _, rfl, hF.out, hb⟩
end Go.Proofs.Ytkpmonopjkjflaa
