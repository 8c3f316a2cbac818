/- Contracts: opposite, linear (program); l03Step, l03Poly, l03Second (model). -/
import Derived.Test.YtgaafhcnfeipbaaRm
import Derived.Test.YtgaafhcnfeipbaaJc
namespace Go.Proofs.Ytgaafhcnfeipbaa
open Go.RowKit
set_option linter.unusedVariables false
set_option linter.unusedSimpArgs false

theorem opposite_any (p x : Int) (w : World) (hp : 2 ≤ p) (hp2 : p ≤ 10007) (h0 : 0 ≤ x) (h1 : x < p) :
    Calls Try.prog 115 #[.int .i64 p, .int .i64 x] w fun e w' => e = .returned (.int .i64 (opp p x)) ∧ w = w' := by
  have v1 : IntKind.i64.wrap (p - x) = p - x := IntWalk.i64_in _ (by omega)
  have v2 : (p - x).tmod p = opp p x := Int.tmod_eq_emod_of_nonneg (by omega)
  have r := opp_rng (x := x) (show 2 ≤ p by omega)
  generalize opp p x = y at v2 r ⊢
  have v3 : IntKind.i64.wrap y = y := IntWalk.i64_in _ (by omega)
  have hp0 : ¬ p = 0 := by omega
  go_enter Try.func115, Try.ntmps115
  go_wp2
  go_ret
  exact ⟨rfl, rfl⟩
theorem linear_any (p x : Int) (w : World) (hp : 2 ≤ p) (hp2 : p ≤ 10007) (h0 : 0 ≤ x) (h1 : x < p) :
    Calls Try.prog 104 #[.int .i64 p, .int .i64 x] w fun e w' => e = .returned (.slice (some ⟨w.heap.size, 0, none⟩) 2 2) ∧ Own w.heap.size w' (some ⟨w.heap.size, 0, none⟩) 2 (linM p x) ∧ Below w.heap.size w w' := by
  obtain ⟨y, hy⟩ : ∃ y, opp p x = y := ⟨_, rfl⟩
  unfold linM
  rw [hy]
  have Hy := Lib.hid hy
  clear hy
  go_enter Try.func104, Try.ntmps104
  go_wp2_with fail
  refine (opposite_any p x _ hp hp2 h0 h1).mono ?_
  rintro e w1 ⟨rfl, rfl⟩
  rw [Hy.out]
  go_wp2
  go_ret
  exact ⟨rfl, World.ownsRow_lit w (base := w.heap.size) (e := 2) (size := 1) #[.int .i64 y, .int .i64 1] 2 (Nat.le_refl _) (by decide) rfl, bl1 _ _⟩
set_option maxRecDepth 100000 in
set_option maxHeartbeats 1600000 in
theorem l03Step_any (p : Int) (a1 : Option Addr) (n1 c1 : Nat) (f : List Int) (a2 : Option Addr) (n2 c2 : Nat) (g : List Int) (a b : Int) (m : Nat) (w : World) (h1 : SL w a1 n1 c1 f) (h2 : SL w a2 n2 c2 g)
    (hpr : primeB p = true) (ha0 : 0 ≤ a) (ha1 : a < p) (hb0 : 0 ≤ b) (hb1 : b < p) (hf : Small p m f) (hg : Small p m g) (hm : m ≤ 24) :
    Calls Try.prog 102 #[.int .i64 p, .slice a1 n1 c1, .slice a2 n2 c2, .int .i64 a, .int .i64 b] w fun e w' => ∃ a' c', e = .returned (.slice a' (stp p a b f g).length c') ∧ Own w.heap.size w' a' c' (stp p a b f g) ∧ Below w.heap.size w w' := by
  obtain ⟨hp, hp2⟩ := primeB_lo hpr
  have d1 := h1.len
  have d2 := h2.len
  have e1 := hf.2
  have e2 := hg.2
  have ht := Lib.hid (stp_trim hpr a hf)
  have HF := hide hf.are
  have HG := hide hg.are
  have HL := hide (linM_poly (a := a) hp)
  have hll := lin_len p a f
  have oa := Lib.hid (opp_neg p a)
  have ob := Lib.hid (opp_neg p b)
  have rb := opp_rng (x := b) hp
  have v1 : IntKind.i64.wrap (-a) = -a := IntWalk.i64_in _ (by omega)
  have v2 : IntKind.i64.wrap (-b) = -b := IntWalk.i64_in _ (by omega)
  clear hf hg
  go_enter Try.func102, Try.ntmps102
  go_wp2_with fail
  refine (l01Mod_any p (-a) _ hp hp2 (by omega) (by omega)).mono ?_
  rintro e w1 ⟨rfl, rfl⟩
  rw [oa.out]
  have k1 := litSL2 w (opp p a) 1
  have k2 := h1.below (bl1 w (.cells #[.int .i64 (opp p a), .int .i64 1] 2))
  have k3 := h2.below (bl1 w (.cells #[.int .i64 (opp p a), .int .i64 1] 2))
  have hb0' := bl1 w (.cells #[.int .i64 (opp p a), .int .i64 1] 2)
  go_wp2_with fail
  refine (l01Times_any p _ _ _ [opp p a, 1] _ _ _ f _ k1 k2 (by omega) (by omega) hp hp2 (polyB_rng HL.out).2.1 HF.out).mono ?_
  rintro e w2 ⟨a', c', rfl, ho, hb2⟩
  rw [show ([opp p a, 1] : List Int) = linM p a from rfl, ht.out] at ho ⊢
  have k4 := k3.below hb2
  have k5 := ho.sl
  have hB2 := bnext hb0' hb2
  go_wp2_with fail
  refine (l01Mod_any p (-b) _ hp hp2 (by omega) (by omega)).mono ?_
  rintro e w1 ⟨rfl, rfl⟩
  rw [ob.out]
  go_wp2_with fail
  refine (l01Add_any p (opp p b) _ _ _ (mulM p (linM p a) f) _ _ _ g _ k5 k4 (by omega) (by omega) hp hp2 rb.1 rb.2 (mulM_are hp) HG.out).mono ?_
  rintro e w3 ⟨a2', c2', rfl, ho2, hb3⟩
  have hz := hB2.size
  go_wp2
  go_ret
  exact ⟨a2', c2', rfl, ho2.mono hz, bnext hB2 hb3⟩
set_option maxRecDepth 100000 in
set_option maxHeartbeats 1600000 in
theorem l03Poly_any (p : Int) (a : Option Addr) (n c : Nat) (xs : List Int) (b : Option Addr) (m d : Nat) (ys : List Int) (K : Nat) (w : World) (hs : SL w a n c xs) (ht : SL w b m d ys) (hj : jacB p xs ys = true) (hK : K ≤ n) :
    Calls Try.prog 72 #[jac p a n c b m d, .int .i64 K] w fun e w' => ∃ a' c', e = .returned (.slice a' (polJ p xs ys K).length c') ∧ Own w.heap.size w' a' c' (polJ p xs ys K) ∧ Below w.heap.size w w' := by
  obtain ⟨hpr, n1, n2, n3, hx, hy⟩ := jacB_rng hj
  obtain ⟨hp, hp2⟩ := primeB_lo hpr
  have hl := hide hs.len
  have hl2 := hide ht.len
  rw [hl.out] at n1 n2 n3
  rw [hl2.out] at n3
  subst n3
  have Hpr := hide hpr
  have Hx := hide hx
  have Hy := hide (posB_are hy)
  have Sm := fun i (hi : i ≤ 24) => Lib.hid (rcP_small hp xs ys 0 1 (Small.nil p 1) (Small.one hp (Nat.le_refl _)) i (by omega))
  obtain ⟨b1, o1, rfl, hw1, hc1⟩ := hs.at (by omega)
  obtain ⟨b2, o2, rfl, hw2, hc2⟩ := ht.at (by omega)
  have hb0 := bl3 w (.cells #[.int .i64 p, .slice (some ⟨b1, o1, none⟩) m c, .slice (some ⟨b2, o2, none⟩) m d] 24) (.cells #[] 2) (.cells #[.int .i64 1] 2)
  have q2 := litOwn ((w.alloc (.cells #[.int .i64 p, .slice (some ⟨b1, o1, none⟩) m c, .slice (some ⟨b2, o2, none⟩) m d] 24)).alloc (.cells #[] 2)) w.heap.size (by simp; omega) 1
  simp at q2
  clear hs ht hj hx hy hpr
  go_enter Try.func72, Try.ntmps72
  go_wp2
  go_loopw [5, 6, 7] (fun pv nv iv wr => ∃ (k : Nat) (a1 : Option Addr) (c1 : Nat) (a2 : Option Addr) (c2 : Nat) (f g : List Int), k ≤ K ∧ iv = .int .i64 k ∧ pv = .slice a1 f.length c1 ∧ nv = .slice a2 g.length c2 ∧ SL wr a1 f.length c1 f ∧ Own w.heap.size wr a2 c2 g ∧ Hid (rcP p xs ys 0 [] [1] k = (f, g)) ∧
    Below (w.heap.size + 1) (w.alloc (.cells #[.int .i64 p, .slice (some ⟨b1, o1, none⟩) m c, .slice (some ⟨b2, o2, none⟩) m d] 24)) wr ∧ w.heap.size + 1 ≤ wr.heap.size) (fun _ _ iv _ => K - (intOf iv).toNat)
  case atStart => exact ⟨0, _, 0, _, 1, [], [1], by omega, rfl, rfl, rfl, ⟨rfl, ⟨Nat.le_refl _, fun h => by cases h⟩, .inl rfl⟩, q2, rfl, by simpa using bl2 (w.alloc (.cells #[.int .i64 p, .slice (some ⟨b1, o1, none⟩) m c, .slice (some ⟨b2, o2, none⟩) m d] 24)) (.cells #[] 2) (.cells #[.int .i64 1] 2), by simp⟩
  case round =>
    obtain ⟨k, a1, c1, a2, c2, f, g, hk, rfl, rfl, rfl, hf, hg, hR, hbr, hsz⟩ := hrel
    have hB : Below w.heap.size w wr := (bl1 w (.cells #[.int .i64 p, .slice (some ⟨b1, o1, none⟩) m c, .slice (some ⟨b2, o2, none⟩) m d] 24)).trans (hbr.mono (Nat.le_succ _))
    by_cases hlt : k < K
    · have f0 : wr.cell? ⟨w.heap.size, 0, none⟩ = some (.int .i64 p) := (hbr.cell (by simp)).trans (by simp [go_sem])
      have f1 : wr.cell? ⟨w.heap.size, 1, none⟩ = some (.slice (some ⟨b1, o1, none⟩) m c) := (hbr.cell (by simp)).trans (by simp [go_sem])
      have f2 : wr.cell? ⟨w.heap.size, 2, none⟩ = some (.slice (some ⟨b2, o2, none⟩) m d) := (hbr.cell (by simp)).trans (by simp [go_sem])
      have e1 : wr.cell? ⟨b1, o1 + k, none⟩ = some (.int .i64 (xs.getD k 0)) := cell_be hB (hc1 k (by omega))
      have e2 : wr.cell? ⟨b2, o2 + k, none⟩ = some (.int .i64 (ys.getD k 0)) := cell_be hB (hc2 k (by omega))
      have x1 := getD_rng Hx.out hp k
      have x2 := getD_rng Hy.out hp k
      have hn := Lib.hid (rcP_succ p xs ys 0 [] [1] k)
      have sm := Sm k (by omega)
      rw [hR.out] at hn sm
      simp only [Nat.zero_add] at hn sm
      obtain ⟨x, hx⟩ : ∃ x, xs.getD k 0 = x := ⟨_, rfl⟩
      obtain ⟨y, hy⟩ : ∃ y, ys.getD k 0 = y := ⟨_, rfl⟩
      rw [hx] at e1 x1 hn
      rw [hy] at e2 x2 hn
      clear hx hy hc1 hc2 q2 hb0
      have hlt' : (k : Int) < (K : Int) := by omega
      have hlm : (k : Int) < (m : Int) := by omega
      have hbd := (Below.refl wr.heap.size wr).drew
      have F : ∀ w', Below wr.heap.size wr w' → w'.cell? ⟨w.heap.size, 0, none⟩ = some (.int .i64 p) ∧ w'.cell? ⟨w.heap.size, 1, none⟩ = some (.slice (some ⟨b1, o1, none⟩) m c) ∧ w'.cell? ⟨w.heap.size, 2, none⟩ = some (.slice (some ⟨b2, o2, none⟩) m d) ∧ w'.cell? ⟨b1, o1 + k, none⟩ = some (.int .i64 x) ∧ w'.cell? ⟨b2, o2 + k, none⟩ = some (.int .i64 y) := fun w' h => ⟨cell_be h f0, cell_be h f1, cell_be h f2, cell_be h e1, cell_be h e2⟩
      go_wp2
      go_region_held3 (fun w' => w'.cell? ⟨w.heap.size, 0, none⟩ = some (.int .i64 p) ∧ w'.cell? ⟨w.heap.size, 1, none⟩ = some (.slice (some ⟨b1, o1, none⟩) m c) ∧ w'.cell? ⟨w.heap.size, 2, none⟩ = some (.slice (some ⟨b2, o2, none⟩) m d) ∧ w'.cell? ⟨b1, o1 + k, none⟩ = some (.int .i64 x) ∧ w'.cell? ⟨b2, o2 + k, none⟩ = some (.int .i64 y))
        (exact F _ (by assumption))
        (first
        | (go_at_call 102; refine (l03Step_any p _ _ _ g _ _ _ f x y (1 + k) _ (hg.sl.below hbd) (hf.below hbd) Hpr.out x1.1 x1.2 x2.1 x2.2 sm.out.2 sm.out.1 (by omega)).mono ?_; rintro e w3 ⟨a', c', rfl, ho, hb3⟩; have hm3 := bnext hbd hb3))
      go_wp2
      go_roundw
      case rel => exact ⟨k + 1, a2, c2, a', c', g, stp p x y g f, by omega, by go_num, rfl, rfl, hg.sl.below hm3, ho.mono (by simp at hsz ⊢; omega), hn, hbr.trans (hm3.mono (by omega)), by have := hm3.size; omega⟩
      case measure => simp [intOf]; omega
    · have hkK : Hid (k = K) := hide (by omega)
      have hge : (K : Int) ≤ (k : Int) := by omega
      have he : Hid (polJ p xs ys K = g) := hide (by unfold polJ; rw [← hkK.out, hR.out])
      clear q2 hb0 hc1 hc2
      go_wp2
      go_ret
      exact ⟨a2, c2, by rw [he.out]; rfl, by rw [he.out]; exact hg, hB⟩
end Go.Proofs.Ytgaafhcnfeipbaa
