/- Contracts: the model's composition; ShiftPoly, ComposePolys (program and model). -/
import Derived.Test.YtjmhkodbkkdfdaaEp
import Derived.Test.YtjmhkodbkkdfdaaCh
namespace Go.Proofs.Ytjmhkodbkkdfdaa
open Go.RowKit
set_option linter.unusedVariables false
set_option linter.unusedSimpArgs false
theorem litOwn (w : World) (B : Nat) (hB : B ≤ w.heap.size) (y : Int) : Own B (w.alloc (.cells #[.int .i64 y] 2)) (some ⟨w.heap.size, 0, none⟩) 1 [y] := by
  have := World.ownsRow_lit w (base := B) (e := 2) (size := 1) #[.int .i64 y] 1 hB (by decide) rfl
  exact this
theorem litSL (w : World) (y : Int) : SL (w.alloc (.cells #[.int .i64 y] 2)) (some ⟨w.heap.size, 0, none⟩) 1 1 [y] := (litOwn w _ (Nat.le_refl _) y).sl
theorem litSL2 (w : World) (y z : Int) : SL (w.alloc (.cells #[.int .i64 y, .int .i64 z] 2)) (some ⟨w.heap.size, 0, none⟩) 2 2 [y, z] := by
  have := World.ownsRow_lit w (base := w.heap.size) (e := 2) (size := 1) #[.int .i64 y, .int .i64 z] 2 (Nat.le_refl _) (by decide) rfl
  exact Own.sl this
theorem l01TimesP (p : Int) (a1 : Option Addr) (n1 c1 : Nat) (f : List Int) (a2 : Option Addr) (n2 c2 : Nat) (g : List Int) (w : World) (h1 : SL w a1 n1 c1 f) (h2 : SL w a2 n2 c2 g)
    (b1 : n1 ≤ 1000) (b2 : n2 ≤ 1000) (hp : 2 ≤ p) (hp2 : p ≤ 10007) (hf : areB p f = true) (hg : areB p g = true) (ht : trimL (mulM p f g) = mulM p f g) :
    Calls Try.prog 84 #[.int .i64 p, .slice a1 n1 c1, .slice a2 n2 c2] w fun e w' => ∃ a' c', e = .returned (.slice a' (mulM p f g).length c') ∧ Own w.heap.size w' a' c' (mulM p f g) ∧ Below w.heap.size w w' := by
  have := l01Times_any p a1 n1 c1 f a2 n2 c2 g w h1 h2 b1 b2 hp hp2 hf hg
  rwa [ht] at this
set_option maxRecDepth 100000 in
set_option maxHeartbeats 3200000 in
theorem l01Compose_any (p : Int) (a1 : Option Addr) (n1 c1 : Nat) (f : List Int) (a2 : Option Addr) (n2 c2 : Nat) (g : List Int) (w : World) (h1 : SL w a1 n1 c1 f) (h2 : SL w a2 n2 c2 g)
    (hpr : primeB p = true) (hf : polyB p f = true) (hg : polyB p g = true) (hd : (f.length - 1) * (g.length - 1) ≤ 24) :
    Calls Try.prog 78 #[.int .i64 p, .slice a1 n1 c1, .slice a2 n2 c2] w
      fun e w' => ∃ a' c', e = .returned (.slice a' (comM p f g).length c') ∧ Own w.heap.size w' a' c' (comM p f g) ∧ Below w.heap.size w w' := by
  have hl1 := hide h1.len
  have hl2 := hide h2.len
  have Hf := hide (poly_are hf)
  have Hg := hide (poly_are hg)
  have d1 : n1 ≤ 25 := by have := poly_len hf; have := hl1.out; omega
  have d2 : n2 ≤ 25 := by have := poly_len hg; have := hl2.out; omega
  have HP := hide (horP_poly hpr hf hg hd)
  have HT := hide (fun v (h : polyB p v = true) => mulM_trim hpr h hg)
  obtain ⟨hp, hp2⟩ := primeB_lo hpr
  clear hf hg hpr hd
  have hO0 : Hid (Own w.heap.size (w.alloc (.cells #[] 2)) (some ⟨w.heap.size, 0, none⟩) 0 (horP p f g 0)) := hide (by
    have := World.ownsRow_lit w (base := w.heap.size) (e := 2) (size := 1) #[] 0 (Nat.le_refl _) (by simp) rfl
    exact this)
  have hB1 := bl1 w (.cells #[] 2)
  go_enter Try.func78, Try.ntmps78
  go_wp2
  go_loopw [7, 8] (fun v i wr => ∃ (k : Nat) (a' : Option Addr) (c' : Nat), k ≤ n1 ∧ i = .int .i64 ((n1 : Int) - 1 - (k : Int)) ∧ v = .slice a' (horP p f g k).length c' ∧ Hid (Own w.heap.size wr a' c' (horP p f g k)) ∧ Below w.heap.size w wr) (fun _ i _ => (intOf i + 1).toNat)
  case atStart => exact ⟨0, some ⟨w.heap.size, 0, none⟩, 0, by omega, by simp, rfl, hO0, hB1⟩
  case round =>
    obtain ⟨k, a', c', hk, rfl, rfl, hO, hBr⟩ := hrel
    clear hO0 hB1
    by_cases hlt : k < n1
    · have hr := getD_rng Hf.out hp (n1 - 1 - k)
      have hh : Hid (horP p f g (k + 1) = addM p (mulM p (horP p f g k) g) (trimL [f.getD (n1 - 1 - k) 0]) 1) := hide (by rw [horP, hl1.out])
      obtain ⟨b, off, ha, hbw, hcell⟩ := (h1.below hBr).at (by omega)
      subst ha
      have e1 := hcell (n1 - 1 - k) (by omega)
      obtain ⟨y, hy⟩ : ∃ y, f.getD (n1 - 1 - k) 0 = y := ⟨_, rfl⟩
      have hvp := (HP.out k (by rw [hl1.out]; exact hk)).1
      have hv1 := poly_len hvp
      have Hv := hide (poly_are hvp)
      have Ht := hide (HT.out _ hvp)
      obtain ⟨v, hvv⟩ : ∃ v, horP p f g k = v := ⟨_, rfl⟩
      rw [hy] at hr hh e1
      rw [hvv] at hh hv1 Hv hO Ht ⊢
      have hge : (0 : Int) ≤ (n1 : Int) - 1 - (k : Int) := by omega
      have hkt : ((n1 : Int) - 1 - (k : Int)).toNat = n1 - 1 - k := by omega
      have hi1 : (n1 : Int) - 1 - (k : Int) < (n1 : Int) := by omega
      have hi2 : ¬ (n1 : Int) - 1 - (k : Int) < 0 := by omega
      have hi3 : n1 - 1 - k < n1 := by omega
      obtain ⟨r1, r2⟩ := hr
      have hm1 : (mulM p v g).length ≤ 1000 := by
        have := hl2.out
        rcases mulM_up (p := p) (f := v) (g := g) with h | ⟨_, _, h⟩ <;> omega
      have hsl := hO.out.sl
      have Hone := hide (one_are r1 r2)
      have hb00 : Below wr.heap.size wr wr.drew := (Below.refl _ _).drew
      have hb01 : Below wr.heap.size wr (wr.drew.alloc (.cells #[.int .i64 y] 2)) := hb00.alloc hb00.size _
      have F0 : ∀ w', Below wr.heap.size wr w' → w'.cell? ⟨b, off + (n1 - 1 - k), none⟩ = some (.int .i64 y) := fun w' hb => (hb.cell (World.block_lt_of_cell? wr _ e1)).trans e1
      clear hy hvv hvp hcell
      go_upto_block 1 with fail
      go_cut [7] (fun s7 wx => ∃ a' c', s7 = .slice a' (horP p f g (k + 1)).length c' ∧ Hid (Own w.heap.size wx a' c' (horP p f g (k + 1))) ∧ Below w.heap.size w wx)
      case first =>
        go_wp2
        go_region_held3 (fun w' => w'.cell? ⟨b, off + (n1 - 1 - k), none⟩ = some (.int .i64 y))
          (first | exact F0 _ (by assumption) | exact F0 _ (Below.alloc (by assumption) (Below.size (by assumption)) _))
          (first
          | (go_at_call 84; refine (l01TimesP p _ _ _ v _ _ _ g _ (hsl.below hb00) ((h2.below hBr).below hb00) (by omega) (by omega) hp hp2 Hv.out Hg.out Ht.out).mono ?_; rintro e wn ⟨am, cm, rfl, hom, hbn⟩; have hbn2 := bnext hb00 hbn)
          | (go_at_call 84; refine (l01TimesP p _ _ _ v _ _ _ g _ (hsl.below hb01) ((h2.below hBr).below hb01) (by omega) (by omega) hp hp2 Hv.out Hg.out Ht.out).mono ?_; rintro e wn ⟨am, cm, rfl, hom, hbn⟩; have hbn2 := bnext hb01 hbn)
          | (go_at_call_of 133 (Value.slice (some ⟨wn.heap.size, 0, none⟩) 1 1); refine (l01Trim_any _ _ _ _ [y] _ (litSL wn y) (by omega)).mono ?_; rintro e wq ⟨ao, co, rfl, hoo, hbq⟩; have hbq2 := bnext (hbn2.alloc hbn2.size (.cells #[.int .i64 y] 2)) hbq; replace hom := hom.below (w' := wq) ((bl1 wn _).trans (hbq.mono (by simp))))
          | (go_at_call 133; refine (l01Trim_any _ _ _ _ [y] _ ((litSL wr.drew y).below hbn) (by omega)).mono ?_; rintro e wq ⟨ao, co, rfl, hoo, hbq⟩; have hbq2 := bnext hbn2 hbq; replace hom := hom.below hbq)
          | (go_at_call 112; refine (l01Add_any p 1 _ _ _ (mulM p v g) _ _ _ (trimL [y]) _ hom.sl hoo.sl hm1 (by have := one_up y; omega) hp hp2 (by omega) (by omega) (mulM_are hp) Hone.out).mono ?_; rintro e wz ⟨az, cz, rfl, hoz, hbz⟩; have hbs := hbq2.size; have hbz2 := bnext (a := wr) (by assumption) hbz))
        all_goals
          go_wp2
          go_meet
          have q := hBr.size
          refine ⟨_, _, by rw [hh.out], hide ?_, hBr.trans (hbz2.mono q)⟩
          rw [hh.out]
          exact hoz.mono (by omega)
      case rest =>
        obtain ⟨am, cm, rfl, hO', hB'⟩ := hcut
        clear F0 hb00 hsl hO e1
        go_wp2
        go_roundw
        case rel => exact ⟨k + 1, am, cm, by omega, by go_num, rfl, hO', hB'⟩
        case measure => simp [intOf]; omega
    · obtain rfl : k = n1 := by omega
      have he : Hid (comM p f g = horP p f g k) := hide (by unfold comM; rw [hl1.out])
      have hsz : (k : Int) - 1 - (k : Int) = -1 := by omega
      rw [hsz]
      clear hsz
      go_wp2
      go_ret
      exact ⟨_, _, by rw [he.out]; rfl, by rw [he.out]; exact hO.out, hBr⟩
end Go.Proofs.Ytjmhkodbkkdfdaa
