/- Merged texts. -/
import Derived.Test.YtdjifjlgllohmaaDoorYDN33
import Derived.Test.YtdjifjlgllohmaaDoorYDN36
/- Contract: l04Polys of the model: P(0) to P(n), each in a block of its own. -/
namespace Go.Proofs.YtdjifjlgllohmaaDoor
open Go.RowKit
set_option linter.unusedVariables false
set_option linter.unusedSimpArgs false

/-- The last norm that was met before P(t). -/
def lsN (p : Int) (xs : List Int) (t : Nat) : Int := if t = 0 then 1 else opH p xs (t - 1)
theorem lsN_rng {p : Int} (hp : 2 ≤ p) (xs : List Int) (t : Nat) : 0 ≤ lsN p xs t ∧ lsN p xs t < p := by
  unfold lsN
  split
  · omega
  · exact opH_rng hp xs _
theorem lsN_next (p : Int) (xs : List Int) (t : Nat) : lsN p xs (t + 1) = opH p xs t := by simp [lsN]
theorem opB_ls {p : Int} (hp : primeB p = true) {xs : List Int} {t : Nat} (h : Told p xs t) : opB p xs t = opH p xs t * invM p (lsN p xs t) % p := by
  unfold opB nxB lsN
  cases t with
  | zero => rfl
  | succ t => rw [if_neg (by omega), prB_norm hp xs t h]; rfl
theorem own_sq {p : Int} (hp : primeB p = true) (xs : List Int) {k : Nat} (hk : k ≤ 24) : trimL (mulM p (opL p xs k) (opL p xs k)) = mulM p (opL p xs k) (opL p xs k) :=
  mulM_trim hp (opL_small (primeB_lo hp).1 xs k hk).1 (opL_small (primeB_lo hp).1 xs k hk).1
theorem neg_mul_mod (p x y : Int) : (-x * y) % p = opp p (x * y % p) := by
  rw [Int.neg_mul, opp_neg]
  unfold opp
  rw [show p - x * y % p = (p - x * y) + p * (x * y / p) by rw [Int.emod_def]; generalize p * (x * y / p) = z; omega, Int.add_mul_emod_self_left]
set_option maxRecDepth 100000 in
set_option maxHeartbeats 3200000 in
theorem l04Polys_any (p : Int) (a2 : Option Addr) (n2 c2 : Nat) (xs : List Int) (n : Nat) (w : World) (h2 : SL w a2 n2 c2 xs) (hM : momB p xs = true) (hn : 2 * n ≤ n2) (hT : Told p xs n) :
    Calls Tryd.prog 43 #[mom p a2 n2 c2, .int .i64 n] w fun e w' => ∃ (a' : Option Addr) (c' : Nat) (vs : List Value) (RA : Nat → Option Addr) (RC : Nat → Nat),
      e = .returned (.slice a' (n + 1) c') ∧ vs.length = n + 1 ∧ OwnV w.heap.size w' a' c' vs ∧ KeptQ w.heap.size w' a' vs (opL p xs) RA RC (n + 1) ∧ Below w.heap.size w w' := by
  have hb0 := bl1 w (.cells #[.int .i64 p, .slice a2 n2 c2] 30)
  have hl := h2.len
  obtain ⟨hP, m1', m2', hx⟩ := momB_rng hM
  obtain ⟨hp, hp2⟩ := primeB_lo hP
  have hp0 : ¬ p = 0 := by omega
  rw [hl] at m1' m2'
  replace hP := hide hP
  have HX := hide hx
  replace hM := hide hM
  replace hl := hide hl
  replace hT := hide hT
  clear hx
  go_enter Tryd.func43, Tryd.ntmps43
  go_upto_region 1 with fail
  generalize hwx : w.alloc (.cells #[.int .i64 p, .slice a2 n2 c2] 30) = wx at *
  have m0 : wx.cell? ⟨w.heap.size, 0, none⟩ = some (.int .i64 p) := by rw [← hwx]; simp [go_sem]
  have m1 : wx.cell? ⟨w.heap.size, 1, none⟩ = some (.slice a2 n2 c2) := by rw [← hwx]; simp [go_sem]
  clear hwx
  have zw : w.heap.size < wx.heap.size := World.block_lt_of_cell? _ _ m0
  have hm := (Below.refl wx.heap.size wx).drew
  have FF : ∀ w', Below wx.heap.size wx w' → w'.cell? ⟨w.heap.size, 0, none⟩ = some (.int .i64 p) ∧ w'.cell? ⟨w.heap.size, 1, none⟩ = some (.slice a2 n2 c2) := fun w' hb => ⟨cell_be hb m0, cell_be hb m1⟩
  refine region_E (fun w' => w'.cell? ⟨w.heap.size, 0, none⟩ = some (.int .i64 p) ∧ w'.cell? ⟨w.heap.size, 1, none⟩ = some (.slice a2 n2 c2)) 99 (by kernel_rfl) (FF _ hm) ?_
  intro hS
  refine anyE_takeH 2 rfl (by kernel_rfl) (fun _ _ _ h => h) hS (by rfl) (v := ?_) ?_ ?_
  rotate_left
  · intro w' hSw; (try dsimp only at hSw); go_simp; (try with_reducible rfl)
  try simp only [Act.put, List.setIfInBounds_toArray, List.set_cons_zero, List.set_cons_succ]
  refine anyE_takeH 3 rfl (by kernel_rfl) (fun _ _ _ h => h) hS (by rfl) (v := ?_) ?_ ?_
  rotate_left
  · intro w' hSw; (try dsimp only at hSw); go_simp; (try with_reducible rfl)
  try simp only [Act.put, List.setIfInBounds_toArray, List.set_cons_zero, List.set_cons_succ]
  clear hS
  obtain ⟨u0, hu0⟩ : ∃ u, u = wx.drew := ⟨_, rfl⟩
  rw [← hu0] at hm ⊢
  clear hu0
  refine anyE_oneL 0 (by kernel_rfl) rfl (fun K' hK' => ?_)
  go_simp
  have l1 := bl1 u0 (.cells #[.int .i64 1] 2)
  have HO1 := litOwn u0 _ (Nat.le_refl _) 1
  have Hz1 : u0.heap.size + 1 ≤ (u0.alloc (.cells #[.int .i64 1] 2)).heap.size := by simp
  generalize (u0.alloc (.cells #[.int .i64 1] 2)) = u1 at *
  have hz0 := hm.size
  replace hm := bnext hm l1
  refine hK'.out _ _ (FF _ hm) ?_
  clear hK' K'
  try simp only [Act.put, List.setIfInBounds_toArray, List.set_cons_zero, List.set_cons_succ]
  refine anyE_oneL 1 (by kernel_rfl) rfl (fun K' hK' => ?_)
  go_simp
  have l2 := bl1 u1 (.cells #[.slice (some ⟨u0.heap.size, 0, none⟩) 1 1] 22)
  have HV : Hid (OwnV (w.heap.size + 1) (u1.alloc (.cells #[.slice (some ⟨u0.heap.size, 0, none⟩) 1 1] 22)) (some ⟨u1.heap.size, 0, none⟩) 1 [.slice (some ⟨u0.heap.size, 0, none⟩) 1 1]) := hide (World.ownsRow_lit u1 (base := w.heap.size + 1) (e := 22) (size := 1) #[.slice (some ⟨u0.heap.size, 0, none⟩) 1 1] 1 (by omega) (by decide) rfl)
  have Hz2 : u1.heap.size + 1 ≤ (u1.alloc (.cells #[.slice (some ⟨u0.heap.size, 0, none⟩) 1 1] 22)).heap.size := by simp
  generalize (u1.alloc (.cells #[.slice (some ⟨u0.heap.size, 0, none⟩) 1 1] 22)) = u2 at *
  have hm1 := hm
  replace hm := bnext hm l2
  refine hK'.out _ _ (FF _ hm) ?_
  clear hK' K'
  try simp only [Act.put, List.setIfInBounds_toArray, List.set_cons_zero, List.set_cons_succ]
  refine anyE_oneL 4 (by kernel_rfl) rfl (fun K' hK' => ?_)
  go_simp
  refine hK'.out _ _ (FF _ hm) ?_
  clear hK' K'
  try simp only [Act.put, List.setIfInBounds_toArray, List.set_cons_zero, List.set_cons_succ]
  refine anyE_oneL 5 (by kernel_rfl) rfl (fun K' hK' => ?_)
  go_simp
  refine hK'.out _ _ (FF _ hm) ?_
  clear hK' K'
  refine anyE_doneL (by kernel_rfl) ?_
  have HK : Hid (KeptQ w.heap.size u2 (some ⟨u1.heap.size, 0, none⟩) [.slice (some ⟨u0.heap.size, 0, none⟩) 1 1] (opL p xs) (fun _ => some ⟨u0.heap.size, 0, none⟩) (fun _ => 1) 1) := hide (by
    refine ⟨fun j hj => ?_, fun j hj => ?_, fun j hj q hq => ?_, fun x y hxy hy => by omega⟩
    · obtain rfl : j = 0 := by omega
      rfl
    · obtain rfl : j = 0 := by omega
      exact (HO1.mono (by omega)).below l2
    · have hq' : u0.heap.size = q := by simpa [blk] using hq
      intro e
      have e' : u1.heap.size = q := by simpa [blk] using e
      omega)
  have HB := hide (hb0.trans (hm.mono hb0.size))
  obtain ⟨f0, f1⟩ := FF _ hm
  have HF := hide (And.intro f0 f1)
  have Zt : w.heap.size + 1 ≤ u2.heap.size := by have := hm.size; omega
  clear zw f0 f1 hm hm1 hz0 Hz1 Hz2 l1 l2 HO1 FF m0 m1 hb0
  generalize (some (⟨u1.heap.size, 0, none⟩ : Addr)) = ad0 at *
  generalize (some (⟨u0.heap.size, 0, none⟩ : Addr)) = ad1 at *
  go_wp2
  go_loopw [5, 7, 8] (fun sv lv iv wr => ∃ (t : Nat) (a' : Option Addr) (c' : Nat) (vs : List Value) (RA : Nat → Option Addr) (RC : Nat → Nat), t ≤ n ∧ iv = .int .i64 t ∧ lv = .int .i64 (lsN p xs t) ∧ sv = .slice a' (t + 1) c' ∧ Hid (vs.length = t + 1) ∧ Hid (OwnV (w.heap.size + 1) wr a' c' vs) ∧ Hid (KeptQ w.heap.size wr a' vs (opL p xs) RA RC (t + 1)) ∧ Hid (Below w.heap.size w wr) ∧ Hid (wr.cell? ⟨w.heap.size, 0, none⟩ = some (.int .i64 p) ∧ wr.cell? ⟨w.heap.size, 1, none⟩ = some (.slice a2 n2 c2)) ∧ w.heap.size + 1 ≤ wr.heap.size) (fun _ _ iv _ => n - (intOf iv).toNat)
  case atStart => exact ⟨0, _, _, _, _, _, by omega, rfl, rfl, rfl, hide rfl, HV, HK, HB, HF, Zt⟩
  case round =>
    obtain ⟨t, a', c', vs, RA, RC, ht, rfl, rfl, rfl, hvl, hO, hK, hW, hF, hz⟩ := hrel
    clear HV HK HB HF Zt
    by_cases hlt : t < n
    · have hlt' : (t : Int) < (n : Int) := by omega
      have q0 : (0 : Int) ≤ (t : Int) := by omega
      have q1 : (t : Int) < (t : Int) + 1 := by omega
      have t24 : t ≤ 24 := by omega
      obtain ⟨G, rfl, hcG⟩ := hO.out.at (by rw [hvl.out]; omega)
      have ec := hcG t (by rw [hvl.out]; omega)
      rw [hK.out.1 t (by omega)] at ec
      have ep : 1 ≤ t → wr.cell? ⟨G, t - 1, none⟩ = some (.slice (RA (t - 1)) (opL p xs (t - 1)).length (RC (t - 1))) := fun h => by
        rw [hcG (t - 1) (by rw [hvl.out]; omega)]
        exact hK.out.1 (t - 1) (by omega)
      have sO := (hK.out.2.1 t (by omega)).sl
      have sP : 1 ≤ t → SL wr (RA (t - 1)) (opL p xs (t - 1)).length (RC (t - 1)) (opL p xs (t - 1)) := fun h => (hK.out.2.1 (t - 1) (by omega)).sl
      have LO := (opL_len hp xs t t24).1
      have LP : (opL p xs (t - 1)).length ≤ 25 := by rw [(opL_len hp xs (t - 1) (by omega)).1]; omega
      have SO := opL_small hp xs t t24
      have SP := hide (opL_small hp xs (t - 1) (by omega))
      have AO := hide SO.are
      have QO := hide (own_sq hP.out xs t24)
      have h1r := hide (show 0 ≤ nrI p (opL p xs t) xs 1 ∧ nrI p (opL p xs t) xs 1 < p from dotK_rng hp _ _ _ _)
      have h0r := opH_rng hp xs t
      have lr := lsN_rng hp xs t
      have HB := hide (opB_ls hP.out (fun j hj => hT.out j (by omega) : Told p xs t))
      have HA := hide (show opA p xs t = nrI p (opL p xs t) xs 1 * invM p (opH p xs t) % p from rfl)
      have HN := hide (opL_next p xs t)
      have ir := powM_rng (p := p) (x := opH p xs t) (k := p - 2) hp
      have ir2 : 0 ≤ invM p (opH p xs t) ∧ invM p (opH p xs t) < p := ir
      have jr := powM_rng (p := p) (x := lsN p xs t) (k := p - 2) hp
      have jr2 : 0 ≤ invM p (lsN p xs t) ∧ invM p (lsN p xs t) < p := jr
      have lsx := hide (lsN_next p xs t)
      have TR := hide (stp_trim hP.out (opA p xs t) SO)
      have LM : (mulM p (linM p (opA p xs t)) (opL p xs t)).length ≤ 26 := by have := lin_len p (opA p xs t) (opL p xs t); omega
      have CM := hide (mulM_comm hp (opL p xs t) (linM p (opA p xs t)))
      have arng : 0 ≤ opA p xs t ∧ opA p xs t < p := modb hp
      have LAp := hide (linM_poly (a := opA p xs t) hp)
      obtain ⟨H, hH⟩ : ∃ H, H = opH p xs t := ⟨_, rfl⟩
      obtain ⟨H1, hH1⟩ : ∃ H1, H1 = nrI p (opL p xs t) xs 1 := ⟨_, rfl⟩
      obtain ⟨V, hV⟩ : ∃ V, V = invM p H := ⟨_, rfl⟩
      obtain ⟨A, hA⟩ : ∃ A, A = opA p xs t := ⟨_, rfl⟩
      obtain ⟨f, hf⟩ : ∃ f, f = opL p xs t := ⟨_, rfl⟩
      obtain ⟨g, hg⟩ : ∃ g, g = opL p xs (t - 1) := ⟨_, rfl⟩
      obtain ⟨L, hL⟩ : ∃ L, L = lsN p xs t := ⟨_, rfl⟩
      obtain ⟨V2, hV2⟩ : ∃ V2, V2 = invM p L := ⟨_, rfl⟩
      rw [← hH] at h0r HB HA ir2 lsx
      rw [← hV] at HA ir2
      rw [← hf] at ec sO LO QO AO HA HN TR LM CM h1r hH1
      rw [← hH1] at h1r HA
      rw [← hA] at HA HN TR LM CM arng LAp
      rw [← hg] at ep sP LP SP
      rw [← hL] at lr HB jr2
      rw [← hV2] at HB jr2
      clear ir jr SO hcG
      obtain ⟨h1a, h1b⟩ := h1r.out
      obtain ⟨h0a, h0b⟩ := h0r
      obtain ⟨ir3, ir4⟩ := ir2
      obtain ⟨jr3, jr4⟩ := jr2
      obtain ⟨lr3, lr4⟩ := lr
      obtain ⟨ar3, ar4⟩ := arng
      obtain ⟨x1, x2⟩ := mulb h1a h1b ir3 ir4 hp2
      obtain ⟨y1, y2⟩ := mulb h0a h0b jr3 jr4 hp2
      have em : (H1 * V).tmod p = A := by rw [Int.tmod_eq_emod_of_nonneg x1]; exact HA.out.symm
      have v1 : IntKind.i64.wrap (H1 * V) = H1 * V := IntWalk.i64_in _ (by omega)
      have v2 : IntKind.i64.wrap (-A) = -A := IntWalk.i64_in _ (by omega)
      have v3 : IntKind.i64.wrap (-H) = -H := IntWalk.i64_in _ (by omega)
      have w3 : -H * V2 = -(H * V2) := Int.neg_mul _ _
      have v4 : IntKind.i64.wrap (-H * V2) = -H * V2 := IntWalk.i64_in _ (by omega)
      have v5 : IntKind.i64.wrap ((t : Int) + 1) = (t : Int) + 1 := IntWalk.i64_in _ (by omega)
      have oA := hide (opp_neg p A)
      have oB := hide (show (-H * V2) % p = opp p (opB p xs t) by rw [neg_mul_mod, HB.out])
      have orng := opp_rng (p := p) (x := opB p xs t) hp
      have HH0 := hide (show opH p xs t = nrI p (opL p xs t) xs 0 from rfl)
      rw [← hf, ← hH] at HH0
      rw [LO] at ec sO
      replace LO := hide LO
      replace hH := hide hH
      replace hH1 := hide hH1
      replace hV := hide hV
      replace hA := hide hA
      replace hf := hide hf
      replace hg := hide hg
      replace hL := hide hL
      replace hV2 := hide hV2
      replace em := hide em
      have z3 : -100140049 ≤ -H * V2 := by omega
      have z4 : -H * V2 ≤ 0 := by omega
      clear w3 h1r
      have zw := hW.out.size
      obtain ⟨f0, f1⟩ := hF.out
      have s2 := h2.below hW.out
      have hbw := Below.refl wr.heap.size wr
      have emm := em.out
      clear em
      go_wp2_with fail
      refine (l04Norm_any p _ _ _ xs _ _ _ f 0 _ _ s2 sO (by omega) (by omega) (by omega) rfl (by omega) hp hp2 AO.out HX.out QO.out).mono ?_
      rintro e u1 ⟨rfl, t1⟩
      rw [← HH0.out]
      replace f0 := cell_be t1 f0
      replace f1 := cell_be t1 f1
      go_wp2_with fail
      refine (l01Inverse_any p H _ hp hp2 h0a h0b).mono ?_
      rintro e u1' ⟨rfl, rfl⟩
      rw [← hV.out]
      go_wp2_with fail
      refine (l04Norm_any p _ _ _ xs _ _ _ f 1 _ _ (s2.below t1) (sO.below t1) (by omega) (by omega) (by omega) rfl (by omega) hp hp2 AO.out HX.out QO.out).mono ?_
      rintro e u3 ⟨rfl, t2⟩
      rw [← hH1.out]
      have b3 := bnext t1 t2
      replace f0 := cell_be t2 f0
      replace f1 := cell_be t2 f1
      clear t1 t2
      go_wp2_with fail
      refine (l01Mod_any p (-A) _ hp hp2 (by omega) (by omega)).mono ?_
      rintro e u3' ⟨rfl, rfl⟩
      rw [oA.out]
      have l4 := bl1 u3 (.cells #[.int .i64 (opp p A), .int .i64 1] 2)
      have k4 := litSL2 u3 (opp p A) 1
      go_wp2_with fail
      refine (l01Trim_any _ _ _ _ [opp p A, 1] _ k4 (by omega)).mono ?_
      rintro e u5 ⟨a5, c5, rfl, o5, t5⟩
      have b5 := bnext (bnext b3 l4) t5
      rw [show trimL [opp p A, 1] = linM p A from trimL_self (by simp)] at o5 ⊢
      replace f0 := cell_be t5 (cell_be l4 f0)
      replace f1 := cell_be t5 (cell_be l4 f1)
      clear k4 t5 l4 b3
      go_wp2_with fail
      refine (l01Times_any p _ _ _ f _ _ _ (linM p A) _ (sO.below b5) o5.sl (by omega) (by simp [linM]) hp hp2 AO.out (polyB_rng LAp.out).2.1).mono ?_
      rintro e u6 ⟨a6, c6, rfl, o6, t6⟩
      rw [CM.out, TR.out] at o6 ⊢
      have b6 := bnext b5 t6
      have g6 := b5.size
      replace f0 := cell_be t6 f0
      replace f1 := cell_be t6 f1
      have o6' : Own wr.heap.size u6 a6 c6 (mulM p (linM p A) f) := o6.mono g6
      clear o6 o5 t6 g6
      by_cases h0t : t = 0
      · have hgt : ¬ (0 : Int) < (t : Int) := by omega
        replace h0t := hide h0t
        have hba := bl1 u6 (.cells #[.slice a6 (mulM p (linM p A) f).length c6] 22)
        have hcl : (u6.alloc (.cells #[.slice a6 (mulM p (linM p A) f).length c6] 22)).cell? ⟨u6.heap.size, 0, none⟩ = some (.slice a6 (mulM p (linM p A) f).length c6) := by simp [go_sem]
        have HZa := hide (show (u6.alloc (.cells #[.slice a6 (mulM p (linM p A) f).length c6] 22)).heap.size = u6.heap.size + 1 by simp)
        have hOa := hide ((hO.out.below b6).below hba)
        have hblt := hide (OwnV.blkLtQ hO.out)
        have zn := (b6).size
        have nxt : Hid (mulM p (linM p A) f = opL p xs (t + 1)) := hide (by
          rw [HN.out]
          rw [if_pos h0t.out]; exact (addM_nil TR.out).symm)
        go_wp2_with (at_builtin; refine wp_appVQ rfl _ _ rfl (w.heap.size + 1) _ _ _ vs rfl hvl.out.symm hOa.out _ _ _ rfl hcl rfl (by omega) (by have := HZa.out; omega) ?_; intro ad' cap' w' hown' hgr hloc)
        have hvl2 := hide (show (vs ++ [Value.slice a6 (mulM p (linM p A) f).length c6]).length = t + 1 + 1 by rw [List.length_append, hvl.out]; rfl)
        have hW3 := hW.out.trans ((b6).mono zw)
        have hbg := OwnV.blkG hOa.out
        have hW2 : Hid (Below w.heap.size w w') := hide ((hW3.trans (hba.mono hW3.size)).grown hgr (by have := HZa.out; omega) (fun k e => by have := hbg k e; omega))
        have hK2 : Hid (KeptQ w.heap.size w' ad' (vs ++ [Value.slice a6 (mulM p (linM p A) f).length c6]) (opL p xs) (fun j => if j = t + 1 then a6 else RA j) (fun j => if j = t + 1 then c6 else RC j) (t + 1 + 1)) := hide (by
          have k := hK.out.push (X := opL p xs) (a3 := a6) (c3 := c6) (ad' := ad') (w' := w') hvl.out hblt.out zw b6 (by rw [← nxt.out]; exact o6') hba (by have := HZa.out; omega) hgr hloc
          rw [← nxt.out] at k
          exact k)
        have hGw : (some G : Option Nat) ≠ some w.heap.size := fun e => by
          have := hbg G rfl
          simp only [Option.some.injEq] at e
          omega
        have hF2 := hide (And.intro (cell_ne hgr (cell_be hba f0) hGw) (cell_ne hgr (cell_be hba f1) hGw))
        have hzn : w.heap.size + 1 ≤ w'.heap.size := by have := hgr.size; have := HZa.out; omega
        have Hown := hide hown'
        clear hown' hgr hloc hOa hO hK hblt hcl hba f0 f1 hW3 hbg
        go_roundw
        case rel => exact ⟨t + 1, ad', cap', _, _, _, by omega, by go_num, by rw [lsx.out], by rw [hvl.out], hvl2, Hown, hK2, hW2, hF2, hzn⟩
        case measure => simp [intOf]; omega
      · have hgt : (0 : Int) < (t : Int) := by omega
        have q2 : (0 : Int) ≤ (t : Int) - 1 := by omega
        have q5 : (1 : Int) ≤ (t : Int) := by omega
        have q6 : 1 ≤ t := by omega
        have q3 : (t : Int) - 1 < (t : Int) + 1 := by omega
        have q4 : ((t : Int) - 1).toNat = t - 1 := by omega
        have v6 : IntKind.i64.wrap ((t : Int) - 1) = (t : Int) - 1 := IntWalk.i64_in _ (by omega)
        have hm := b6.drew
        have FG : ∀ w', Below wr.heap.size wr w' → w'.cell? ⟨G, t - 1, none⟩ = some (.slice (RA (t - 1)) g.length (RC (t - 1))) := fun w' hb => cell_be hb (ep (by omega))
        have sP' := sP (by omega)
        have AG := hide SP.out.are
        have fd := And.intro f0 f1
        obtain ⟨u7, hu7⟩ : ∃ u, u = u6.drew := ⟨_, rfl⟩
        have o7 : Own wr.heap.size u7 a6 c6 (mulM p (linM p A) f) := by rw [hu7]; exact o6'.below (Below.refl _ _).drew
        have e0 : u7.cell? ⟨w.heap.size, 0, none⟩ = some (.int .i64 p) := by rw [hu7]; exact cell_be (Below.refl _ _).drew f0
        have e1 : u7.cell? ⟨w.heap.size, 1, none⟩ = some (.slice a2 n2 c2) := by rw [hu7]; exact cell_be (Below.refl _ _).drew f1
        go_upto_region 12 with fail
        refine region_E (fun w' => w'.cell? ⟨G, t - 1, none⟩ = some (.slice (RA (t - 1)) g.length (RC (t - 1)))) 99 (by kernel_rfl) (FG _ hm) ?_
        intro hS
        refine anyE_takeH 0 rfl (by kernel_rfl) (fun _ _ _ h => h) hS (by rfl) (v := ?_) ?_ ?_
        rotate_left
        · intro w' hSw; (try dsimp only at hSw); go_simp; (try with_reducible rfl)
        try simp only [Act.put, List.setIfInBounds_toArray, List.set_cons_zero, List.set_cons_succ]
        refine anyE_takeH 1 rfl (by kernel_rfl) (fun _ _ _ h => h) hS (by rfl) (v := ?_) ?_ ?_
        rotate_left
        · intro w' hSw; (try dsimp only at hSw); go_simp; (try with_reducible rfl)
        try simp only [Act.put, List.setIfInBounds_toArray, List.set_cons_zero, List.set_cons_succ]
        refine anyE_takeH 2 rfl (by kernel_rfl) (fun _ _ _ h => h) hS (by rfl) (v := ?_) ?_ ?_
        rotate_left
        · intro w' hSw; (try dsimp only at hSw); go_simp; (try with_reducible rfl)
        try simp only [Act.put, List.setIfInBounds_toArray, List.set_cons_zero, List.set_cons_succ]
        refine anyE_takeH 3 rfl (by kernel_rfl) (fun _ _ _ h => h) hS (by rfl) (v := ?_) ?_ ?_
        rotate_left
        · intro w' hSw; (try dsimp only at hSw); go_simp; (try with_reducible rfl)
        try simp only [Act.put, List.setIfInBounds_toArray, List.set_cons_zero, List.set_cons_succ]
        refine anyE_takeH 4 rfl (by kernel_rfl) (fun _ _ _ h => h) hS (by rfl) (v := ?_) ?_ ?_
        rotate_left
        · intro w' hSw; (try dsimp only at hSw); go_simp; (try with_reducible rfl)
        try simp only [Act.put, List.setIfInBounds_toArray, List.set_cons_zero, List.set_cons_succ]
        refine anyE_takeH 5 rfl (by kernel_rfl) (fun _ _ _ h => h) hS (by rfl) (v := ?_) ?_ ?_
        rotate_left
        · intro w' hSw; (try dsimp only at hSw); go_simp; (try with_reducible rfl)
        try simp only [Act.put, List.setIfInBounds_toArray, List.set_cons_zero, List.set_cons_succ]
        refine anyE_takeH 6 rfl (by kernel_rfl) (fun _ _ _ h => h) hS (by rfl) (v := ?_) ?_ ?_
        rotate_left
        · intro w' hSw; (try dsimp only at hSw); go_simp; (try with_reducible rfl)
        try simp only [Act.put, List.setIfInBounds_toArray, List.set_cons_zero, List.set_cons_succ]
        refine anyE_takeH 7 rfl (by kernel_rfl) (fun _ _ _ h => h) hS (by rfl) (v := ?_) ?_ ?_
        rotate_left
        · intro w' hSw; (try dsimp only at hSw); go_simp; (try with_reducible rfl)
        try simp only [Act.put, List.setIfInBounds_toArray, List.set_cons_zero, List.set_cons_succ]
        refine anyE_takeH 8 rfl (by kernel_rfl) (fun _ _ _ h => h) hS (by rfl) (v := ?_) ?_ ?_
        rotate_left
        · intro w' hSw; (try dsimp only at hSw); go_simp; (try with_reducible rfl)
        try simp only [Act.put, List.setIfInBounds_toArray, List.set_cons_zero, List.set_cons_succ]
        refine anyE_takeH 9 rfl (by kernel_rfl) (fun _ _ _ h => h) hS (by rfl) (v := ?_) ?_ ?_
        rotate_left
        · intro w' hSw; (try dsimp only at hSw); go_simp; (try with_reducible rfl)
        try simp only [Act.put, List.setIfInBounds_toArray, List.set_cons_zero, List.set_cons_succ]
        refine anyE_takeH 10 rfl (by kernel_rfl) (fun _ _ _ h => h) hS (by rfl) (v := ?_) ?_ ?_
        rotate_left
        · intro w' hSw; (try dsimp only at hSw); go_simp; (try with_reducible rfl)
        try simp only [Act.put, List.setIfInBounds_toArray, List.set_cons_zero, List.set_cons_succ]
        refine anyE_takeH 11 rfl (by kernel_rfl) (fun _ _ _ h => h) hS (by rfl) (v := ?_) ?_ ?_
        rotate_left
        · intro w' hSw; (try dsimp only at hSw); go_simp; (try with_reducible rfl)
        try simp only [Act.put, List.setIfInBounds_toArray, List.set_cons_zero, List.set_cons_succ]
        clear hS
        rw [← hu7] at hm ⊢
        clear hu7
        refine anyE_oneL 12 (by kernel_rfl) rfl (fun K' hK' => ?_)
        go_simp
        refine (l01Inverse_any p (lsN p xs t) _ hp hp2 (by rw [← hL.out]; exact lr3) (by rw [← hL.out]; exact lr4)).mono ?_
        rintro e u7' ⟨rfl, rfl⟩
        dsimp only
        rw [← hL.out, ← hV2.out]
        refine hK'.out _ _ (FG _ hm) ?_
        clear hK' K'
        try simp only [Act.put, List.setIfInBounds_toArray, List.set_cons_zero, List.set_cons_succ]
        refine anyE_oneL 13 (by kernel_rfl) rfl (fun K' hK' => ?_)
        go_simp
        refine hK'.out _ _ (FG _ hm) ?_
        clear hK' K'
        try simp only [Act.put, List.setIfInBounds_toArray, List.set_cons_zero, List.set_cons_succ]
        refine anyE_oneL 14 (by kernel_rfl) rfl (fun K' hK' => ?_)
        go_simp
        refine (l01Mod_any p (-H * V2) _ hp hp2 (by omega) (by omega)).mono ?_
        rintro e u7' ⟨rfl, rfl⟩
        dsimp only
        rw [oB.out]
        refine hK'.out _ _ (FG _ hm) ?_
        clear hK' K'
        try simp only [Act.put, List.setIfInBounds_toArray, List.set_cons_zero, List.set_cons_succ]
        refine anyE_oneL 15 (by kernel_rfl) rfl (fun K' hK' => ?_)
        go_simp
        refine (l01Add_any p (opp p (opB p xs t)) _ _ _ (mulM p (linM p A) f) _ _ _ g _ o7.sl (sP'.below hm) (by omega) (by omega) hp hp2 orng.1 orng.2 (mulM_are hp) AG.out).mono ?_
        rintro e u8 ⟨a8, c8, rfl, o8, t8⟩
        dsimp only
        have hm8 := bnext hm t8
        refine hK'.out _ _ (FG _ hm8) ?_
        clear hK' K'
        try simp only [Act.put, List.setIfInBounds_toArray, List.set_cons_zero, List.set_cons_succ]
        refine anyE_oneL 16 (by kernel_rfl) rfl (fun K' hK' => ?_)
        go_simp
        refine hK'.out _ _ (FG _ hm8) ?_
        clear hK' K'
        refine anyE_doneL (by kernel_rfl) ?_
        have g8 := hm.size
        have o8' : Own wr.heap.size u8 a8 c8 (addM p (mulM p (linM p A) f) g (opp p (opB p xs t))) := o8.mono g8
        replace f0 := cell_be t8 e0
        replace f1 := cell_be t8 e1
        obtain ⟨N, hN⟩ : ∃ N, N = addM p (mulM p (linM p A) f) g (opp p (opB p xs t)) := ⟨_, rfl⟩
        rw [← hN] at o8' ⊢
        replace hN := hide hN
        clear o8 o7 hm t8 e0 e1 fd FG g8
        have hba := bl1 u8 (.cells #[.slice a8 (N).length c8] 22)
        have hcl : (u8.alloc (.cells #[.slice a8 (N).length c8] 22)).cell? ⟨u8.heap.size, 0, none⟩ = some (.slice a8 (N).length c8) := by simp [go_sem]
        have HZa := hide (show (u8.alloc (.cells #[.slice a8 (N).length c8] 22)).heap.size = u8.heap.size + 1 by simp)
        have hOa := hide ((hO.out.below hm8).below hba)
        have hblt := hide (OwnV.blkLtQ hO.out)
        have zn := (hm8).size
        have nxt : Hid (N = opL p xs (t + 1)) := hide (by
          rw [HN.out]
          rw [if_neg h0t, hN.out, hg.out]; rfl)
        go_wp2_with (at_builtin; refine wp_appVQ rfl _ _ rfl (w.heap.size + 1) _ _ _ vs rfl hvl.out.symm hOa.out _ _ _ rfl hcl rfl (by omega) (by have := HZa.out; omega) ?_; intro ad' cap' w' hown' hgr hloc)
        have hvl2 := hide (show (vs ++ [Value.slice a8 (N).length c8]).length = t + 1 + 1 by rw [List.length_append, hvl.out]; rfl)
        have hW3 := hW.out.trans ((hm8).mono zw)
        have hbg := OwnV.blkG hOa.out
        have hW2 : Hid (Below w.heap.size w w') := hide ((hW3.trans (hba.mono hW3.size)).grown hgr (by have := HZa.out; omega) (fun k e => by have := hbg k e; omega))
        have hK2 : Hid (KeptQ w.heap.size w' ad' (vs ++ [Value.slice a8 (N).length c8]) (opL p xs) (fun j => if j = t + 1 then a8 else RA j) (fun j => if j = t + 1 then c8 else RC j) (t + 1 + 1)) := hide (by
          have k := hK.out.push (X := opL p xs) (a3 := a8) (c3 := c8) (ad' := ad') (w' := w') hvl.out hblt.out zw hm8 (by rw [← nxt.out]; exact o8') hba (by have := HZa.out; omega) hgr hloc
          rw [← nxt.out] at k
          exact k)
        have hGw : (some G : Option Nat) ≠ some w.heap.size := fun e => by
          have := hbg G rfl
          simp only [Option.some.injEq] at e
          omega
        have hF2 := hide (And.intro (cell_ne hgr (cell_be hba f0) hGw) (cell_ne hgr (cell_be hba f1) hGw))
        have hzn : w.heap.size + 1 ≤ w'.heap.size := by have := hgr.size; have := HZa.out; omega
        have Hown := hide hown'
        clear hown' hgr hloc hOa hO hK hblt hcl hba f0 f1 hW3 hbg
        go_roundw
        case rel => exact ⟨t + 1, ad', cap', _, _, _, by omega, by go_num, by rw [lsx.out], by rw [hvl.out], hvl2, Hown, hK2, hW2, hF2, hzn⟩
        case measure => simp [intOf]; omega
    · have hte : Hid (t = n) := hide (by omega)
      have hge : ¬ (t : Int) < (n : Int) := by omega
      go_wp2
      go_ret
      exact ⟨a', c', by rw [← hte.out]; rfl, vs, by rw [hvl.out, hte.out], hO.out.mono (by omega), ⟨RA, RC, by rw [← hte.out]; exact hK.out⟩, hW.out⟩
end Go.Proofs.YtdjifjlgllohmaaDoor
/- Contracts: OrthogonalPolynomial, NormOf of the model. -/
namespace Go.Proofs.YtdjifjlgllohmaaDoor
open Go.RowKit
set_option linter.unusedVariables false
set_option linter.unusedSimpArgs false

theorem l4_ok {p : Int} {xs : List Int} {k lo : Int} (h : l4C p xs k lo = 0) : momB p xs = true ∧ lo ≤ k ∧ k ≤ 12 ∧ regB p xs k.toNat = true := by
  unfold l4C at h
  by_cases h1 : mcd p xs k lo 12 = 0
  · rw [if_pos h1] at h
    obtain ⟨h2, h3, h4⟩ := mcd_ok h1
    refine ⟨h2, h3, h4, ?_⟩
    cases hr : regB p xs k.toNat
    · rw [hr] at h; cases h
    · rfl
  · rw [if_neg h1] at h; exact absurd h h1
theorem reg_told {p : Int} {xs : List Int} (hm : momB p xs = true) {K : Nat} (h : regB p xs K = true) : 2 * K ≤ xs.length ∧ Told p xs K := by
  obtain ⟨hP, h1, h2, hx⟩ := momB_rng hm
  have t := (reg_TL hP hx h2 K).1 h
  refine ⟨?_, t.told⟩
  unfold regB at h
  simp only [Bool.and_eq_true, decide_eq_true_eq] at h
  exact h.1

set_option maxRecDepth 100000 in
set_option maxHeartbeats 1600000 in
theorem specOrthogonalPolynomial (p : Int) (a2 : Option Addr) (n2 c2 : Nat) (xs : List Int) (k : Int) (w : World) (h2 : SL w a2 n2 c2 xs) (hn : n2 ≤ 4000000) :
    Calls Tryd.prog 21 #[mom p a2 n2 c2, .int .i64 k] w (Res1 w (opoV p xs k) (opoC p xs k)) := by
  have hb0 := bl1 w (.cells #[.int .i64 p, .slice a2 n2 c2] 30)
  have hl := hide h2.len
  replace h2 := h2.below hb0
  go_enter Tryd.func21, Tryd.ntmps21
  go_upto_region 1 with fail
  generalize hwx : w.alloc (.cells #[.int .i64 p, .slice a2 n2 c2] 30) = wx at *
  have m0 : wx.cell? ⟨w.heap.size, 0, none⟩ = some (.int .i64 p) := by rw [← hwx]; simp [go_sem]
  have m1 : wx.cell? ⟨w.heap.size, 1, none⟩ = some (.slice a2 n2 c2) := by rw [← hwx]; simp [go_sem]
  clear hwx
  go_wp2_with fail
  refine (l04Code_any p _ _ _ xs k 0 _ h2 hn (by omega)).mono ?_
  rintro e w1 ⟨rfl, t1⟩
  have hB := hb0.trans (t1.mono hb0.size)
  replace m0 := cell_be t1 m0
  replace m1 := cell_be t1 m1
  replace h2 := h2.below t1
  clear t1 hb0
  have HC := hide (show opoC p xs k = l4C p xs k 0 from rfl)
  by_cases hC : l4C p xs k 0 = 0
  rotate_left
  · have ob : (l4C p xs k 0 != 0) = true := by simpa using hC
    have hV := hide (show opoV p xs k = [] by unfold opoV; rw [HC.out, if_neg hC])
    replace hC := hide hC
    generalize l4C p xs k 0 = C at *
    go_wp2
    refine bodyPost_ret (v := .tuple #[.slice none 0 0, .int .i64 C]) (by simp [results, Tryd.results21, go_sem]) rfl ?_
    exact Res1.nil hV.out HC.out hB
  · obtain ⟨hM, k0, k12, hR⟩ := l4_ok hC
    obtain ⟨K, rfl⟩ : ∃ K : Nat, k = K := ⟨k.toNat, by omega⟩
    rw [Int.toNat_natCast] at hR
    obtain ⟨g2, hT⟩ := reg_told hM hR
    rw [hl.out] at g2
    have hp := (primeB_lo (momB_rng hM).1).1
    have hV := hide (show opoV p xs K = opL p xs K by unfold opoV; rw [HC.out, if_pos hC, Int.toNat_natCast])
    have HC2 := hide (HC.out.trans hC)
    have SK := hide (opL_small hp xs K (by omega)).2
    rw [hC]
    clear hR HC hC
    replace hM := hide hM
    replace hT := hide hT
    go_wp2_with fail
    refine (l04Polys_any p _ _ _ xs K _ h2 hM.out g2 hT.out).mono ?_
    rintro e w2 ⟨a', c', vs, RA, RC, rfl, hvl, hO, hK, t2⟩
    obtain ⟨G, rfl, hcG⟩ := hO.at (by rw [hvl]; omega)
    have ec := hcG K (by rw [hvl]; omega)
    rw [hK.1 K (by omega)] at ec
    have o2 := hide ((hK.2.1 K (by omega)).mono hB.size)
    have q0 : (0 : Int) ≤ (K : Int) := by omega
    have q1 : (K : Int) < (K : Int) + 1 := by omega
    clear hcG hvl hO hK
    go_wp2
    refine bodyPost_ret (v := .tuple #[.slice (RA K) (opL p xs K).length (RC K), .int .i64 0]) (by simp [results, Tryd.results21, go_sem]) rfl ?_
    exact Res1.own HC2.out (by rw [hV.out]) (by rw [hV.out]; exact o2.out) (by rw [hV.out]; have := SK.out; omega) (hB.trans (t2.mono hB.size))
set_option maxRecDepth 100000 in
set_option maxHeartbeats 1600000 in
theorem specNormOf (p : Int) (a2 : Option Addr) (n2 c2 : Nat) (xs : List Int) (k : Int) (w : World) (h2 : SL w a2 n2 c2 xs) (hn : n2 ≤ 4000000) :
    Calls Tryd.prog 26 #[mom p a2 n2 c2, .int .i64 k] w (fun e w' => e = .returned (.tuple #[.int .i64 (nofV p xs k), .int .i64 (nofC p xs k)]) ∧ Below w.heap.size w w') := by
  have hb0 := bl1 w (.cells #[.int .i64 p, .slice a2 n2 c2] 30)
  have hl := hide h2.len
  replace h2 := h2.below hb0
  go_enter Tryd.func26, Tryd.ntmps26
  go_upto_region 1 with fail
  generalize hwx : w.alloc (.cells #[.int .i64 p, .slice a2 n2 c2] 30) = wx at *
  have m0 : wx.cell? ⟨w.heap.size, 0, none⟩ = some (.int .i64 p) := by rw [← hwx]; simp [go_sem]
  have m1 : wx.cell? ⟨w.heap.size, 1, none⟩ = some (.slice a2 n2 c2) := by rw [← hwx]; simp [go_sem]
  clear hwx
  go_wp2_with fail
  refine (l04Code_any p _ _ _ xs k 0 _ h2 hn (by omega)).mono ?_
  rintro e w1 ⟨rfl, t1⟩
  have hB := hb0.trans (t1.mono hb0.size)
  replace m0 := cell_be t1 m0
  replace m1 := cell_be t1 m1
  replace h2 := h2.below t1
  clear t1 hb0
  by_cases hC : l4C p xs k 0 = 0
  rotate_left
  · have ob : (l4C p xs k 0 != 0) = true := by simpa using hC
    have oc : (l4C p xs k 0 == 0) = false := by simpa using hC
    have hC2 := hide (show nofC p xs k = l4C p xs k 0 by
      unfold nofC
      unfold l4C at hC ⊢
      by_cases h1 : mcd p xs k 0 12 = 0
      · rw [if_pos h1] at hC ⊢
        rw [if_pos h1]
        cases hr : regB p xs k.toNat
        · simp [hr]
        · rw [hr] at hC; exact absurd rfl hC
      · rw [if_neg h1, if_neg h1])
    have hV := hide (show nofV p xs k = 0 by unfold nofV; rw [hC2.out, if_neg hC])
    replace hC := hide hC
    generalize l4C p xs k 0 = C at *
    go_wp2
    refine bodyPost_ret (v := .tuple #[.int .i64 0, .int .i64 C]) (by simp [results, Tryd.results26, go_sem]) rfl ?_
    exact ⟨by rw [hV.out, hC2.out], hB⟩
  · obtain ⟨hM, k0, k12, hR⟩ := l4_ok hC
    obtain ⟨K, rfl⟩ : ∃ K : Nat, k = K := ⟨k.toNat, by omega⟩
    rw [Int.toNat_natCast] at hR
    obtain ⟨g2, hT⟩ := reg_told hM hR
    rw [hl.out] at g2
    obtain ⟨hP, m1', m2', hx⟩ := momB_rng hM
    rw [hl.out] at m2'
    obtain ⟨hp, hp2⟩ := primeB_lo hP
    have v1 : IntKind.i64.wrap (2 * (K : Int)) = 2 * (K : Int) := IntWalk.i64_in _ (by omega)
    have v2 : IntKind.i64.wrap (2 * (K : Int) + 1) = 2 * (K : Int) + 1 := IntWalk.i64_in _ (by omega)
    have hc : mcd p xs K 0 12 = 0 := by
      unfold l4C at hC
      by_cases h1 : mcd p xs K 0 12 = 0
      · exact h1
      · rw [if_neg h1] at hC; exact absurd hC h1
    rw [hC]
    by_cases h3 : 2 * K + 1 ≤ n2
    rotate_left
    · have h3' : (n2 : Int) < 2 * (K : Int) + 1 := by omega
      have hC2 := hide (show nofC p xs K = 5 by unfold nofC; rw [if_pos hc, Int.toNat_natCast, hl.out, hR]; simp [h3])
      have hV := hide (show nofV p xs K = 0 by unfold nofV; rw [hC2.out]; rfl)
      clear hC hc hR h3
      replace hM := hide hM
      replace hT := hide hT
      go_wp2
      refine bodyPost_ret (v := .tuple #[.int .i64 0, .int .i64 5]) (by simp [results, Tryd.results26, go_sem]) rfl ?_
      exact ⟨by rw [hV.out, hC2.out], hB⟩
    have h3' : ¬ (n2 : Int) < 2 * (K : Int) + 1 := by omega
    have hC2 := hide (show nofC p xs K = 0 by unfold nofC; rw [if_pos hc, Int.toNat_natCast, hl.out, hR]; simp [h3])
    have hV := hide (show nofV p xs K = nrI p (opL p xs K) xs 0 by unfold nofV; rw [hC2.out, if_pos rfl, Int.toNat_natCast]; rfl)
    have SK := hide (opL_small hp xs K (by omega)).are
    have LK := hide (opL_len hp xs K (by omega)).1
    have QO := hide (own_sq hP xs (show K ≤ 24 by omega))
    clear hC hc hR m1'
    replace hM := hide hM
    replace hT := hide hT
    replace hP := hide hP
    replace hx := hide hx
    have q0 : (0 : Int) ≤ (K : Int) := by omega
    have q1 : (K : Int) < (K : Int) + 1 := by omega
    go_upto_region 6 with fail
    have FF : ∀ w', Below w1.heap.size w1 w' → w'.cell? ⟨w.heap.size, 0, none⟩ = some (.int .i64 p) ∧ w'.cell? ⟨w.heap.size, 1, none⟩ = some (.slice a2 n2 c2) := fun w' hb => ⟨cell_be hb m0, cell_be hb m1⟩
    have hm := (Below.refl w1.heap.size w1).drew
    refine region_E (fun w' => w'.cell? ⟨w.heap.size, 0, none⟩ = some (.int .i64 p) ∧ w'.cell? ⟨w.heap.size, 1, none⟩ = some (.slice a2 n2 c2)) 99 (by kernel_rfl) (FF _ hm) ?_
    intro hS
    refine anyE_takeH 0 rfl (by kernel_rfl) (fun _ _ _ h => h) hS (by rfl) (v := ?_) ?_ ?_
    rotate_left
    · intro w' hSw; (try dsimp only at hSw); go_simp; (try with_reducible rfl)
    try simp only [Act.put, List.setIfInBounds_toArray, List.set_cons_zero, List.set_cons_succ]
    refine anyE_takeH 1 rfl (by kernel_rfl) (fun _ _ _ h => h) hS (by rfl) (v := ?_) ?_ ?_
    rotate_left
    · intro w' hSw; (try dsimp only at hSw); go_simp; (try with_reducible rfl)
    try simp only [Act.put, List.setIfInBounds_toArray, List.set_cons_zero, List.set_cons_succ]
    refine anyE_takeH 2 rfl (by kernel_rfl) (fun _ _ _ h => h) hS (by rfl) (v := ?_) ?_ ?_
    rotate_left
    · intro w' hSw; (try dsimp only at hSw); go_simp; (try with_reducible rfl)
    try simp only [Act.put, List.setIfInBounds_toArray, List.set_cons_zero, List.set_cons_succ]
    refine anyE_takeH 4 rfl (by kernel_rfl) (fun _ _ _ h => h) hS (by rfl) (v := ?_) ?_ ?_
    rotate_left
    · intro w' hSw; (try dsimp only at hSw); go_simp; (try with_reducible rfl)
    try simp only [Act.put, List.setIfInBounds_toArray, List.set_cons_zero, List.set_cons_succ]
    clear hS
    obtain ⟨u0, hu0⟩ : ∃ u, u = w1.drew := ⟨_, rfl⟩
    rw [← hu0] at hm ⊢
    clear hu0
    refine anyE_oneL 3 (by kernel_rfl) rfl (fun K' hK' => ?_)
    go_simp
    refine (l04Polys_any p _ _ _ xs K _ (h2.below hm) hM.out g2 hT.out).mono ?_
    rintro e w2 ⟨a', c', vs, RA, RC, rfl, hvl, hO, hK, t2⟩
    dsimp only
    obtain ⟨G, rfl, hcG⟩ := hO.at (by rw [hvl]; omega)
    have ec := hcG K (by rw [hvl]; omega)
    rw [hK.1 K (by omega), LK.out] at ec
    have o2 := hide (hK.2.1 K (by omega)).sl
    rw [LK.out] at o2
    replace hm := bnext hm t2
    refine hK'.out _ _ (FF _ hm) ?_
    clear hK' K' hcG hvl hO hK t2
    try simp only [Act.put, List.setIfInBounds_toArray, List.set_cons_zero, List.set_cons_succ]
    refine anyE_oneL 5 (by kernel_rfl) rfl (fun K' hK' => ?_)
    go_simp
    refine hK'.out _ _ (FF _ hm) ?_
    clear hK' K'
    try simp only [Act.put, List.setIfInBounds_toArray, List.set_cons_zero, List.set_cons_succ]
    refine anyE_oneL 6 (by kernel_rfl) rfl (fun K' hK' => ?_)
    go_simp
    refine hK'.out _ _ (FF _ hm) ?_
    clear hK' K'
    try simp only [Act.put, List.setIfInBounds_toArray, List.set_cons_zero, List.set_cons_succ]
    refine anyE_oneL 7 (by kernel_rfl) rfl (fun K' hK' => ?_)
    go_simp
    refine (l04Norm_any p _ _ _ xs _ _ _ (opL p xs K) 0 _ _ (h2.below hm) o2.out (by omega) (by omega) (by omega) rfl (by omega) hp hp2 SK.out hx.out QO.out).mono ?_
    rintro e w3 ⟨rfl, t3⟩
    dsimp only
    rw [← hV.out]
    replace hm := bnext hm t3
    refine hK'.out _ _ (FF _ hm) ?_
    clear hK' K'
    try simp only [Act.put, List.setIfInBounds_toArray, List.set_cons_zero, List.set_cons_succ]
    refine anyE_oneL 8 (by kernel_rfl) rfl (fun K' hK' => ?_)
    go_simp
    refine hK'.out _ _ (FF _ hm) ?_
    clear hK' K'
    try simp only [Act.put, List.setIfInBounds_toArray, List.set_cons_zero, List.set_cons_succ]
    refine anyE_oneL 9 (by kernel_rfl) rfl (fun K' hK' => ?_)
    go_simp
    refine hK'.out _ _ (FF _ hm) ?_
    clear hK' K'
    refine anyE_doneL (by kernel_rfl) ?_
    go_wp2
    refine bodyPost_ret (v := .tuple #[.int .i64 (nofV p xs K), .int .i64 0]) (by simp [results, Tryd.results26, go_sem]) rfl ?_
    exact ⟨by rw [hC2.out], hB.trans (hm.mono hB.size)⟩
end Go.Proofs.YtdjifjlgllohmaaDoor
