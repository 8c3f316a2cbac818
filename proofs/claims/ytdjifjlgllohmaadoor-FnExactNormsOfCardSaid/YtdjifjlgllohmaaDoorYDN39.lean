/- Merged texts. -/
import Derived.Test.YtdjifjlgllohmaaDoorYDN37
import Derived.Test.YtdjifjlgllohmaaDoorYDN38
/- Contracts: NormsOf, program and model. -/
namespace Go.Proofs.YtdjifjlgllohmaaDoor
open Go.RowKit
set_option linter.unusedVariables false
set_option linter.unusedSimpArgs false

def nrsC (p : Int) (xs : List Int) : Int := if momB p xs = true then 0 else 1
def nrsV (p : Int) (xs : List Int) : List Int := if momB p xs = true then nmL p xs (ordM p xs) else []
set_option maxRecDepth 100000 in
set_option maxHeartbeats 1600000 in
theorem implNormsOf (p : Int) (a2 : Option Addr) (n2 c2 : Nat) (xs : List Int) (ae : Addr) (w : World) (he : ErrV w ae) (h2 : SL w a2 n2 c2 xs) (hn : n2 ≤ 4000000) :
    Calls Tryd.prog 29 #[mom p a2 n2 c2] w (Res1 w (nrsV p xs) (nrsC p xs)) := by
  have hb0 := bl1 w (.cells #[.int .i64 p, .slice a2 n2 c2] 30)
  have hl2 := hide h2.len
  replace h2 := h2.below hb0
  replace he := he.below hb0
  cases hm : momB p xs
  · have HC := hide (show nrsC p xs = 1 by unfold nrsC; rw [hm]; rfl)
    have HE := hide (show nrsV p xs = [] by unfold nrsV; rw [hm]; rfl)
    have H1 := hide (show ordC p xs = 1 by unfold ordC; simp [hm])
    replace hm := hide hm
    go_enter Tryd.func29, Tryd.ntmps29
    go_wp2_with fail
    refine (implOrderOf p _ _ _ xs _ h2 hn).mono ?_
    rintro e w1 ⟨rfl, hb1⟩
    rw [H1.out]
    have hB1 := bnext hb0 hb1
    clear hb1
    go_wp2
    refine bodyPost_ret (v := .tuple #[.slice none 0 0, .int .i64 1]) (by simp [results, Tryd.results29, go_sem]) rfl ?_
    exact Res1.nil HE.out HC.out (hB1.trans ((bl1 w1 _).mono hB1.size))
  · have HC := hide (show nrsC p xs = 0 by unfold nrsC; rw [hm]; rfl)
    have HE := hide (show nrsV p xs = nmL p xs (ordM p xs) by unfold nrsV; rw [hm]; rfl)
    have H1 := hide (show ordC p xs = 0 by unfold ordC; simp [hm])
    have H2 := hide (show ordV p xs = (ordM p xs : Nat) by simp [ordV, H1.out])
    obtain ⟨hP, q1, q2, hx⟩ := momB_rng hm
    have hmost := ord_most p xs
    rw [hl2.out] at q2 hmost
    have hT : TL p xs (ordM p xs - 1) := by
      intro j hj
      have hlo := (ord_told hP hx (by rw [hl2.out]; exact q2) (by rw [hl2.out]; exact hmost)).1 (Nat.le_refl (ordM p xs))
      exact ⟨by rw [hl2.out]; omega, hlo j (by omega)⟩
    have hlen := hide (nmL_len p xs (ordM p xs))
    obtain ⟨K, hK⟩ : ∃ K, ordM p xs = K := ⟨_, rfl⟩
    rw [hK] at HE H2 hmost hT hlen
    have hK12 : K ≤ 12 := by omega
    clear hK q1 hm
    have hent : EnterF 58 := fun args w => by kernel_rfl
    go_enter Tryd.func29, Tryd.ntmps29
    go_wp2_with fail
    refine (implOrderOf p _ _ _ xs _ h2 hn).mono ?_
    rintro e w1 ⟨rfl, hb1⟩
    rw [H1.out, H2.out]
    have m0 : w1.cell? ⟨w.heap.size, 0, none⟩ = some (.int .i64 p) := cell_be hb1 (by simp [go_sem])
    have m1 : w1.cell? ⟨w.heap.size, 1, none⟩ = some (.slice a2 n2 c2) := cell_be hb1 (by simp [go_sem])
    have hB1 := bnext hb0 hb1
    replace h2 := h2.below hb1
    replace he := he.below hb1
    have z1 := hb1.size
    simp at z1
    clear hb1
    have hx1 := bl1 w1 (.cells #[.int .i64 (K : Int)] 2)
    have hB2 := bnext hB1 hx1
    have k0 : (w1.alloc (.cells #[.int .i64 (K : Int)] 2)).cell? ⟨w1.heap.size, 0, none⟩ = some (.int .i64 (K : Int)) := by simp [go_sem]
    replace m0 := cell_be hx1 m0
    replace m1 := cell_be hx1 m1
    replace h2 := h2.below hx1
    replace he := he.below hx1
    have zx : w1.heap.size + 1 ≤ (w1.alloc (.cells #[.int .i64 (K : Int)] 2)).heap.size := by simp
    clear hx1
    go_wp2_with fail
    generalize (w1.alloc (.cells #[.int .i64 (K : Int)] 2)) = wx at *
    refine (doorS 58 #[.pointer (some ⟨w.heap.size, 0, none⟩), .pointer (some ⟨w1.heap.size, 0, none⟩)] ae _ False (fun v W => ∃ f g, v = .slice f K g ∧ Own (wx.heap.size + 1) W f g (nmL p xs K)) hent ?_ ?_).mono ?_
    · rintro v W W' ⟨f, g, rfl, of⟩ hA
      exact ⟨f, g, rfl, of.agr hA (fun g hg => of.low g hg)⟩
    · intro W hW hz
      refine (norsWork p a2 n2 c2 xs K w.heap.size w1.heap.size ae W ⟨cell_be hW m0, cell_be hW m1, cell_be hW k0, he.below hW, h2.below hW⟩ hP hx q2 hK12 hT hmost).mono ?_
      rintro e w' ⟨hb, f, g, rfl, of⟩
      rw [hlen.out]
      exact ⟨hb, .inl ⟨f, K, g, rfl, f, g, rfl, of.mono hz⟩⟩
    rintro e w2 ⟨hb2', (⟨a', n', c', hee, f, g, hv, of⟩ | ⟨_, hno⟩)⟩
    · rw [hv] at hee
      subst hee
      clear hv
      have hB3 := bnext hB2 hb2'
      have zz := hB2.size
      clear hb2' m0 m1 k0
      go_wp2
      go_ret2
      exact Res1.own HC.out (by rw [HE.out, hlen.out]) (by rw [HE.out]; exact of.mono (by omega)) (by rw [HE.out, hlen.out]; omega) hB3
    · exact hno.elim
end Go.Proofs.YtdjifjlgllohmaaDoor
/- Contract: NormsOf of the model. -/
namespace Go.Proofs.YtdjifjlgllohmaaDoor
open Go.RowKit
set_option linter.unusedVariables false
set_option linter.unusedSimpArgs false
set_option maxRecDepth 100000 in
set_option maxHeartbeats 3200000 in
theorem specNormsOf (p : Int) (a2 : Option Addr) (n2 c2 : Nat) (xs : List Int) (w : World) (h2 : SL w a2 n2 c2 xs) (hn : n2 ≤ 4000000) :
    Calls Tryd.prog 28 #[mom p a2 n2 c2] w (Res1 w (nrsV p xs) (nrsC p xs)) := by
  have hb0 := bl1 w (.cells #[.int .i64 p, .slice a2 n2 c2] 30)
  have H20 := hide h2
  have hl2 := hide h2.len
  replace h2 := h2.below hb0
  go_enter Tryd.func28, Tryd.ntmps28
  go_upto_region 1 with fail
  generalize hwx : w.alloc (.cells #[.int .i64 p, .slice a2 n2 c2] 30) = wx at *
  have m0 : wx.cell? ⟨w.heap.size, 0, none⟩ = some (.int .i64 p) := by rw [← hwx]; simp [go_sem]
  have m1 : wx.cell? ⟨w.heap.size, 1, none⟩ = some (.slice a2 n2 c2) := by rw [← hwx]; simp [go_sem]
  clear hwx
  go_wp2_with fail
  refine (l02Are_any p _ _ _ xs _ h2 hn).mono ?_
  rintro e w1 ⟨rfl, t1⟩
  have hB := hb0.trans (t1.mono hb0.size)
  replace m0 := cell_be t1 m0
  replace m1 := cell_be t1 m1
  replace h2 := h2.below t1
  clear t1 hb0
  cases hm : momB p xs
  · have HC := hide (show nrsC p xs = 1 by unfold nrsC; rw [hm]; rfl)
    have HE := hide (show nrsV p xs = [] by unfold nrsV; rw [hm]; rfl)
    replace hm := hide hm
    go_wp2
    refine bodyPost_ret (v := .tuple #[.slice none 0 0, .int .i64 1]) (by simp [results, Tryd.results28, go_sem]) rfl ?_
    exact Res1.nil HE.out HC.out hB
  have HC := hide (show nrsC p xs = 0 by unfold nrsC; rw [hm]; rfl)
  have HE := hide (show nrsV p xs = nmL p xs (ordM p xs) by unfold nrsV; rw [hm]; rfl)
  obtain ⟨hP, q1, q2, hx⟩ := momB_rng hm
  have hmost := ord_most p xs
  rw [hl2.out] at q2 hmost
  have hT := hide ((ord_told hP hx (by rw [hl2.out]; exact q2) (by rw [hl2.out]; exact hmost)).1 (Nat.le_refl (ordM p xs)))
  obtain ⟨hp, hp2⟩ := primeB_lo hP
  have hM := hide hm
  have HK := hide (fun (W : World) (h : SL W a2 n2 c2 xs) => l02Order_any p a2 n2 c2 xs W h hm)
  obtain ⟨K, hK⟩ : ∃ K, ordM p xs = K := ⟨_, rfl⟩
  rw [hK] at HE hmost hT HK
  have hK12 : K ≤ 12 := by omega
  have hK12' : (K : Int) ≤ 12 := by omega
  have hlen := hide (nmL_len p xs K)
  replace hP := hide hP
  replace hx := hide hx
  clear hK q1 hm
  have l3 := bl1 w1 (.cells #[] 2)
  have ho0 : Hid (Own (w.heap.size + 1) (w1.alloc (.cells #[] 2)) (some ⟨w1.heap.size, 0, none⟩) 0 (nmL p xs 0)) := hide (World.ownsRow_lit w1 (base := w.heap.size + 1) (e := 2) (size := 1) #[] 0 (by have := World.block_lt_of_cell? _ _ m0; simp at this; omega) (by simp) rfl)
  have hB3 := hide (hB.trans (l3.mono hB.size))
  have hF3 := hide (And.intro (cell_be l3 m0) (cell_be l3 m1))
  have z3 : w.heap.size + 1 ≤ (w1.alloc (.cells #[] 2)).heap.size := by have := World.block_lt_of_cell? _ _ m0; simp at this ⊢; omega
  have h3 := hide (h2.below l3)
  clear l3 m0 m1 h2
  go_wp2
  generalize (w1.alloc (.cells #[] 2)) = w3 at *
  generalize (some (⟨w1.heap.size, 0, none⟩ : Addr)) = ad0 at *
  go_loopw [4, 5] (fun sv iv wr => ∃ (t : Nat) (a' : Option Addr) (c' : Nat), t ≤ K ∧ iv = .int .i64 t ∧ sv = .slice a' t c' ∧ Hid (Own (w.heap.size + 1) wr a' c' (nmL p xs t)) ∧ Hid (Below w.heap.size w wr) ∧ Hid (wr.cell? ⟨w.heap.size, 0, none⟩ = some (.int .i64 p) ∧ wr.cell? ⟨w.heap.size, 1, none⟩ = some (.slice a2 n2 c2)) ∧ w.heap.size + 1 ≤ wr.heap.size) (fun _ iv _ => K - (intOf iv).toNat)
  case atStart => exact ⟨0, _, _, by omega, rfl, rfl, ho0, hB3, hF3, z3⟩
  case round =>
    obtain ⟨t, a', c', ht, rfl, rfl, ho, hW, hF, hz⟩ := hrel
    clear ho0 hB3 hF3 z3
    obtain ⟨m0, m1⟩ := hF.out
    have s2 : SL wr a2 n2 c2 xs := H20.out.below hW.out
    have q0 : (0 : Int) ≤ (t : Int) := by omega
    have q1 : (t : Int) < (t : Int) + 1 := by omega
    have v5 : IntKind.i64.wrap ((t : Int) + 1) = (t : Int) + 1 := IntWalk.i64_in _ (by omega)
    by_cases hlt : t < K
    · have hlt' : (t : Int) < (K : Int) := by omega
      have hle' : (t : Int) < 12 := by omega
      have LK := hide (opL_len hp xs t (by omega)).1
      have SK := hide (opL_small hp xs t (by omega)).are
      have QO := hide (own_sq hP.out xs (show t ≤ 24 by omega))
      have hVn := hide (show nmL p xs (t + 1) = nmL p xs t ++ [opH p xs t] from rfl)
      have hvl := hide (nmL_len p xs t)
      obtain ⟨vs, hvs⟩ : ∃ vs, nmL p xs t = vs := ⟨_, rfl⟩
      obtain ⟨Hn, hHn⟩ : ∃ H, H = opH p xs t := ⟨_, rfl⟩
      rw [hvs] at ho hVn hvl
      have HHn := hide (show opH p xs t = nrI p (opL p xs t) xs 0 from rfl)
      rw [← hHn] at hVn HHn
      clear hHn hvs
      go_wp2_with fail
      refine (HK.out _ s2).mono ?_
      rintro e wo ⟨rfl, tk⟩
      replace ho := hide (ho.out.below tk)
      replace hW := hide (hW.out.trans (tk.mono hW.out.size))
      replace m0 := cell_be tk m0
      replace m1 := cell_be tk m1
      replace s2 := s2.below tk
      have hz' := tk.size
      replace hz : w.heap.size + 1 ≤ wo.heap.size := by omega
      clear tk hF hz'
      obtain ⟨wr, hwr⟩ : ∃ wr, wr = wo := ⟨_, rfl⟩
      subst hwr
      go_upto_region 7 with fail
      have FF : ∀ v, Agr (fun b => b < w.heap.size + 1) wr v → v.cell? ⟨w.heap.size, 0, none⟩ = some (.int .i64 p) ∧ v.cell? ⟨w.heap.size, 1, none⟩ = some (.slice a2 n2 c2) := fun v hv => ⟨hv.cell m0 (Nat.lt_succ_self _), hv.cell m1 (Nat.lt_succ_self _)⟩
      have hm := (Below.refl wr.heap.size wr).drew
      refine region_E (fun v => v.cell? ⟨w.heap.size, 0, none⟩ = some (.int .i64 p) ∧ v.cell? ⟨w.heap.size, 1, none⟩ = some (.slice a2 n2 c2)) 99 (by kernel_rfl) (FF _ (Agr.new hm)) ?_
      intro hS
      refine anyE_takeH 0 rfl (by kernel_rfl) (fun _ _ _ h => h) hS (by rfl) (v := ?_) ?_ ?_
      rotate_left
      · intro w' hSw; (try dsimp only at hSw); go_simp; (try with_reducible rfl)
      try simp only [Act.put, List.setIfInBounds_toArray, List.set_cons_zero, List.set_cons_succ]
      refine anyE_takeH 1 rfl (by kernel_rfl) (fun _ _ _ h => h) hS (by rfl) (v := ?_) ?_ ?_
      rotate_left
      · intro w' hSw; (try dsimp only at hSw); go_simp; (try with_reducible rfl)
      try simp only [Act.put, List.setIfInBounds_toArray, List.set_cons_zero, List.set_cons_succ]
      refine anyE_takeH 2 rfl (by kernel_rfl) (fun _ _ _ h => h) hS (by rfl) (v := ?_) ?_ ?_
      rotate_left
      · intro w' hSw; (try dsimp only at hSw); go_simp; (try with_reducible rfl)
      try simp only [Act.put, List.setIfInBounds_toArray, List.set_cons_zero, List.set_cons_succ]
      refine anyE_takeH 3 rfl (by kernel_rfl) (fun _ _ _ h => h) hS (by rfl) (v := ?_) ?_ ?_
      rotate_left
      · intro w' hSw; (try dsimp only at hSw); go_simp; (try with_reducible rfl)
      try simp only [Act.put, List.setIfInBounds_toArray, List.set_cons_zero, List.set_cons_succ]
      refine anyE_takeH 5 rfl (by kernel_rfl) (fun _ _ _ h => h) hS (by rfl) (v := ?_) ?_ ?_
      rotate_left
      · intro w' hSw; (try dsimp only at hSw); go_simp; (try with_reducible rfl)
      try simp only [Act.put, List.setIfInBounds_toArray, List.set_cons_zero, List.set_cons_succ]
      clear hS
      obtain ⟨u0, hu0⟩ : ∃ u, u = wr.drew := ⟨_, rfl⟩
      rw [← hu0] at hm ⊢
      clear hu0
      refine anyE_oneL 4 (by kernel_rfl) rfl (fun K' hK' => ?_)
      go_simp
      refine (l04Polys_any p _ _ _ xs t _ (s2.below hm) hM.out (by omega) (fun j hj => hT.out j (by omega))).mono ?_
      rintro e w2 ⟨aa, cc, ws, RA, RC, rfl, hwl, hOV, hKQ, t2⟩
      dsimp only
      obtain ⟨G, rfl, hcG⟩ := hOV.at (by rw [hwl]; omega)
      have ec := hcG t (by rw [hwl]; omega)
      rw [hKQ.1 t (by omega), LK.out] at ec
      have o2 := hide (hKQ.2.1 t (by omega)).sl
      rw [LK.out] at o2
      clear hcG hwl hOV hKQ
      replace hm := bnext hm t2
      clear t2
      refine hK'.out _ _ (FF _ (Agr.new hm)) ?_
      clear hK' K'
      try simp only [Act.put, List.setIfInBounds_toArray, List.set_cons_zero, List.set_cons_succ]
      refine anyE_oneL 6 (by kernel_rfl) rfl (fun K' hK' => ?_)
      go_simp
      refine hK'.out _ _ (FF _ (Agr.new hm)) ?_
      clear hK' K'
      try simp only [Act.put, List.setIfInBounds_toArray, List.set_cons_zero, List.set_cons_succ]
      refine anyE_oneL 7 (by kernel_rfl) rfl (fun K' hK' => ?_)
      go_simp
      refine hK'.out _ _ (FF _ (Agr.new hm)) ?_
      clear hK' K'
      try simp only [Act.put, List.setIfInBounds_toArray, List.set_cons_zero, List.set_cons_succ]
      refine anyE_oneL 8 (by kernel_rfl) rfl (fun K' hK' => ?_)
      go_simp
      refine (l04Norm_any p _ _ _ xs _ _ _ (opL p xs t) 0 _ _ (s2.below hm) o2.out (by omega) (by omega) (by omega) rfl (by omega) hp hp2 SK.out hx.out QO.out).mono ?_
      rintro e y1 ⟨rfl, tt⟩
      dsimp only
      rw [← HHn.out]
      replace hm := bnext hm tt
      clear tt
      refine hK'.out _ _ (FF _ (Agr.new hm)) ?_
      clear hK' K'
      try simp only [Act.put, List.setIfInBounds_toArray, List.set_cons_zero, List.set_cons_succ]
      have hcl : (y1.alloc (.cells #[.int .i64 Hn] 2)).cell? ⟨y1.heap.size, 0, none⟩ = some (.int .i64 Hn) := by simp [go_sem]
      have hm2 := bnext hm (bl1 y1 (.cells #[.int .i64 Hn] 2))
      have hOb := hide (ho.out.below hm2)
      have sz8 := hm.size
      have hge := own_blk_ge ho.out
      refine anyE_oneL 9 (by kernel_rfl) rfl (fun K' hK' => ?_)
      go_simp
      refine hK'.out _ _ (FF _ (Agr.new hm2)) ?_
      clear hK' K'
      try simp only [Act.put, List.setIfInBounds_toArray, List.set_cons_zero, List.set_cons_succ]
      refine anyE_oneL 10 (by kernel_rfl) rfl (fun K' hK' => ?_)
      refine step_app1 (by rfl) _ _ (by rfl) (w.heap.size + 1) _ _ _ vs (by rfl) hvl.out.symm hOb.out _ _ Hn (by rfl) hcl (by omega) (by first | omega | (simp; omega)) ?_
      intro ad' cap' v9 hown2 hgr2 hloc2
      have gA : Agr (fun b => b < w.heap.size + 1) wr v9 := (Agr.new hm2).trans (Agr.grown hgr2 (fun r hr hn => by have := hge r hr; omega))
      refine hK'.out _ _ (FF _ gA) ?_
      clear hK' K'
      try simp only [Act.put, List.setIfInBounds_toArray, List.set_cons_zero, List.set_cons_succ]
      refine anyE_oneL 11 (by kernel_rfl) rfl (fun K' hK' => ?_)
      go_simp
      refine hK'.out _ _ (FF _ gA) ?_
      clear hK' K'
      try simp only [Act.put, List.setIfInBounds_toArray, List.set_cons_zero, List.set_cons_succ]
      refine anyE_doneL (by kernel_rfl) ?_
      obtain ⟨M0, M1⟩ := FF _ gA
      have z9 := gA.size
      have W9 := hide (hW.out.trans ((gA.mono fun b _ hb => Nat.lt_succ_of_lt hb).to_below hW.out.size))
      have HF9 := hide (And.intro M0 M1)
      have HO9 := hide hown2
      rw [← hVn.out] at HO9
      have hvl9 := hide (show (vs ++ [Hn]).length = t + 1 by rw [List.length_append, hvl.out]; rfl)
      clear FF hOb hown2 hgr2 hloc2 gA M0 M1 m0 m1 hm hm2 hcl
      go_wp2
      go_roundw
      case rel => exact ⟨t + 1, _, _, by omega, by go_num, by rw [hvl.out], HO9, W9, HF9, by omega⟩
      case measure => simp [intOf]; omega
    · have hte : Hid (t = K) := hide (by omega)
      have hge : ¬ (t : Int) < (K : Int) := by omega
      have hle' : (t : Int) ≤ 12 := by omega
      go_wp2_with fail
      refine (HK.out _ s2).mono ?_
      rintro e wo ⟨rfl, tk⟩
      go_wp2
      refine bodyPost_ret (v := .tuple #[.slice a' t c', .int .i64 0]) (by simp [results, Tryd.results28, go_sem]) rfl ?_
      exact Res1.own HC.out (by rw [HE.out, hlen.out, hte.out]) (by rw [HE.out, ← hte.out]; exact (ho.out.below tk).mono (by omega)) (by rw [HE.out, hlen.out]; omega) (hW.out.trans (tk.mono hW.out.size))
end Go.Proofs.YtdjifjlgllohmaaDoor
