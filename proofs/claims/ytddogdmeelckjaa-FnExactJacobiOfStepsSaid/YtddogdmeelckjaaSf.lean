/- Contracts: l05Series (model), seriesOf (program): the first numbers of the series of two lists. -/
import Derived.Test.YtddogdmeelckjaaSe
import Derived.Test.YtddogdmeelckjaaCs
import Derived.Test.YtddogdmeelckjaaJb
namespace Go.Proofs.Ytddogdmeelckjaa
open Go.RowKit
set_option linter.unusedVariables false
set_option linter.unusedSimpArgs false

set_option maxRecDepth 100000 in
set_option maxHeartbeats 3200000 in
theorem l05Series_any (p : Int) (a1 : Option Addr) (n1 c1 : Nat) (f : List Int) (a2 : Option Addr) (n2 c2 : Nat) (g : List Int) (n : Nat) (w : World) (h1 : SL w a1 n1 c1 f) (h2 : SL w a2 n2 c2 g)
    (b1 : n1 ≤ 4000000) (b2 : n2 ≤ 4000000) (hg0 : 1 ≤ n2) (hn : n ≤ 1000) (hp : 2 ≤ p) (hp2 : p ≤ 10007) (hf : areB p f = true) (hg : areB p g = true) :
    Calls Try.prog 60 #[.int .i64 p, .slice a1 n1 c1, .slice a2 n2 c2, .int .i64 n] w fun e w' => ∃ a' c', e = .returned (.slice a' n c') ∧ Own w.heap.size w' a' c' (serL p f g n) ∧ Below w.heap.size w w' := by
  have hl1 := hide h1.len
  have hl2 := hide h2.len
  have ho : Own w.heap.size (w.alloc (.cells #[] 2)) (some ⟨w.heap.size, 0, none⟩) 0 [] := World.ownsRow_lit w (base := w.heap.size) (e := 2) (size := 1) #[] 0 (Nat.le_refl _) (by simp) rfl
  have hb0 := bl1 w (.cells #[] 2)
  have Hf := hide hf
  have Hg := hide hg
  obtain ⟨bg, og, rfl, hbg, hcg⟩ := h2.at (by omega)
  have e0 := cell_al (hcg 0 (by omega)) (.cells #[] 2)
  have hr0 := getD_rng hg hp 0
  have hq : Hid (invM p (g.getD 0 0) = invM p (g.getD 0 0)) := hide rfl
  obtain ⟨G0, hG0⟩ : ∃ G0, g.getD 0 0 = G0 := ⟨_, rfl⟩
  have HG0 := hide hG0
  rw [hG0] at e0 hr0
  rw [Nat.add_zero] at e0
  clear hf hg hG0 hq
  go_enter Try.func60, Try.ntmps60
  go_wp2_with fail
  refine (l01Inverse_any p G0 _ hp hp2 hr0.1 hr0.2).mono ?_
  rintro e w0 ⟨rfl, rfl⟩
  have hq0 := powM_rng (p := p) (x := G0) (k := p - 2) hp
  obtain ⟨q, hqd⟩ : ∃ q, invM p G0 = q := ⟨_, rfl⟩
  have hq1 : 0 ≤ q ∧ q < p := by rw [← hqd]; exact hq0
  have HQ := hide hqd
  rw [hqd]
  clear e0 hq0 hqd
  have hzl0 : Hid (([] : List Int) = serL p f g 0) := hide rfl
  go_wp2
  go_loopw [9, 11] (fun ov kv wr => ∃ (k : Nat) (a' : Option Addr) (c' : Nat) (zs : List Int), k ≤ n ∧ kv = .int .i64 k ∧ ov = .slice a' k c' ∧ Hid (zs = serL p f g k) ∧ Hid (zs.length = k) ∧ Hid (Own w.heap.size wr a' c' zs) ∧ Below w.heap.size w wr) (fun _ kv _ => n - (intOf kv).toNat)
  case atStart => exact ⟨0, _, 0, [], by omega, rfl, rfl, hzl0, hide rfl, hide ho, hb0⟩
  case round =>
    obtain ⟨k, a', c', zs, hk, rfl, rfl, hZ, hzl, hO, hBr⟩ := hrel
    clear ho hb0 hzl0
    by_cases hlt : k < n
    · have hlt' : (k : Int) < (n : Int) := by omega
      have hsr := getD_rng Hf.out hp k
      have hT0 : Hid (serT p f g (serS p f g) k 0 = f.getD k 0) := hide rfl
      have hbs := hBr.size
      have hfin : ∀ i : Nat, i = k ∨ (i ≤ k ∧ n2 ≤ i + 1) → serL p f g (k + 1) = serL p f g k ++ [serT p f g (serS p f g) k i * q % p] := fun i hi => by
        have e1 : serT p f g (serS p f g) k k = serT p f g (serS p f g) k i := by
          rcases hi with rfl | ⟨h3, h4⟩
          · rfl
          · exact serT_far hp Hf.out g _ k i (by rw [hl2.out]; exact h4) k h3
        have e2 := serS_eq p f g k
        rw [e1, HG0.out, HQ.out] at e2
        rw [serL_tab, serL_tab, ← e2, tab_snoc]
      have Hfin := hide hfin
      clear hfin
      have hco := h1.below hBr
      have hcg2 : ∀ j, j < n2 → wr.cell? ⟨bg, og + j, none⟩ = some (.int .i64 (g.getD j 0)) := fun j hj => cell_be hBr (hcg j hj)
      have Hcg2 := hide hcg2
      have hbgr : bg < wr.heap.size := Nat.lt_of_lt_of_le hbg hbs
      obtain ⟨s0, hs0⟩ : ∃ s0, f.getD k 0 = s0 := ⟨_, rfl⟩
      rw [hs0] at hsr hT0
      by_cases hkf : k < n1
      obtain ⟨bf, off, ha, hbf, hcf⟩ := hco.at (by omega)
      subst ha
      have ef := hcf k hkf
      rw [hs0] at ef
      have hkf' : (k : Int) < (n1 : Int) := by omega
      clear hcf hs0 hcg hcg2 hco
      go_wp2
      rotate_left
      have hz0 : s0 = 0 := by rw [← hs0]; exact getD_far (by rw [hl1.out]; omega)
      subst hz0
      have hkf' : ¬ (k : Int) < (n1 : Int) := by omega
      clear hs0 hcg hcg2 hco
      go_wp2
      all_goals
        obtain ⟨wo, hwo⟩ : ∃ wo : World, wo = wr := ⟨_, rfl⟩
        subst hwo
        have hbo := Below.refl wo.heap.size wo
        go_loopw [12, 13] (fun sv iv wr => ∃ (i : Nat) (t : Int), i ≤ k ∧ i + 1 ≤ n2 ∧ iv = .int .i64 ((i : Int) + 1) ∧ sv = .int .i64 t ∧ 0 ≤ t ∧ t < p ∧ Hid (serT p f g (serS p f g) k i = t) ∧ Below wo.heap.size wo wr) (fun _ iv _ => k + 1 - (intOf iv).toNat)
        case atStart => exact ⟨0, _, by omega, by omega, by simp, rfl, hsr.1, hsr.2, hT0, hbo⟩
        case round =>
          obtain ⟨i, t, hik, hin, rfl, rfl, ht0, ht1, hT, hbx⟩ := hrel
          clear hbo hT0
          have hOx := hO.out.below hbx
          have hBx := bthen hBr hbx hbs
          by_cases hgo : i + 1 ≤ k ∧ i + 1 < n2
          · have e1 := cell_be hbx (Hcg2.out (i + 1) hgo.2)
            obtain ⟨GB, hGa, hGB, hGl, hGc⟩ := hOx.blkG (by rw [hzl.out]; omega)
            subst hGa
            have e2 := hOx.cellG (k - (i + 1)) (by rw [hzl.out]; omega)
            have r1 := getD_rng Hg.out hp (i + 1)
            have r2 := serS_rng hp f g (k - (i + 1))
            have hS : Hid (zs.getD (k - (i + 1)) 0 = serS p f g (k - (i + 1))) := hide (by rw [hZ.out, serL_tab, tab_at _ _ _ (by omega)])
            have hst : Hid (serT p f g (serS p f g) k (i + 1) = (t - g.getD (i + 1) 0 * serS p f g (k - (i + 1))) % p) := hide (by rw [serT, hT.out])
            rw [hS.out] at e2
            obtain ⟨x, hx⟩ : ∃ x, g.getD (i + 1) 0 = x := ⟨_, rfl⟩
            obtain ⟨y, hy⟩ : ∃ y, serS p f g (k - (i + 1)) = y := ⟨_, rfl⟩
            rw [hx] at e1 r1 hst
            rw [hy] at e2 r2 hst
            obtain ⟨m1, m2⟩ := mulb r1.1 r1.2 r2.1 r2.2 hp2
            have bb1 : -9223372036854775808 ≤ t - x * y := by omega
            have bb2 : t - x * y ≤ 9223372036854775807 := by omega
            have v1 : IntKind.i64.wrap (x * y) = x * y := IntWalk.i64_in _ (by omega)
            have v2 : IntKind.i64.wrap (t - x * y) = t - x * y := IntWalk.i64_in _ (by omega)
            have v3 : IntKind.i64.wrap ((k : Int) - ((i : Int) + 1)) = (k : Int) - ((i : Int) + 1) := IntWalk.i64_in _ (by omega)
            have v4 : ((k : Int) - ((i : Int) + 1)).toNat = k - (i + 1) := by omega
            have v5 : ((i : Int) + 1).toNat = i + 1 := by omega
            have g1 : (i : Int) + 1 ≤ (k : Int) := by omega
            have g2 : (i : Int) + 1 < (n2 : Int) := by omega
            have g3 : (k : Int) - ((i : Int) + 1) < (k : Int) := by omega
            have g4 : (0 : Int) ≤ (k : Int) - ((i : Int) + 1) := by omega
            have hrr := modb (x := t - x * y) hp
            clear hx hy hS hgo hOx
            go_wp2
            go_quiet (first
              | (go_at_call 112; refine Calls.quiet_of_same (still_of (l01Mod_any p (t - x * y) _ hp hp2 bb1 bb2))))
            clear v1 v2 v3 v4 v5 bb1 bb2
            go_wp2
            go_roundw
            case rel => exact ⟨i + 1, _, by omega, by omega, by go_num, rfl, hrr.1, hrr.2, hst, below_drewN hbx _⟩
            case measure => simp [intOf]; omega
          · have hf2 := Hfin.out i (by omega)
            rw [← hZ.out, hT.out] at hf2
            have hst := hide hf2
            obtain ⟨m1, m2⟩ := mulb ht0 ht1 hq1.1 hq1.2 hp2
            have v3 : IntKind.i64.wrap (t * q) = t * q := IntWalk.i64_in _ (by omega)
            have v4 : (t * q).tmod p = t * q % p := Int.tmod_eq_emod_of_nonneg (by omega)
            obtain ⟨z, hz⟩ : ∃ z, t * q % p = z := ⟨_, rfl⟩
            rw [hz] at v4 hst
            have hbs2 := hBx.size
            have hOa := hide (hOx.below (bl1 wr (.cells #[.int .i64 z] 2)))
            have hgo2 : ¬ ((i : Int) + 1 ≤ (k : Int) ∧ (i : Int) + 1 < (n2 : Int)) := by omega
            clear hf2 hOx hz
            by_cases hgk : (i : Int) + 1 ≤ (k : Int)
            have hgn : ¬ (i : Int) + 1 < (n2 : Int) := fun h => hgo2 ⟨hgk, h⟩
            clear hgo hgo2
            go_wp2_with (at_builtin; refine wp_append rfl _ _ rfl w.heap.size _ k _ zs rfl hzl.out.symm hOa.out _ 1 1 [z] rfl (litSL wr z) (by omega) (by simp; omega) ?_; intro ad' cap' w1 hown hb)
            rotate_left
            clear hgo hgo2
            go_wp2_with (at_builtin; refine wp_append rfl _ _ rfl w.heap.size _ k _ zs rfl hzl.out.symm hOa.out _ 1 1 [z] rfl (litSL wr z) (by omega) (by simp; omega) ?_; intro ad' cap' w1 hown hb)
            all_goals
              have hown' := hide hown
              have hB1 := (hBx.alloc hbs2 (.cells #[.int .i64 z] 2)).trans hb
              have hl2' : Hid ((zs ++ [z]).length = k + 1) := hide (by rw [List.length_append, hzl.out]; rfl)
              have hst' := hide hst.out.symm
              clear hown hb hOa hst
              go_wp2
              go_roundw
              case rel => exact ⟨k + 1, ad', cap', zs ++ [z], by omega, by go_num, by rw [hzl.out], hst', hl2', hown', hB1⟩
              case measure => simp [intOf]; omega
    · have hkn : k = n := by omega
      have Hk := hide hkn
      have hlt' : ¬ (k : Int) < (n : Int) := by omega
      clear hkn
      go_wp2
      refine bodyPost_ret (v := .slice a' k c') (by simp [results, Try.results60]) rfl ?_
      exact ⟨a', c', by rw [Hk.out], by rw [← Hk.out, ← hZ.out]; exact hO.out, hBr⟩
theorem mulb2 {x y : Int} (h1 : 0 ≤ x) (h2 : x ≤ 10007) (h3 : 0 ≤ y) (h4 : y ≤ 10007) : 0 ≤ x * y ∧ x * y ≤ 100140049 := by
  refine ⟨Int.mul_nonneg h1 h3, ?_⟩
  have : x * y ≤ 10007 * 10007 := Int.mul_le_mul h2 h4 h3 (by omega)
  omega
set_option maxRecDepth 100000 in
/-- copy of as many numbers as fit. -/
theorem wp_copyT {w : World} {ops : Array Oper} {rest : List Oper} {o : Oper} {a : Act} {Q : Exit → Act → World → Prop}
    (hgd : o.guard = none) (d s : Operand) (ho : o.op = .call { callee := .builtin .copy, args := #[d, s], argTypes := #[22, 22] })
    (g dLen dCap : Nat) (ys : List Int) (hd : a.eval d = .slice (some ⟨g, 0, none⟩) dLen dCap) (hrow : RowI w g ys) (hdl : dLen = ys.length)
    (sp : Option Addr) (m c k : Nat) (zs : List Int) (hs : a.eval s = .slice sp m c) (hz : SL w sp m c zs) (hk : k = min m ys.length) (B : Nat) (hB : B ≤ g)
    (h : ∀ w', Hid (RowI w' g (zs.take k ++ ys.drop k)) → Below B w w' → wpList Try.prog ops Q rest (a.put o.dst (.int .i64 k)) w') :
    wpList Try.prog ops Q (o :: rest) a w := by
  subst hdl
  obtain ⟨hl, hle, hcs⟩ := hz
  have hkm : k ≤ m := by omega
  have hky : k ≤ ys.length := by omega
  have hkl : (zs.take k).length = k := by simp; omega
  refine wpList_copy_splice hgd d s 22 22 ho 2 Try.underlying22 sizeI (some ⟨g, 0, none⟩) sp ys.length dCap m c hd hs g 0 (ys.map (Value.int .i64)) 2 hrow ((zs.take k).map (Value.int .i64)) ?_ ?_ ?_ ?_ B w (Below.refl _ _) hB ?_
  · rw [List.length_map, hkl]
    omega
  · intro hpos
    refine ⟨rfl, ?_⟩
    have hm0 : 0 < k := by rw [List.length_map, hkl] at hpos; exact hpos
    rcases hcs with h0 | ⟨b, off, rfl, hcell⟩
    · omega
    · refine ⟨_, rfl, fun j v hj => ?_⟩
      have hjk : j < k := by
        have := (List.getElem?_eq_some_iff.1 hj).1
        rw [List.length_map, hkl] at this
        exact this
      rw [Addr.add_lit, hcell j (by omega)]
      simpa [List.getElem?_take, hjk, show j < zs.length by omega] using hj
  · simp [hl]; omega
  · intro u hu
    obtain ⟨_, _, rfl⟩ := List.mem_map.1 hu
    rfl
  · intro w' hw hb
    have e : splice (ys.map (Value.int .i64)) 0 ((zs.take k).map (Value.int .i64)) = (zs.take k ++ ys.drop k).map (Value.int .i64) := by
      simp [splice, hl, Nat.min_eq_left hkm]
    have hw2 := hw.out
    rw [e] at hw2
    have := h w' hw2 hb
    have hmin : min k zs.length = k := by omega
    simpa [goInt, hmin] using this
theorem pad_tabT (f : List Int) (N k : Nat) (hk : k = min f.length N) : f.take k ++ (List.replicate N (0 : Int)).drop k = tab N (fun j => f.getD j 0) := by
  apply ext_tab
  · simp [tab]; omega
  · intro j hj
    have hj' : j < N := by simp at hj; omega
    rw [tab_at _ _ _ hj']
    have hkl : (f.take k).length = k := by simp; omega
    by_cases h : j < k
    · simp [List.getElem?_append_left (show j < (f.take k).length by omega), List.getElem?_take, h]
    · simp [List.getElem?_append_right (show (f.take k).length ≤ j by omega), show ¬ j < f.length by omega, hkl]
      have : ∀ (i : Nat), (List.replicate (N - k) (0 : Int))[i]?.getD 0 = 0 := fun i => by
        by_cases hi : i < N - k <;> simp [hi]
      exact this _
set_option maxRecDepth 100000 in
set_option maxHeartbeats 3200000 in
theorem seriesOf_any (p : Int) (a1 : Option Addr) (n1 c1 : Nat) (f : List Int) (a2 : Option Addr) (n2 c2 : Nat) (g : List Int) (n : Nat) (w : World) (h1 : SL w a1 n1 c1 f) (h2 : SL w a2 n2 c2 g)
    (b1 : n1 ≤ 4000000) (b2 : n2 ≤ 4000000) (hg0 : 1 ≤ n2) (hn : n ≤ 1000) (hp : 2 ≤ p) (hp2 : p ≤ 10007) (hf : areB p f = true) (hg : areB p g = true) :
    Calls Try.prog 62 #[.int .i64 p, .slice a1 n1 c1, .slice a2 n2 c2, .int .i64 n] w fun e w' => ∃ a' c', e = .returned (.slice a' n c') ∧ Own w.heap.size w' a' c' (serL p f g n) ∧ Below w.heap.size w w' := by
  have hl1 := hide h1.len
  have hl2 := hide h2.len
  have Hf := hide hf
  have Hg := hide hg
  obtain ⟨bg, og, rfl, hbg, hcg⟩ := h2.at (by omega)
  have Hcg := hide hcg
  have hr0 := getD_rng hg hp 0
  obtain ⟨G0, hG0⟩ : ∃ G0, g.getD 0 0 = G0 := ⟨_, rfl⟩
  have HG0 := hide hG0
  have hk0 : Hid (min n1 n = min n1 (List.replicate n (0 : Int)).length) := hide (by rw [List.length_replicate])
  rw [hG0] at hr0
  clear hf hg hG0 hcg h2
  go_enter Try.func62, Try.ntmps62
  go_wp2_with (first | (at_make; refine wp_make rfl _ _ rfl _ _ n rfl rfl rfl rfl (by omega) ?_; intro w1 hrow hb hsz; have e0 : w1.cell? ⟨bg, og, none⟩ = some (.int .i64 G0) := (by rw [← HG0.out]; exact cell_be hb (Hcg.out 0 (by omega)))) | (with_reducible refine wp_copyT rfl _ _ rfl w.heap.size _ _ (List.replicate n 0) rfl hrow.out (by simp) _ _ _ _ f rfl (h1.below hb) hk0.out w.heap.size (Nat.le_refl _) ?_; intro w2 hrow2 hb2; replace e0 := (hb2.cell (p := ⟨bg, og, none⟩) (by exact hbg)).trans e0))
  refine (inverse_any p G0 _ hp hp2 hr0.1 hr0.2).mono ?_
  rintro e w3 ⟨rfl, hb3⟩
  have hq0 := powM_rng (p := p) (x := G0) (k := p - 2) hp
  obtain ⟨q, hqd⟩ : ∃ q, invM p G0 = q := ⟨_, rfl⟩
  have hq1 : 0 ≤ q ∧ q < p := by rw [← hqd]; exact hq0
  have HQ := hide hqd
  rw [hqd]
  have hB3 := (hb.trans hb2).trans (hb3.mono (Nat.le_trans (Nat.le_of_lt hsz) hb2.size))
  have hs3 : w.heap.size < w3.heap.size := Nat.lt_of_lt_of_le hsz (Nat.le_trans hb2.size hb3.size)
  have hR3 : Hid (RowI w3 w.heap.size (tab n (serR p f g 0))) := hide (by
    have := hrow2.out.next hb3
    rw [pad_tabT f n _ (by rw [hl1.out]), serR_zero p f g] at this
    exact this)
  clear e0 hq0 hqd hrow hrow2 hb hb2 hsz hb3 hk0
  go_wp2
  go_loopw [25] (fun kv wr => ∃ k : Nat, k ≤ n ∧ kv = .int .i64 k ∧ Hid (RowI wr w.heap.size (tab n (serR p f g k))) ∧ Below w.heap.size w wr ∧ w.heap.size < wr.heap.size) (fun kv _ => n - (intOf kv).toNat)
  case atStart => exact ⟨0, by omega, rfl, hR3, hB3, hs3⟩
  case round =>
    obtain ⟨k, hk, rfl, hR, hBr, hsr⟩ := hrel
    clear hR3 hB3 hs3
    by_cases hlt : k < n
    · have hlt' : (k : Int) < (n : Int) := by omega
      have e1 := hR.out.cell k (by rw [tab_len]; exact hlt)
      rw [tab_at _ _ _ hlt] at e1
      have r1 := serR_rng hp Hf.out g k k
      have hS : Hid (serR p f g k k * q % p = serS p f g k) := hide (by have := serR_at hp Hf.out g k; rwa [HG0.out, HQ.out] at this)
      have hfr := hR.out.free k
      have hset := hR.out.set k (serS p f g k)
      rw [serR_set] at hset
      have r2 := serS_rng hp f g k
      obtain ⟨x, hx⟩ : ∃ x, serR p f g k k = x := ⟨_, rfl⟩
      rw [hx] at e1 r1 hS
      obtain ⟨s, hs⟩ : ∃ s, serS p f g k = s := ⟨_, rfl⟩
      rw [hs] at hS hset r2
      have Hset := hide hset
      have HS := hide hs
      obtain ⟨m1, m2⟩ := mulb r1.1 r1.2 hq1.1 hq1.2 hp2
      have v3 : IntKind.i64.wrap (x * q) = x * q := IntWalk.i64_in _ (by omega)
      have v4 : (x * q).tmod p = s := by rw [← hS.out]; exact Int.tmod_eq_emod_of_nonneg (by omega)
      have hBn := hBr.setCell (p := ⟨w.heap.size, k, none⟩) (by simp) (.int .i64 s)
      have hsn : w.heap.size < (wr.setCell ⟨w.heap.size, k, none⟩ (.int .i64 s)).heap.size := by simpa using hsr
      clear hset hx hs hS hR
      go_wp2
      generalize wr.setCell ⟨w.heap.size, k, none⟩ (.int .i64 s) = wo at Hset hBn hsn ⊢
      go_loopw [12] (fun iv wr => ∃ i : Nat, 1 ≤ i ∧ k + i ≤ n ∧ iv = .int .i64 i ∧ Hid (RowI wr w.heap.size (tab n (serI p f g k i))) ∧ Below w.heap.size w wr ∧ w.heap.size < wr.heap.size) (fun iv _ => n - (intOf iv).toNat)
      case atStart => exact ⟨1, by omega, by omega, rfl, Hset, hBn, hsn⟩
      case round =>
        obtain ⟨i, hi1, hi2, rfl, hR, hBx, hsx⟩ := hrel
        clear Hset hBn hsn
        have hbw := hBx.size
        by_cases hgo : i < n2 ∧ k + i < n
        · have e2 := cell_be hBx (Hcg.out i hgo.1)
          have e3 := hR.out.cell (k + i) (by rw [tab_len]; omega)
          have e4 := hR.out.cell k (by rw [tab_len]; omega)
          rw [tab_at _ _ _ (by omega), (serI_at p f g k i hi1).1] at e3
          rw [tab_at _ _ _ (by omega), (serI_at p f g k i hi1).2, HS.out] at e4
          have r3 := getD_rng Hg.out hp i
          have r4 := serP_rng hp Hf.out g (serS p f g) k (k + i)
          have hfr2 := hR.out.free (k + i)
          have hset := hR.out.set (k + i) ((serP p f g (serS p f g) k (k + i) + (p - serS p f g k) * g.getD i 0) % p)
          rw [serI_set p f g n k i hi1, HS.out] at hset
          obtain ⟨y, hy⟩ : ∃ y, g.getD i 0 = y := ⟨_, rfl⟩
          obtain ⟨z, hz⟩ : ∃ z, serP p f g (serS p f g) k (k + i) = z := ⟨_, rfl⟩
          rw [hy] at e2 r3 hset
          rw [hz] at e3 r4 hset
          have Hset := hide hset
          obtain ⟨q1, q2⟩ := mulb2 (x := p - s) (y := y) (by omega) (by omega) r3.1 (by omega)
          have v1 : IntKind.i64.wrap ((p - s) * y) = (p - s) * y := IntWalk.i64_in _ (by omega)
          have v2 : IntKind.i64.wrap (z + (p - s) * y) = z + (p - s) * y := IntWalk.i64_in _ (by omega)
          have v5 : IntKind.i64.wrap (p - s) = p - s := IntWalk.i64_in _ (by omega)
          have v6 : (z + (p - s) * y).tmod p = (z + (p - s) * y) % p := Int.tmod_eq_emod_of_nonneg (by omega)
          have v7 : IntKind.i64.wrap ((k : Int) + (i : Int)) = (k : Int) + (i : Int) := IntWalk.i64_in _ (by omega)
          have v8 := modb (x := z + (p - s) * y) hp
          have v9 : IntKind.i64.wrap ((z + (p - s) * y) % p) = (z + (p - s) * y) % p := IntWalk.i64_in _ (by omega)
          have hki : ((k : Int) + (i : Int)).toNat = k + i := by omega
          have hp0 : ¬ p = 0 := by omega
          have g1 : (i : Int) < (n2 : Int) := by omega
          have g2 : (k : Int) + (i : Int) < (n : Int) := by omega
          have g3 : (0 : Int) ≤ (k : Int) + (i : Int) := by omega
          clear hset hy hz hgo v3 v4
          go_wp2
          refine wp_region_still_tail 25 (by kernel_rfl) (by kernel_rfl) ?_
          simp only [List.take_succ_cons, List.take_zero, List.drop_succ_cons, List.drop_zero]
          repeat still_step
          refine wpStill_nil ?_
          clear v1 v2 v5 v6 v7 v8 v9 hki
          go_wp2
          go_roundw
          case rel => exact ⟨i + 1, by omega, by omega, by go_num, Hset, (hBx.setCell (by simp) _).drew, by simpa using hsx⟩
          case measure => simp [intOf]; omega
        · have hnext : Hid (RowI wr w.heap.size (tab n (serR p f g (k + 1)))) := hide (by
            have := hR.out
            rwa [serI_end hp Hf.out g n k i (by rw [hl2.out]; omega)] at this)
          have hgo2 : ¬ ((i : Int) < (n2 : Int) ∧ (k : Int) + (i : Int) < (n : Int)) := by omega
          clear hR v3 v4
          by_cases hgk : (i : Int) < (n2 : Int)
          · have hgn : ¬ (k : Int) + (i : Int) < (n : Int) := fun h => hgo2 ⟨hgk, h⟩
            clear hgo hgo2
            go_wp2
            go_roundw
            case rel => exact ⟨k + 1, by omega, by go_num, hnext, hBx, hsx⟩
            case measure => simp [intOf]; omega
          · clear hgo hgo2
            go_wp2
            go_roundw
            case rel => exact ⟨k + 1, by omega, by go_num, hnext, hBx, hsx⟩
            case measure => simp [intOf]; omega
    · obtain rfl : k = n := by omega
      have hfin : Own w.heap.size wr (some ⟨w.heap.size, 0, none⟩) k (serL p f g k) := by
        have h3 := hR.out.own' (Nat.le_refl _) (by rw [tab_len]; unfold maxLen; omega)
        rw [tab_len, serR_done] at h3
        exact h3
      go_wp2
      go_ret
      exact ⟨_, k, rfl, hfin, hBr⟩
end Go.Proofs.Ytddogdmeelckjaa
