/- Contracts: l05Series (model), seriesOf (program): the first numbers of the series of two lists. -/
import Derived.Test.YtnojmghmkoojfaaSe
import Derived.Test.YtnojmghmkoojfaaCs
import Derived.Test.YtnojmghmkoojfaaJb
namespace Go.Proofs.Ytnojmghmkoojfaa
open Go.RowKit
set_option linter.unusedVariables false
set_option linter.unusedSimpArgs false

theorem mulb2 {x y : Int} (h1 : 0 ≤ x) (h2 : x ≤ 10007) (h3 : 0 ≤ y) (h4 : y ≤ 10007) : 0 ≤ x * y ∧ x * y ≤ 100140049 := by
  refine ⟨Int.mul_nonneg h1 h3, ?_⟩
  have : x * y ≤ 10007 * 10007 := Int.mul_le_mul h2 h4 h3 (by omega)
  omega
set_option maxRecDepth 100000 in
/-- copy of as many numbers as fit. -/
theorem wp_copyT {w : World} {ops : Array Oper} {rest : List Oper} {o : Oper} {a : Act} {Q : Exit → Act → World → Prop}
    (hgd : o.guard = none) (d s : Operand) (ho : o.op = .call { callee := .builtin .copy, args := #[d, s], argTypes := #[22, 22] })
    (g dLen dCap : Nat) (ys : List Int) (hd : a.eval d = .slice (some ⟨g, 0, none⟩) dLen dCap) (hrow : RowI w g ys) (hdl : dLen = ys.length)
    (sp : Option Addr) (m c k : Nat) (zs : List Int) (hs : a.eval s = .slice sp m c) (hz : SL w sp m c zs) (hk : k = min m ys.length) (B : Nat) (hB : B ≤ g)
    (h : ∀ w', Hid (RowI w' g (zs.take k ++ ys.drop k)) → Below B w w' → wpList Try.prog ops Q rest (a.put o.dst (.int .i64 k)) w') :
    wpList Try.prog ops Q (o :: rest) a w := by
  subst hdl
  obtain ⟨hl, hle, hcs⟩ := hz
  have hkm : k ≤ m := by omega
  have hky : k ≤ ys.length := by omega
  have hkl : (zs.take k).length = k := by simp; omega
  refine wpList_copy_splice hgd d s 22 22 ho 2 Try.underlying22 sizeI (some ⟨g, 0, none⟩) sp ys.length dCap m c hd hs g 0 (ys.map (Value.int .i64)) 2 hrow ((zs.take k).map (Value.int .i64)) ?_ ?_ ?_ ?_ B w (Below.refl _ _) hB ?_
  · rw [List.length_map, hkl]
    omega
  · intro hpos
    refine ⟨rfl, ?_⟩
    have hm0 : 0 < k := by rw [List.length_map, hkl] at hpos; exact hpos
    rcases hcs with h0 | ⟨b, off, rfl, hcell⟩
    · omega
    · refine ⟨_, rfl, fun j v hj => ?_⟩
      have hjk : j < k := by
        have := (List.getElem?_eq_some_iff.1 hj).1
        rw [List.length_map, hkl] at this
        exact this
      rw [Addr.add_lit, hcell j (by omega)]
      simpa [List.getElem?_take, hjk, show j < zs.length by omega] using hj
  · simp [hl]; omega
  · intro u hu
    obtain ⟨_, _, rfl⟩ := List.mem_map.1 hu
    rfl
  · intro w' hw hb
    have e : splice (ys.map (Value.int .i64)) 0 ((zs.take k).map (Value.int .i64)) = (zs.take k ++ ys.drop k).map (Value.int .i64) := by
      simp [splice, hl, Nat.min_eq_left hkm]
    have hw2 := hw.out
    rw [e] at hw2
    have := h w' hw2 hb
    have hmin : min k zs.length = k := by omega
    simpa [goInt, hmin] using this
theorem pad_tabT (f : List Int) (N k : Nat) (hk : k = min f.length N) : f.take k ++ (List.replicate N (0 : Int)).drop k = tab N (fun j => f.getD j 0) := by
  apply ext_tab
  · simp [tab]; omega
  · intro j hj
    have hj' : j < N := by simp at hj; omega
    rw [tab_at _ _ _ hj']
    have hkl : (f.take k).length = k := by simp; omega
    by_cases h : j < k
    · simp [List.getElem?_append_left (show j < (f.take k).length by omega), List.getElem?_take, h]
    · simp [List.getElem?_append_right (show (f.take k).length ≤ j by omega), show ¬ j < f.length by omega, hkl]
      have : ∀ (i : Nat), (List.replicate (N - k) (0 : Int))[i]?.getD 0 = 0 := fun i => by
        by_cases hi : i < N - k <;> simp [hi]
      exact this _
set_option maxRecDepth 100000 in
set_option maxHeartbeats 3200000 in
theorem seriesOf_any (p : Int) (a1 : Option Addr) (n1 c1 : Nat) (f : List Int) (a2 : Option Addr) (n2 c2 : Nat) (g : List Int) (n : Nat) (w : World) (h1 : SL w a1 n1 c1 f) (h2 : SL w a2 n2 c2 g)
    (b1 : n1 ≤ 4000000) (b2 : n2 ≤ 4000000) (hg0 : 1 ≤ n2) (hn : n ≤ 1000) (hp : 2 ≤ p) (hp2 : p ≤ 10007) (hf : areB p f = true) (hg : areB p g = true) :
    Calls Try.prog 108 #[.int .i64 p, .slice a1 n1 c1, .slice a2 n2 c2, .int .i64 n] w fun e w' => ∃ a' c', e = .returned (.slice a' n c') ∧ Own w.heap.size w' a' c' (serL p f g n) ∧ Below w.heap.size w w' := by
  have hl1 := hide h1.len
  have hl2 := hide h2.len
  have Hf := hide hf
  have Hg := hide hg
  obtain ⟨bg, og, rfl, hbg, hcg⟩ := h2.at (by omega)
  have Hcg := hide hcg
  have hr0 := getD_rng hg hp 0
  obtain ⟨G0, hG0⟩ : ∃ G0, g.getD 0 0 = G0 := ⟨_, rfl⟩
  have HG0 := hide hG0
  have hk0 : Hid (min n1 n = min n1 (List.replicate n (0 : Int)).length) := hide (by rw [List.length_replicate])
  rw [hG0] at hr0
  clear hf hg hG0 hcg h2
  go_enter Try.func108, Try.ntmps108
  go_wp2_with (first | (at_make; refine wp_make rfl _ _ rfl _ _ n rfl rfl rfl rfl (by omega) ?_; intro w1 hrow hb hsz; have e0 : w1.cell? ⟨bg, og, none⟩ = some (.int .i64 G0) := (by rw [← HG0.out]; exact cell_be hb (Hcg.out 0 (by omega)))) | (with_reducible refine wp_copyT rfl _ _ rfl w.heap.size _ _ (List.replicate n 0) rfl hrow.out (by simp) _ _ _ _ f rfl (h1.below hb) hk0.out w.heap.size (Nat.le_refl _) ?_; intro w2 hrow2 hb2; replace e0 := (hb2.cell (p := ⟨bg, og, none⟩) (by exact hbg)).trans e0))
  refine (inverse_any p G0 _ hp hp2 hr0.1 hr0.2).mono ?_
  rintro e w3 ⟨rfl, hb3⟩
  have hq0 := powM_rng (p := p) (x := G0) (k := p - 2) hp
  obtain ⟨q, hqd⟩ : ∃ q, invM p G0 = q := ⟨_, rfl⟩
  have hq1 : 0 ≤ q ∧ q < p := by rw [← hqd]; exact hq0
  have HQ := hide hqd
  rw [hqd]
  have hB3 := (hb.trans hb2).trans (hb3.mono (Nat.le_trans (Nat.le_of_lt hsz) hb2.size))
  have hs3 : w.heap.size < w3.heap.size := Nat.lt_of_lt_of_le hsz (Nat.le_trans hb2.size hb3.size)
  have hR3 : Hid (RowI w3 w.heap.size (tab n (serR p f g 0))) := hide (by
    have := hrow2.out.next hb3
    rw [pad_tabT f n _ (by rw [hl1.out]), serR_zero p f g] at this
    exact this)
  clear e0 hq0 hqd hrow hrow2 hb hb2 hsz hb3 hk0
  go_wp2
  go_loopw [25] (fun kv wr => ∃ k : Nat, k ≤ n ∧ kv = .int .i64 k ∧ Hid (RowI wr w.heap.size (tab n (serR p f g k))) ∧ Below w.heap.size w wr ∧ w.heap.size < wr.heap.size) (fun kv _ => n - (intOf kv).toNat)
  case atStart => exact ⟨0, by omega, rfl, hR3, hB3, hs3⟩
  case round =>
    obtain ⟨k, hk, rfl, hR, hBr, hsr⟩ := hrel
    clear hR3 hB3 hs3
    by_cases hlt : k < n
    · have hlt' : (k : Int) < (n : Int) := by omega
      have e1 := hR.out.cell k (by rw [tab_len]; exact hlt)
      rw [tab_at _ _ _ hlt] at e1
      have r1 := serR_rng hp Hf.out g k k
      have hS : Hid (serR p f g k k * q % p = serS p f g k) := hide (by have := serR_at hp Hf.out g k; rwa [HG0.out, HQ.out] at this)
      have hfr := hR.out.free k
      have hset := hR.out.set k (serS p f g k)
      rw [serR_set] at hset
      have r2 := serS_rng hp f g k
      obtain ⟨x, hx⟩ : ∃ x, serR p f g k k = x := ⟨_, rfl⟩
      rw [hx] at e1 r1 hS
      obtain ⟨s, hs⟩ : ∃ s, serS p f g k = s := ⟨_, rfl⟩
      rw [hs] at hS hset r2
      have Hset := hide hset
      have HS := hide hs
      obtain ⟨m1, m2⟩ := mulb r1.1 r1.2 hq1.1 hq1.2 hp2
      have v3 : IntKind.i64.wrap (x * q) = x * q := IntWalk.i64_in _ (by omega)
      have v4 : (x * q).tmod p = s := by rw [← hS.out]; exact Int.tmod_eq_emod_of_nonneg (by omega)
      have hBn := hBr.setCell (p := ⟨w.heap.size, k, none⟩) (by simp) (.int .i64 s)
      have hsn : w.heap.size < (wr.setCell ⟨w.heap.size, k, none⟩ (.int .i64 s)).heap.size := by simpa using hsr
      clear hset hx hs hS hR
      go_wp2
      generalize wr.setCell ⟨w.heap.size, k, none⟩ (.int .i64 s) = wo at Hset hBn hsn ⊢
      go_loopw [12] (fun iv wr => ∃ i : Nat, 1 ≤ i ∧ k + i ≤ n ∧ iv = .int .i64 i ∧ Hid (RowI wr w.heap.size (tab n (serI p f g k i))) ∧ Below w.heap.size w wr ∧ w.heap.size < wr.heap.size) (fun iv _ => n - (intOf iv).toNat)
      case atStart => exact ⟨1, by omega, by omega, rfl, Hset, hBn, hsn⟩
      case round =>
        obtain ⟨i, hi1, hi2, rfl, hR, hBx, hsx⟩ := hrel
        clear Hset hBn hsn
        have hbw := hBx.size
        by_cases hgo : i < n2 ∧ k + i < n
        · have e2 := cell_be hBx (Hcg.out i hgo.1)
          have e3 := hR.out.cell (k + i) (by rw [tab_len]; omega)
          have e4 := hR.out.cell k (by rw [tab_len]; omega)
          rw [tab_at _ _ _ (by omega), (serI_at p f g k i hi1).1] at e3
          rw [tab_at _ _ _ (by omega), (serI_at p f g k i hi1).2, HS.out] at e4
          have r3 := getD_rng Hg.out hp i
          have r4 := serP_rng hp Hf.out g (serS p f g) k (k + i)
          have hfr2 := hR.out.free (k + i)
          have hset := hR.out.set (k + i) ((serP p f g (serS p f g) k (k + i) + (p - serS p f g k) * g.getD i 0) % p)
          rw [serI_set p f g n k i hi1, HS.out] at hset
          obtain ⟨y, hy⟩ : ∃ y, g.getD i 0 = y := ⟨_, rfl⟩
          obtain ⟨z, hz⟩ : ∃ z, serP p f g (serS p f g) k (k + i) = z := ⟨_, rfl⟩
          rw [hy] at e2 r3 hset
          rw [hz] at e3 r4 hset
          have Hset := hide hset
          obtain ⟨q1, q2⟩ := mulb2 (x := p - s) (y := y) (by omega) (by omega) r3.1 (by omega)
          have v1 : IntKind.i64.wrap ((p - s) * y) = (p - s) * y := IntWalk.i64_in _ (by omega)
          have v2 : IntKind.i64.wrap (z + (p - s) * y) = z + (p - s) * y := IntWalk.i64_in _ (by omega)
          have v5 : IntKind.i64.wrap (p - s) = p - s := IntWalk.i64_in _ (by omega)
          have v6 : (z + (p - s) * y).tmod p = (z + (p - s) * y) % p := Int.tmod_eq_emod_of_nonneg (by omega)
          have v7 : IntKind.i64.wrap ((k : Int) + (i : Int)) = (k : Int) + (i : Int) := IntWalk.i64_in _ (by omega)
          have v8 := modb (x := z + (p - s) * y) hp
          have v9 : IntKind.i64.wrap ((z + (p - s) * y) % p) = (z + (p - s) * y) % p := IntWalk.i64_in _ (by omega)
          have hki : ((k : Int) + (i : Int)).toNat = k + i := by omega
          have hp0 : ¬ p = 0 := by omega
          have g1 : (i : Int) < (n2 : Int) := by omega
          have g2 : (k : Int) + (i : Int) < (n : Int) := by omega
          have g3 : (0 : Int) ≤ (k : Int) + (i : Int) := by omega
          clear hset hy hz hgo v3 v4
          go_wp2
          refine wp_region_still_tail 25 (by kernel_rfl) (by kernel_rfl) ?_
          simp only [List.take_succ_cons, List.take_zero, List.drop_succ_cons, List.drop_zero]
          repeat still_step
          refine wpStill_nil ?_
          clear v1 v2 v5 v6 v7 v8 v9 hki
          go_wp2
          go_roundw
          case rel => exact ⟨i + 1, by omega, by omega, by go_num, Hset, (hBx.setCell (by simp) _).drew, by simpa using hsx⟩
          case measure => simp [intOf]; omega
        · have hnext : Hid (RowI wr w.heap.size (tab n (serR p f g (k + 1)))) := hide (by
            have := hR.out
            rwa [serI_end hp Hf.out g n k i (by rw [hl2.out]; omega)] at this)
          have hgo2 : ¬ ((i : Int) < (n2 : Int) ∧ (k : Int) + (i : Int) < (n : Int)) := by omega
          clear hR v3 v4
          by_cases hgk : (i : Int) < (n2 : Int)
          · have hgn : ¬ (k : Int) + (i : Int) < (n : Int) := fun h => hgo2 ⟨hgk, h⟩
            clear hgo hgo2
            go_wp2
            go_roundw
            case rel => exact ⟨k + 1, by omega, by go_num, hnext, hBx, hsx⟩
            case measure => simp [intOf]; omega
          · clear hgo hgo2
            go_wp2
            go_roundw
            case rel => exact ⟨k + 1, by omega, by go_num, hnext, hBx, hsx⟩
            case measure => simp [intOf]; omega
    · obtain rfl : k = n := by omega
      have hfin : Own w.heap.size wr (some ⟨w.heap.size, 0, none⟩) k (serL p f g k) := by
        have h3 := hR.out.own' (Nat.le_refl _) (by rw [tab_len]; unfold maxLen; omega)
        rw [tab_len, serR_done] at h3
        exact h3
      go_wp2
      go_ret
      exact ⟨_, k, rfl, hfin, hBr⟩
end Go.Proofs.Ytnojmghmkoojfaa
