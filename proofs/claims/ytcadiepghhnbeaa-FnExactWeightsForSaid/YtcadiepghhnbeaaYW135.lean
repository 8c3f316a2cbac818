/- Merged texts. -/
import Derived.Test.YtcadiepghhnbeaaYW134
import Derived.Test.YtcadiepghhnbeaaYW128
import Derived.Test.YtcadiepghhnbeaaYW129
import Derived.Deep.QuietTactic
/- Contracts: l07Apply, WeightsFor (model). -/
namespace Go.Proofs.Ytcadiepghhnbeaa
open Go.RowKit Go.Sort
set_option linter.unusedVariables false
set_option linter.unusedSimpArgs false

set_option maxRecDepth 100000 in
set_option maxHeartbeats 1600000 in
theorem l07Apply_any (p : Int) (a2 : Option Addr) (n2 c2 : Nat) (xs : List Int) (a1 : Option Addr) (n1 c1 : Nat) (f : List Int) (w : World) (h2 : SL w a2 n2 c2 xs) (h1 : SL w a1 n1 c1 f)
    (b1 : n1 ≤ 1000) (b2 : n2 ≤ 1000) (hn : n1 ≤ n2) (hp : 2 ≤ p) (hp2 : p ≤ 10007) (hf : areB p f = true) (hx : areB p xs = true) :
    Calls Try.prog 50 #[mom p a2 n2 c2, .slice a1 n1 c1] w
      fun e w' => e = .returned (.int .i64 (dotK p f xs 0 f.length)) ∧ Below w.heap.size w w' := by
  have hl1 := hide h1.len
  have Hf := hide hf
  have Hx := hide hx
  have hb0 := bl1 w (.cells #[.int .i64 p, .slice a2 n2 c2] 30)
  clear hf hx
  by_cases h0 : n1 = 0
  · subst h0
    have he : Hid (dotK p f xs 0 f.length = 0) := hide (by rw [hl1.out]; rfl)
    go_enter Try.func50, Try.ntmps50
    go_wp2
    refine wp_loop_rounds 1 ?_
    rw [rounds_succ]
    go_wp2
    go_ret
    exact ⟨ret_int he.out.symm, hb0⟩
  obtain ⟨b, off, rfl, hbw, hcell⟩ := h1.at (by omega)
  obtain ⟨b', off', rfl, hbw', hcell'⟩ := h2.at (by omega)
  clear h1 h2
  have f0 : (w.alloc (.cells #[.int .i64 p, .slice (some ⟨b', off', none⟩) n2 c2] 30)).cell? ⟨w.heap.size, 0, none⟩ = some (.int .i64 p) := by simp [go_sem]
  have f1 : (w.alloc (.cells #[.int .i64 p, .slice (some ⟨b', off', none⟩) n2 c2] 30)).cell? ⟨w.heap.size, 1, none⟩ = some (.slice (some ⟨b', off', none⟩) n2 c2) := by simp [go_sem]
  go_enter Try.func50, Try.ntmps50
  go_wp2
  go_loopw [5, 6] (fun sv iv wr => ∃ i : Nat, i ≤ n1 ∧ iv = .int .i64 i ∧ sv = .int .i64 (dotK p f xs 0 i) ∧ wr.cell? ⟨w.heap.size, 0, none⟩ = some (.int .i64 p) ∧ wr.cell? ⟨w.heap.size, 1, none⟩ = some (.slice (some ⟨b', off', none⟩) n2 c2) ∧ Below w.heap.size w wr) (fun _ iv _ => n1 - (intOf iv).toNat)
  case atStart => exact ⟨0, by omega, rfl, rfl, f0, f1, hb0⟩
  case round =>
    obtain ⟨i, hi, rfl, rfl, g0, g1, hBr⟩ := hrel
    clear f0 f1
    by_cases hlt : i < n1
    · have e1 : wr.cell? ⟨b, off + i, none⟩ = some (.int .i64 (f.getD i 0)) := cell_be hBr (hcell i hlt)
      have e2 : wr.cell? ⟨b', off' + i, none⟩ = some (.int .i64 (xs.getD i 0)) := cell_be hBr (hcell' i (by omega))
      have hst : Hid (dotK p f xs 0 (i + 1) = (dotK p f xs 0 i + f.getD i 0 * xs.getD i 0) % p) := hide (by rw [dotK, Nat.add_zero])
      have r1 := getD_rng Hf.out hp i
      have r2 := getD_rng Hx.out hp i
      have r3 := dotK_rng hp f xs 0 i
      obtain ⟨x, hx⟩ : ∃ x, f.getD i 0 = x := ⟨_, rfl⟩
      obtain ⟨y, hy⟩ : ∃ y, xs.getD i 0 = y := ⟨_, rfl⟩
      obtain ⟨s, hs⟩ : ∃ s, dotK p f xs 0 i = s := ⟨_, rfl⟩
      rw [hx] at e1 hst r1
      rw [hy] at e2 hst r2
      rw [hs] at hst r3 ⊢
      clear hx hy hs hcell hcell'
      obtain ⟨m1, m2⟩ := mulb r1.1 r1.2 r2.1 r2.2 hp2
      have hlt' : (i : Int) < (n1 : Int) := by omega
      have hlt2 : (i : Int) < (n2 : Int) := by omega
      have v3 : IntKind.i64.wrap (x * y) = x * y := IntWalk.i64_in _ (by omega)
      have v4 : IntKind.i64.wrap (s + x * y) = s + x * y := IntWalk.i64_in _ (by omega)
      have v5 : (0 : Int) ≤ (i : Int) := by omega
      have v6 : (s + x * y).tmod p = (s + x * y) % p := Int.tmod_eq_emod_of_nonneg (by omega)
      go_wp2
      go_quiet (fail)
      clear v3 v4 v6
      go_wp2
      go_roundw
      case rel => exact ⟨i + 1, by omega, by go_num, by rw [hst.out], by simpa using g0, by simpa using g1, below_drewN hBr _⟩
      case measure => simp [intOf]; omega
    · have he : Hid (i = f.length) := hide (by rw [hl1.out]; omega)
      have hlt' : ¬ (i : Int) < (n1 : Int) := by omega
      clear hcell hcell'
      go_wp2
      go_ret
      exact ⟨ret_int (by rw [← he.out]), hBr⟩
theorem step_appH {w : World} {ops : Array Oper} {o : Oper} {a : Act} {K : Act → World → Prop} {Q : Exit → Act → World → Prop} {E : Prop}
    (hgd : o.guard = none) (s x : Operand) (ho : o.op = .call { callee := .builtin .append, args := #[s, x], argTypes := #[22, 22] })
    (B : Nat) (ad : Option Addr) (n cap : Nat) (ys : List Int) (hs : a.eval s = .slice ad n cap) (hn : n = ys.length) (hown : Own B w ad cap ys)
    (ax : Option Addr) (m c : Nat) (zs : List Int) (hx : a.eval x = .slice ax m c) (hz : SL w ax m c zs) (hmax : n + m ≤ 4000000) (hB : B ≤ w.heap.size)
    (hK : ∀ ad' cap' w', Own B w' ad' cap' (ys ++ zs) → w.grownBy w' (blk ad) → (blk ad' = blk ad ∨ blk ad' = some w.heap.size) → K (a.put o.dst (.slice ad' (ys ++ zs).length cap')) w') :
    if Region.wanted o (yielded ops a.tmps) = true then Oper.wp Try.prog o a w K Q else E := by
  have hw : Region.wanted o (yielded ops a.tmps) = true := by simp [Region.wanted, hgd]
  rw [if_pos hw]
  exact op_appG s x ho B ad n cap ys hs hn hown ax m c zs hx hz hmax hB hK
theorem row_step (H : Nat → Int) (N k : Nat) : (tab N (fun j => if j < k then H j else 0)).set k (H k) = tab N (fun j => if j < k + 1 then H j else 0) := by
  rw [tab_set]
  apply tab_congr
  intro j _
  by_cases e : j = k
  · subst e; rw [if_pos rfl, if_pos (by omega)]
  · rw [if_neg e]
    by_cases h : j < k
    · rw [if_pos h, if_pos (by omega)]
    · rw [if_neg h, if_neg (by omega)]
theorem rul_zero {p : Int} {xs : List Int} {n : Int} (hp : 2 ≤ p) (h : lisB p xs 0 n = true) (hn : n ≤ 24) (ha : ascB xs = true) : rulB p xs (tab xs.length (fun _ => 0)) = true := by
  obtain ⟨h1, h2, h3, h4⟩ := lisB_rng h
  have hz : areB p (tab xs.length (fun _ => (0 : Int))) = true := tab_are' fun j _ => by omega
  simp only [rulB, lisB, h1, h4, ha, hz, tab_len, Bool.and_true, Bool.true_and, Bool.and_eq_true, decide_eq_true_eq]
  omega
theorem asc_ne {xs : List Int} (h : ascB xs = true) : ∀ l m, l < xs.length → m < xs.length → l ≠ m → xs.getD l 0 ≠ xs.getD m 0 := by
  unfold ascB at h
  rw [decide_eq_true_eq, List.pairwise_iff_getElem] at h
  intro l m hl hm hlm
  rw [List.getD, List.getD, List.getElem?_eq_getElem hl, List.getElem?_eq_getElem hm]
  simp only [Option.getD_some]
  rcases Nat.lt_or_gt_of_ne hlm with q | q
  · have := h l m hl hm q; omega
  · have := h m l hm hl q; omega
theorem fr_of' {w w1 : World} {b o : Nat} {v : Value} (t : Below w.heap.size w w1) (h : w.cell? ⟨b, o, none⟩ = some v) (hf : w.frozen? ⟨b, o, none⟩ = false) : w1.frozen? ⟨b, o, none⟩ = false := (t.frozen (World.block_lt_of_cell? _ _ h)).trans hf
theorem oth_are {p : Int} {xs : List Int} (hp : 2 ≤ p) (h : areB p xs = true) (i : Nat) (hi : i < xs.length) : areB p (xs.take i ++ xs.drop (i + 1)) = true := areB_mk fun j _ => by
  rw [others_at xs i j hi]
  split <;> exact getD_rng h hp _
section
variable {u w : World} {q : Nat} {x y z v0 v1 v2 : Value} (hu : u = ((w.setCell ⟨q, 0, none⟩ x).setCell ⟨q, 1, none⟩ y).setCell ⟨q, 2, none⟩ z)
include hu
theorem m3S (d0 : w.cell? ⟨q, 0, none⟩ = some v0) (d1 : w.cell? ⟨q, 1, none⟩ = some v1) (d2 : w.cell? ⟨q, 2, none⟩ = some v2) : u.cell? ⟨q, 0, none⟩ = some x ∧ u.cell? ⟨q, 1, none⟩ = some y ∧ u.cell? ⟨q, 2, none⟩ = some z ∧ w.heap.size ≤ u.heap.size := by
  subst hu
  exact ⟨cell_set2' (cell_set2' (World.cell?_setCell_same _ _ _ d0) (by simp) _) (by simp) _, cell_set2' (World.cell?_setCell_same _ _ _ (cell_set2' d1 (by simp) _)) (by simp) _, World.cell?_setCell_same _ _ _ (cell_set2' (cell_set2' d2 (by simp) _) (by simp) _), by simp⟩
theorem m3O {B : Nat} {a : Option Addr} {c : Nat} {ys : List Int} (h : Own B w a c ys) (hne : blk a ≠ some q) : Own B u a c ys := by
  subst hu
  exact ((h.otherG hne _).otherG hne _).otherG hne _
theorem m3R {g : Nat} {ys : List Int} (h : RowI w g ys) (hne : q ≠ g) : RowI u g ys := by
  subst hu
  exact ((h.other hne _).other hne _).other hne _
theorem m3B {B : Nat} {w1 : World} (h : Below B w1 w) (hq : B ≤ q) : Below B w1 u := by
  subst hu
  exact ((h.setCell hq _).setCell hq _).setCell hq _
end
theorem m3Q {u w : World} {T : TypeId} (hu : u = w.alloc (.cells #[.int .i64 0, .slice none 0 0, .slice none 0 0] T)) : u.cell? ⟨w.heap.size, 0, none⟩ = some (.int .i64 0) ∧ u.cell? ⟨w.heap.size, 1, none⟩ = some (.slice none 0 0) ∧ u.cell? ⟨w.heap.size, 2, none⟩ = some (.slice none 0 0) ∧ u.frozen? ⟨w.heap.size, 0, none⟩ = false ∧ u.frozen? ⟨w.heap.size, 1, none⟩ = false ∧ u.frozen? ⟨w.heap.size, 2, none⟩ = false := by subst hu; exact ⟨by simp [go_sem], by simp [go_sem], by simp [go_sem], by simp [go_sem], by simp [go_sem], by simp [go_sem]⟩
theorem alW {u w : World} {o : Obj} (hu : u = w.alloc o) : Below w.heap.size w u ∧ w.heap.size < u.heap.size := by subst hu; exact ⟨bl1 _ _, by simp⟩
set_option maxRecDepth 100000 in
set_option maxHeartbeats 6400000 in
theorem specWeightsFor (p : Int) (a : Option Addr) (n c : Nat) (ms : List Int) (b : Option Addr) (m d : Nat) (xs : List Int) (w : World) (hs : SL w a n c ms) (ht : SL w b m d xs) (hn : n ≤ 4000000) (hm : m ≤ 4000000) :
    Calls Try.prog 12 #[mom p a n c, .slice b m d] w (ResJ w (wftP p ms xs) (wftV p ms xs) (wftU p ms xs) (wftC p ms xs)) := by
  have hl := hide hs.len
  have hl2 := hide ht.len
  have hb0 := bl2 w (.cells #[.int .i64 p, .slice a n c] 30) (.cells #[.int .i64 0, .slice none 0 0, .slice none 0 0] 27)
  have g1 := hs.below hb0
  have g2 := ht.below hb0
  cases hM : momB p ms
  · have HC := hide (show wftC p ms xs = 1 by simp [wftC, hM])
    have HE := hide (wft_err HC.out (by decide))
    have HM := hide hM
    clear hM
    go_enter Try.func12, Try.ntmps12
    go_wp2_with fail
    refine (l02Are_any _ _ _ _ _ _ g1 hn).mono ?_
    rintro e w2 ⟨rfl, hb1⟩
    rw [HM.out]
    have f0 : w2.cell? ⟨w.heap.size, 0, none⟩ = some (.int .i64 p) := cell_be hb1 (by simp [go_sem])
    have f1 : w2.cell? ⟨w.heap.size, 1, none⟩ = some (.slice a n c) := cell_be hb1 (by simp [go_sem])
    have r0 : w2.cell? ⟨w.heap.size + 1, 0, none⟩ = some (.int .i64 0) := cell_be hb1 (by simp [go_sem])
    have r1 : w2.cell? ⟨w.heap.size + 1, 1, none⟩ = some (.slice none 0 0) := cell_be hb1 (by simp [go_sem])
    have r2 : w2.cell? ⟨w.heap.size + 1, 2, none⟩ = some (.slice none 0 0) := cell_be hb1 (by simp [go_sem])
    have y0 : w2.frozen? ⟨w.heap.size + 1, 0, none⟩ = false := (hb1.frozen (by simp)).trans (by simp [go_sem])
    have y1 : w2.frozen? ⟨w.heap.size + 1, 1, none⟩ = false := (hb1.frozen (by simp)).trans (by simp [go_sem])
    have y2 : w2.frozen? ⟨w.heap.size + 1, 2, none⟩ = false := (hb1.frozen (by simp)).trans (by simp [go_sem])
    have hB2 := bnext hb0 hb1
    go_wp2
    refine bodyPost_ret (v := .tuple #[jac 0 none 0 0 none 0 0, .int .i64 1]) (by simp [results, Try.results12, go_sem, r0, r1, r2]) rfl ?_
    exact ResJ.nil HE.out.1 HE.out.2.1 HE.out.2.2 HC.out (((hB2.setCell (by simp) _).setCell (by simp) _).setCell (by simp) _)
  have HM := hide hM
  obtain ⟨hpr, n1, n2, hma⟩ := momB_rng hM
  obtain ⟨hp, hp2⟩ := primeB_lo hpr
  rw [hl.out] at n1 n2
  cases hR : rulB p xs (tab m (fun _ => 0))
  · have HC := hide (show wftC p ms xs = 2 by
      have : (lisB p xs 0 (n : Int) && ascB xs) = false := by
        rw [Bool.eq_false_iff]
        intro h
        rw [Bool.and_eq_true] at h
        have := rul_zero hp h.1 (by omega) h.2
        rw [hl2.out, hR] at this
        cases this
      simp [wftC, hM, hl.out, this])
    have HE := hide (wft_err HC.out (by decide))
    have HRul := hide hR
    clear hM hR
    go_enter Try.func12, Try.ntmps12
    go_wp2_with fail
    refine (l02Are_any _ _ _ _ _ _ g1 hn).mono ?_
    rintro e w2 ⟨rfl, hb1⟩
    rw [HM.out]
    have f0 : w2.cell? ⟨w.heap.size, 0, none⟩ = some (.int .i64 p) := cell_be hb1 (by simp [go_sem])
    have f1 : w2.cell? ⟨w.heap.size, 1, none⟩ = some (.slice a n c) := cell_be hb1 (by simp [go_sem])
    have r0 : w2.cell? ⟨w.heap.size + 1, 0, none⟩ = some (.int .i64 0) := cell_be hb1 (by simp [go_sem])
    have r1 : w2.cell? ⟨w.heap.size + 1, 1, none⟩ = some (.slice none 0 0) := cell_be hb1 (by simp [go_sem])
    have r2 : w2.cell? ⟨w.heap.size + 1, 2, none⟩ = some (.slice none 0 0) := cell_be hb1 (by simp [go_sem])
    have y0 : w2.frozen? ⟨w.heap.size + 1, 0, none⟩ = false := (hb1.frozen (by simp)).trans (by simp [go_sem])
    have y1 : w2.frozen? ⟨w.heap.size + 1, 1, none⟩ = false := (hb1.frozen (by simp)).trans (by simp [go_sem])
    have y2 : w2.frozen? ⟨w.heap.size + 1, 2, none⟩ = false := (hb1.frozen (by simp)).trans (by simp [go_sem])
    have hB2 := bnext hb0 hb1
    have HtB := hide (fun W (h : Below w2.heap.size w2 W) => (g2.below hb1).below h)
    have F : ∀ w', Below w2.heap.size w2 w' → w'.cell? ⟨w.heap.size, 0, none⟩ = some (.int .i64 p) := fun w' h => cell_be h f0
    have hmk := run_mk m (by omega)
    go_upto_region 3 with fail
    go_cut [6] (fun s6 wx => ∃ (q gW : Nat) (a' : Option Addr) (c' : Nat), s6 = .pointer (some ⟨q, 0, none⟩) ∧ Hid (wx.cell? ⟨q, 0, none⟩ = some (.int .i64 p) ∧ wx.cell? ⟨q, 1, none⟩ = some (.slice a' m c') ∧ wx.cell? ⟨q, 2, none⟩ = some (.slice (some ⟨gW, 0, none⟩) m m)) ∧ Hid (Own w2.heap.size wx a' c' xs) ∧ Hid (RowI wx gW (tab m (fun _ => 0))) ∧ Hid (q ≠ gW ∧ w2.heap.size ≤ q ∧ w2.heap.size ≤ gW ∧ ∀ g, blk a' = some g → g ≠ gW) ∧ Hid (Below w2.heap.size w2 wx))
    case first =>
      have hm := (Below.refl w2.heap.size w2).drew
      refine region_E (fun w' => w'.cell? ⟨w.heap.size, 0, none⟩ = some (.int .i64 p)) 100 (by kernel_rfl) (F _ hm) ?_
      intro hS
      refine anyE_takeH 0 rfl (by kernel_rfl) (fun _ _ _ h => h) hS (by rfl) (v := ?_) ?_ ?_
      rotate_left
      · intro w' hSw; (try dsimp only at hSw); go_simp; (try with_reducible rfl)
      try simp only [Act.put, List.setIfInBounds_toArray, List.set_cons_zero, List.set_cons_succ]
      refine anyE_takeH 1 rfl (by kernel_rfl) (fun _ _ _ h => h) hS (by rfl) (v := ?_) ?_ ?_
      rotate_left
      · intro w' hSw; (try dsimp only at hSw); go_simp; (try with_reducible rfl)
      try simp only [Act.put, List.setIfInBounds_toArray, List.set_cons_zero, List.set_cons_succ]
      refine anyE_takeH 2 rfl (by kernel_rfl) (fun _ _ _ h => h) hS (by rfl) (v := ?_) ?_ ?_
      rotate_left
      · intro w' hSw; (try dsimp only at hSw); go_simp; (try with_reducible rfl)
      try simp only [Act.put, List.setIfInBounds_toArray, List.set_cons_zero, List.set_cons_succ]
      refine anyE_takeH 4 rfl (by kernel_rfl) (fun _ _ _ h => h) hS (by rfl) (v := ?_) ?_ ?_
      rotate_left
      · intro w' hSw; (try dsimp only at hSw); go_simp; (try with_reducible rfl)
      try simp only [Act.put, List.setIfInBounds_toArray, List.set_cons_zero, List.set_cons_succ]
      refine anyE_takeH 5 rfl (by kernel_rfl) (fun _ _ _ h => h) hS (by rfl) (v := ?_) ?_ ?_
      rotate_left
      · intro w' hSw; (try dsimp only at hSw); go_simp; (try with_reducible rfl)
      try simp only [Act.put, List.setIfInBounds_toArray, List.set_cons_zero, List.set_cons_succ]
      clear hS
      obtain ⟨u0, hu0⟩ : ∃ u, u = w2.drew := ⟨_, rfl⟩
      rw [← hu0] at hm ⊢
      clear hu0
      have hz0 := hm.size
      refine anyE_3L 3 6 8 (by kernel_rfl) rfl rfl rfl (fun K' hK' => ?_) (fun K' hK' => ?_) (fun K' hK' => ?_)
      · go_simp
        refine (l01Own_any b m d xs _ (HtB.out _ hm) (by omega)).mono ?_
        rintro e u1 ⟨a', c', rfl, oN, lx⟩
        dsimp only
        have gS := own_blk_ge oN
        have gS2 := ownLt oN
        replace oN := oN.mono hm.size
        have yu1 := lx.size
        replace hm := bnext hm lx
        clear lx
        refine hK'.out _ _ (F _ hm) ?_
        clear hK' K'
        try simp only [Act.put, List.setIfInBounds_toArray, List.set_cons_zero, List.set_cons_succ]
        refine anyE_2L 6 8 (by kernel_rfl) rfl rfl (fun K' hK' => ?_) (fun K' hK' => ?_)
        · go_simp
          obtain ⟨u2, hu⟩ : ∃ u, u = u1.alloc (.cells (zrow m) 2) := ⟨_, rfl⟩
          have ⟨lx, yu2⟩ := alW hu
          replace oN := oN.below lx
          have rW := zrow_row u1 m
          rw [← hu] at rW
          rw [← hu]
          clear hu
          replace hm := bnext hm lx
          clear lx
          refine hK'.out _ _ (F _ hm) ?_
          clear hK' K'
          try simp only [Act.put, List.setIfInBounds_toArray, List.set_cons_zero, List.set_cons_succ]
          have hS2 := F _ hm
          refine anyE_takeH 7 rfl (by kernel_rfl) (fun _ _ _ h => h) hS2 (by rfl) (v := ?_) ?_ ?_
          rotate_left
          · intro w' hSw; (try dsimp only at hSw); go_simp; (try with_reducible rfl)
          try simp only [Act.put, List.setIfInBounds_toArray, List.set_cons_zero, List.set_cons_succ]
          clear hS2
          refine anyE_oneL 8 (by kernel_rfl) rfl (fun K' hK' => ?_)
          go_simp
          obtain ⟨u3, hu⟩ : ∃ u, u = u2.alloc (.cells #[.int .i64 0, .slice none 0 0, .slice none 0 0] 27) := ⟨_, rfl⟩
          have ⟨lx, yu3⟩ := alW hu
          replace oN := oN.below lx
          replace rW := rW.next lx
          have ⟨d0, d1, d2, e0, e1, e2⟩ := m3Q hu
          rw [← hu]
          clear hu
          replace hm := bnext hm lx
          clear lx
          refine hK'.out _ _ (F _ hm) ?_
          clear hK' K'
          try simp only [Act.put, List.setIfInBounds_toArray, List.set_cons_zero, List.set_cons_succ]
          refine anyE_oneL 9 (by kernel_rfl) rfl (fun K' hK' => ?_)
          go_simp
          obtain ⟨u4, hu⟩ : ∃ u, u = ((u3.setCell ⟨u2.heap.size, 0, none⟩ (.int .i64 p)).setCell ⟨u2.heap.size, 1, none⟩ (.slice a' m c')).setCell ⟨u2.heap.size, 2, none⟩ (.slice (some ⟨u1.heap.size, 0, none⟩) m m) := ⟨_, rfl⟩
          have ⟨c0, c1, c2, yu4⟩ := m3S hu d0 d1 d2
          have nq : ∀ g, blk a' = some g → g ≠ u2.heap.size ∧ g ≠ u1.heap.size := fun g h => by have := gS g h; have := gS2 g h; constructor <;> omega
          replace oN := m3O hu oN (fun h => (nq _ h).1 rfl)
          replace rW := m3R hu rW (by omega)
          replace hm := m3B hu hm (by omega)
          rw [← hu]
          clear hu d0 d1 d2 e0 e1 e2
          refine hK'.out _ _ (F _ hm) ?_
          clear hK' K'
          try simp only [Act.put, List.setIfInBounds_toArray, List.set_cons_zero, List.set_cons_succ]
          refine anyE_doneL (by kernel_rfl) ?_
          go_wp2_with fail
          go_meet
          exact ⟨u2.heap.size, u1.heap.size, a', c', rfl, hide ⟨c0, c1, c2⟩, hide oN, hide rW, hide ⟨by omega, by omega, by omega, fun g h => (nq g h).2⟩, hide hm⟩
        · go_simp
          obtain ⟨u5, hu⟩ : ∃ u, u = u1.alloc (.cells #[.int .i64 0, .slice none 0 0, .slice none 0 0] 27) := ⟨_, rfl⟩
          have ⟨lx, yu5⟩ := alW hu
          replace oN := oN.below lx
          have ⟨d0, d1, d2, e0, e1, e2⟩ := m3Q hu
          rw [← hu]
          clear hu
          replace hm := bnext hm lx
          clear lx
          refine hK'.out _ _ (F _ hm) ?_
          clear hK' K'
          try simp only [Act.put, List.setIfInBounds_toArray, List.set_cons_zero, List.set_cons_succ]
          refine anyE_oneL 6 (by kernel_rfl) rfl (fun K' hK' => ?_)
          go_simp
          obtain ⟨u6, hu⟩ : ∃ u, u = u5.alloc (.cells (zrow m) 2) := ⟨_, rfl⟩
          have ⟨lx, yu6⟩ := alW hu
          replace e0 := fr_of' lx d0 e0
          replace e1 := fr_of' lx d1 e1
          replace e2 := fr_of' lx d2 e2
          replace d0 := cell_be lx d0
          replace d1 := cell_be lx d1
          replace d2 := cell_be lx d2
          replace oN := oN.below lx
          have rW := zrow_row u5 m
          rw [← hu] at rW
          rw [← hu]
          clear hu
          replace hm := bnext hm lx
          clear lx
          refine hK'.out _ _ (F _ hm) ?_
          clear hK' K'
          try simp only [Act.put, List.setIfInBounds_toArray, List.set_cons_zero, List.set_cons_succ]
          have hS2 := F _ hm
          refine anyE_takeH 7 rfl (by kernel_rfl) (fun _ _ _ h => h) hS2 (by rfl) (v := ?_) ?_ ?_
          rotate_left
          · intro w' hSw; (try dsimp only at hSw); go_simp; (try with_reducible rfl)
          try simp only [Act.put, List.setIfInBounds_toArray, List.set_cons_zero, List.set_cons_succ]
          clear hS2
          refine anyE_oneL 9 (by kernel_rfl) rfl (fun K' hK' => ?_)
          go_simp
          obtain ⟨u7, hu⟩ : ∃ u, u = ((u6.setCell ⟨u1.heap.size, 0, none⟩ (.int .i64 p)).setCell ⟨u1.heap.size, 1, none⟩ (.slice a' m c')).setCell ⟨u1.heap.size, 2, none⟩ (.slice (some ⟨u5.heap.size, 0, none⟩) m m) := ⟨_, rfl⟩
          have ⟨c0, c1, c2, yu7⟩ := m3S hu d0 d1 d2
          have nq : ∀ g, blk a' = some g → g ≠ u1.heap.size ∧ g ≠ u5.heap.size := fun g h => by have := gS g h; have := gS2 g h; constructor <;> omega
          replace oN := m3O hu oN (fun h => (nq _ h).1 rfl)
          replace rW := m3R hu rW (by omega)
          replace hm := m3B hu hm (by omega)
          rw [← hu]
          clear hu d0 d1 d2 e0 e1 e2
          refine hK'.out _ _ (F _ hm) ?_
          clear hK' K'
          try simp only [Act.put, List.setIfInBounds_toArray, List.set_cons_zero, List.set_cons_succ]
          refine anyE_doneL (by kernel_rfl) ?_
          go_wp2_with fail
          go_meet
          exact ⟨u1.heap.size, u5.heap.size, a', c', rfl, hide ⟨c0, c1, c2⟩, hide oN, hide rW, hide ⟨by omega, by omega, by omega, fun g h => (nq g h).2⟩, hide hm⟩
      · go_simp
        obtain ⟨u8, hu⟩ : ∃ u, u = u0.alloc (.cells (zrow m) 2) := ⟨_, rfl⟩
        have ⟨lx, yu8⟩ := alW hu
        have rW := zrow_row u0 m
        rw [← hu] at rW
        rw [← hu]
        clear hu
        replace hm := bnext hm lx
        clear lx
        refine hK'.out _ _ (F _ hm) ?_
        clear hK' K'
        try simp only [Act.put, List.setIfInBounds_toArray, List.set_cons_zero, List.set_cons_succ]
        refine anyE_2L 3 8 (by kernel_rfl) rfl rfl (fun K' hK' => ?_) (fun K' hK' => ?_)
        · go_simp
          refine (l01Own_any b m d xs _ (HtB.out _ hm) (by omega)).mono ?_
          rintro e u9 ⟨a', c', rfl, oN, lx⟩
          dsimp only
          have gS := own_blk_ge oN
          have gS2 := ownLt oN
          replace oN := oN.mono hm.size
          have yu9 := lx.size
          replace rW := rW.next lx
          replace hm := bnext hm lx
          clear lx
          refine hK'.out _ _ (F _ hm) ?_
          clear hK' K'
          try simp only [Act.put, List.setIfInBounds_toArray, List.set_cons_zero, List.set_cons_succ]
          have hS2 := F _ hm
          refine anyE_takeH 7 rfl (by kernel_rfl) (fun _ _ _ h => h) hS2 (by rfl) (v := ?_) ?_ ?_
          rotate_left
          · intro w' hSw; (try dsimp only at hSw); go_simp; (try with_reducible rfl)
          try simp only [Act.put, List.setIfInBounds_toArray, List.set_cons_zero, List.set_cons_succ]
          clear hS2
          refine anyE_oneL 8 (by kernel_rfl) rfl (fun K' hK' => ?_)
          go_simp
          obtain ⟨u10, hu⟩ : ∃ u, u = u9.alloc (.cells #[.int .i64 0, .slice none 0 0, .slice none 0 0] 27) := ⟨_, rfl⟩
          have ⟨lx, yu10⟩ := alW hu
          replace oN := oN.below lx
          replace rW := rW.next lx
          have ⟨d0, d1, d2, e0, e1, e2⟩ := m3Q hu
          rw [← hu]
          clear hu
          replace hm := bnext hm lx
          clear lx
          refine hK'.out _ _ (F _ hm) ?_
          clear hK' K'
          try simp only [Act.put, List.setIfInBounds_toArray, List.set_cons_zero, List.set_cons_succ]
          refine anyE_oneL 9 (by kernel_rfl) rfl (fun K' hK' => ?_)
          go_simp
          obtain ⟨u11, hu⟩ : ∃ u, u = ((u10.setCell ⟨u9.heap.size, 0, none⟩ (.int .i64 p)).setCell ⟨u9.heap.size, 1, none⟩ (.slice a' m c')).setCell ⟨u9.heap.size, 2, none⟩ (.slice (some ⟨u0.heap.size, 0, none⟩) m m) := ⟨_, rfl⟩
          have ⟨c0, c1, c2, yu11⟩ := m3S hu d0 d1 d2
          have nq : ∀ g, blk a' = some g → g ≠ u9.heap.size ∧ g ≠ u0.heap.size := fun g h => by have := gS g h; have := gS2 g h; constructor <;> omega
          replace oN := m3O hu oN (fun h => (nq _ h).1 rfl)
          replace rW := m3R hu rW (by omega)
          replace hm := m3B hu hm (by omega)
          rw [← hu]
          clear hu d0 d1 d2 e0 e1 e2
          refine hK'.out _ _ (F _ hm) ?_
          clear hK' K'
          try simp only [Act.put, List.setIfInBounds_toArray, List.set_cons_zero, List.set_cons_succ]
          refine anyE_doneL (by kernel_rfl) ?_
          go_wp2_with fail
          go_meet
          exact ⟨u9.heap.size, u0.heap.size, a', c', rfl, hide ⟨c0, c1, c2⟩, hide oN, hide rW, hide ⟨by omega, by omega, by omega, fun g h => (nq g h).2⟩, hide hm⟩
        · go_simp
          obtain ⟨u12, hu⟩ : ∃ u, u = u8.alloc (.cells #[.int .i64 0, .slice none 0 0, .slice none 0 0] 27) := ⟨_, rfl⟩
          have ⟨lx, yu12⟩ := alW hu
          replace rW := rW.next lx
          have ⟨d0, d1, d2, e0, e1, e2⟩ := m3Q hu
          rw [← hu]
          clear hu
          replace hm := bnext hm lx
          clear lx
          refine hK'.out _ _ (F _ hm) ?_
          clear hK' K'
          try simp only [Act.put, List.setIfInBounds_toArray, List.set_cons_zero, List.set_cons_succ]
          refine anyE_oneL 3 (by kernel_rfl) rfl (fun K' hK' => ?_)
          go_simp
          refine (l01Own_any b m d xs _ (HtB.out _ hm) (by omega)).mono ?_
          rintro e u13 ⟨a', c', rfl, oN, lx⟩
          dsimp only
          have gS := own_blk_ge oN
          have gS2 := ownLt oN
          replace oN := oN.mono hm.size
          have yu13 := lx.size
          replace e0 := fr_of' lx d0 e0
          replace e1 := fr_of' lx d1 e1
          replace e2 := fr_of' lx d2 e2
          replace d0 := cell_be lx d0
          replace d1 := cell_be lx d1
          replace d2 := cell_be lx d2
          replace rW := rW.next lx
          replace hm := bnext hm lx
          clear lx
          refine hK'.out _ _ (F _ hm) ?_
          clear hK' K'
          try simp only [Act.put, List.setIfInBounds_toArray, List.set_cons_zero, List.set_cons_succ]
          have hS2 := F _ hm
          refine anyE_takeH 7 rfl (by kernel_rfl) (fun _ _ _ h => h) hS2 (by rfl) (v := ?_) ?_ ?_
          rotate_left
          · intro w' hSw; (try dsimp only at hSw); go_simp; (try with_reducible rfl)
          try simp only [Act.put, List.setIfInBounds_toArray, List.set_cons_zero, List.set_cons_succ]
          clear hS2
          refine anyE_oneL 9 (by kernel_rfl) rfl (fun K' hK' => ?_)
          go_simp
          obtain ⟨u14, hu⟩ : ∃ u, u = ((u13.setCell ⟨u8.heap.size, 0, none⟩ (.int .i64 p)).setCell ⟨u8.heap.size, 1, none⟩ (.slice a' m c')).setCell ⟨u8.heap.size, 2, none⟩ (.slice (some ⟨u0.heap.size, 0, none⟩) m m) := ⟨_, rfl⟩
          have ⟨c0, c1, c2, yu14⟩ := m3S hu d0 d1 d2
          have nq : ∀ g, blk a' = some g → g ≠ u8.heap.size ∧ g ≠ u0.heap.size := fun g h => by have := gS g h; have := gS2 g h; constructor <;> omega
          replace oN := m3O hu oN (fun h => (nq _ h).1 rfl)
          replace rW := m3R hu rW (by omega)
          replace hm := m3B hu hm (by omega)
          rw [← hu]
          clear hu d0 d1 d2 e0 e1 e2
          refine hK'.out _ _ (F _ hm) ?_
          clear hK' K'
          try simp only [Act.put, List.setIfInBounds_toArray, List.set_cons_zero, List.set_cons_succ]
          refine anyE_doneL (by kernel_rfl) ?_
          go_wp2_with fail
          go_meet
          exact ⟨u8.heap.size, u0.heap.size, a', c', rfl, hide ⟨c0, c1, c2⟩, hide oN, hide rW, hide ⟨by omega, by omega, by omega, fun g h => (nq g h).2⟩, hide hm⟩
      · go_simp
        obtain ⟨u15, hu⟩ : ∃ u, u = u0.alloc (.cells #[.int .i64 0, .slice none 0 0, .slice none 0 0] 27) := ⟨_, rfl⟩
        have ⟨lx, yu15⟩ := alW hu
        have ⟨d0, d1, d2, e0, e1, e2⟩ := m3Q hu
        rw [← hu]
        clear hu
        replace hm := bnext hm lx
        clear lx
        refine hK'.out _ _ (F _ hm) ?_
        clear hK' K'
        try simp only [Act.put, List.setIfInBounds_toArray, List.set_cons_zero, List.set_cons_succ]
        refine anyE_2L 3 6 (by kernel_rfl) rfl rfl (fun K' hK' => ?_) (fun K' hK' => ?_)
        · go_simp
          refine (l01Own_any b m d xs _ (HtB.out _ hm) (by omega)).mono ?_
          rintro e u16 ⟨a', c', rfl, oN, lx⟩
          dsimp only
          have gS := own_blk_ge oN
          have gS2 := ownLt oN
          replace oN := oN.mono hm.size
          have yu16 := lx.size
          replace e0 := fr_of' lx d0 e0
          replace e1 := fr_of' lx d1 e1
          replace e2 := fr_of' lx d2 e2
          replace d0 := cell_be lx d0
          replace d1 := cell_be lx d1
          replace d2 := cell_be lx d2
          replace hm := bnext hm lx
          clear lx
          refine hK'.out _ _ (F _ hm) ?_
          clear hK' K'
          try simp only [Act.put, List.setIfInBounds_toArray, List.set_cons_zero, List.set_cons_succ]
          refine anyE_oneL 6 (by kernel_rfl) rfl (fun K' hK' => ?_)
          go_simp
          obtain ⟨u17, hu⟩ : ∃ u, u = u16.alloc (.cells (zrow m) 2) := ⟨_, rfl⟩
          have ⟨lx, yu17⟩ := alW hu
          replace e0 := fr_of' lx d0 e0
          replace e1 := fr_of' lx d1 e1
          replace e2 := fr_of' lx d2 e2
          replace d0 := cell_be lx d0
          replace d1 := cell_be lx d1
          replace d2 := cell_be lx d2
          replace oN := oN.below lx
          have rW := zrow_row u16 m
          rw [← hu] at rW
          rw [← hu]
          clear hu
          replace hm := bnext hm lx
          clear lx
          refine hK'.out _ _ (F _ hm) ?_
          clear hK' K'
          try simp only [Act.put, List.setIfInBounds_toArray, List.set_cons_zero, List.set_cons_succ]
          have hS2 := F _ hm
          refine anyE_takeH 7 rfl (by kernel_rfl) (fun _ _ _ h => h) hS2 (by rfl) (v := ?_) ?_ ?_
          rotate_left
          · intro w' hSw; (try dsimp only at hSw); go_simp; (try with_reducible rfl)
          try simp only [Act.put, List.setIfInBounds_toArray, List.set_cons_zero, List.set_cons_succ]
          clear hS2
          refine anyE_oneL 9 (by kernel_rfl) rfl (fun K' hK' => ?_)
          go_simp
          obtain ⟨u18, hu⟩ : ∃ u, u = ((u17.setCell ⟨u0.heap.size, 0, none⟩ (.int .i64 p)).setCell ⟨u0.heap.size, 1, none⟩ (.slice a' m c')).setCell ⟨u0.heap.size, 2, none⟩ (.slice (some ⟨u16.heap.size, 0, none⟩) m m) := ⟨_, rfl⟩
          have ⟨c0, c1, c2, yu18⟩ := m3S hu d0 d1 d2
          have nq : ∀ g, blk a' = some g → g ≠ u0.heap.size ∧ g ≠ u16.heap.size := fun g h => by have := gS g h; have := gS2 g h; constructor <;> omega
          replace oN := m3O hu oN (fun h => (nq _ h).1 rfl)
          replace rW := m3R hu rW (by omega)
          replace hm := m3B hu hm (by omega)
          rw [← hu]
          clear hu d0 d1 d2 e0 e1 e2
          refine hK'.out _ _ (F _ hm) ?_
          clear hK' K'
          try simp only [Act.put, List.setIfInBounds_toArray, List.set_cons_zero, List.set_cons_succ]
          refine anyE_doneL (by kernel_rfl) ?_
          go_wp2_with fail
          go_meet
          exact ⟨u0.heap.size, u16.heap.size, a', c', rfl, hide ⟨c0, c1, c2⟩, hide oN, hide rW, hide ⟨by omega, by omega, by omega, fun g h => (nq g h).2⟩, hide hm⟩
        · go_simp
          obtain ⟨u19, hu⟩ : ∃ u, u = u15.alloc (.cells (zrow m) 2) := ⟨_, rfl⟩
          have ⟨lx, yu19⟩ := alW hu
          replace e0 := fr_of' lx d0 e0
          replace e1 := fr_of' lx d1 e1
          replace e2 := fr_of' lx d2 e2
          replace d0 := cell_be lx d0
          replace d1 := cell_be lx d1
          replace d2 := cell_be lx d2
          have rW := zrow_row u15 m
          rw [← hu] at rW
          rw [← hu]
          clear hu
          replace hm := bnext hm lx
          clear lx
          refine hK'.out _ _ (F _ hm) ?_
          clear hK' K'
          try simp only [Act.put, List.setIfInBounds_toArray, List.set_cons_zero, List.set_cons_succ]
          refine anyE_oneL 3 (by kernel_rfl) rfl (fun K' hK' => ?_)
          go_simp
          refine (l01Own_any b m d xs _ (HtB.out _ hm) (by omega)).mono ?_
          rintro e u20 ⟨a', c', rfl, oN, lx⟩
          dsimp only
          have gS := own_blk_ge oN
          have gS2 := ownLt oN
          replace oN := oN.mono hm.size
          have yu20 := lx.size
          replace e0 := fr_of' lx d0 e0
          replace e1 := fr_of' lx d1 e1
          replace e2 := fr_of' lx d2 e2
          replace d0 := cell_be lx d0
          replace d1 := cell_be lx d1
          replace d2 := cell_be lx d2
          replace rW := rW.next lx
          replace hm := bnext hm lx
          clear lx
          refine hK'.out _ _ (F _ hm) ?_
          clear hK' K'
          try simp only [Act.put, List.setIfInBounds_toArray, List.set_cons_zero, List.set_cons_succ]
          have hS2 := F _ hm
          refine anyE_takeH 7 rfl (by kernel_rfl) (fun _ _ _ h => h) hS2 (by rfl) (v := ?_) ?_ ?_
          rotate_left
          · intro w' hSw; (try dsimp only at hSw); go_simp; (try with_reducible rfl)
          try simp only [Act.put, List.setIfInBounds_toArray, List.set_cons_zero, List.set_cons_succ]
          clear hS2
          refine anyE_oneL 9 (by kernel_rfl) rfl (fun K' hK' => ?_)
          go_simp
          obtain ⟨u21, hu⟩ : ∃ u, u = ((u20.setCell ⟨u0.heap.size, 0, none⟩ (.int .i64 p)).setCell ⟨u0.heap.size, 1, none⟩ (.slice a' m c')).setCell ⟨u0.heap.size, 2, none⟩ (.slice (some ⟨u15.heap.size, 0, none⟩) m m) := ⟨_, rfl⟩
          have ⟨c0, c1, c2, yu21⟩ := m3S hu d0 d1 d2
          have nq : ∀ g, blk a' = some g → g ≠ u0.heap.size ∧ g ≠ u15.heap.size := fun g h => by have := gS g h; have := gS2 g h; constructor <;> omega
          replace oN := m3O hu oN (fun h => (nq _ h).1 rfl)
          replace rW := m3R hu rW (by omega)
          replace hm := m3B hu hm (by omega)
          rw [← hu]
          clear hu d0 d1 d2 e0 e1 e2
          refine hK'.out _ _ (F _ hm) ?_
          clear hK' K'
          try simp only [Act.put, List.setIfInBounds_toArray, List.set_cons_zero, List.set_cons_succ]
          refine anyE_doneL (by kernel_rfl) ?_
          go_wp2_with fail
          go_meet
          exact ⟨u0.heap.size, u15.heap.size, a', c', rfl, hide ⟨c0, c1, c2⟩, hide oN, hide rW, hide ⟨by omega, by omega, by omega, fun g h => (nq g h).2⟩, hide hm⟩
    case rest =>
      obtain ⟨q, gW, a', c', rfl, hC, hN, hR, hD, hmm⟩ := hcut
      obtain ⟨w3, hw3⟩ : ∃ w3, w3 = wc := ⟨wc, rfl⟩
      subst hw3
      obtain ⟨c0, c1, c2⟩ := hC.out
      have hsN := Own.sl hN.out
      rw [hl2.out] at hsN
      have hsW := hR.out.slN (tab_len m _)
      go_wp2_with fail
      refine (l07Is_any p a' m c' xs _ m m (tab m (fun _ => 0)) _ hsN hsW (by omega) (by omega)).mono ?_
      rintro e w4 ⟨rfl, hb4⟩
      rw [HRul.out]
      have hB4 : Below w2.heap.size w2 w4 := bnext hmm.out hb4
      have R2 := hide (And.intro f0 (And.intro f1 (And.intro r0 (And.intro r1 (And.intro r2 (And.intro y0 (And.intro y1 y2)))))))
      replace y0 := (hB4.frozen (World.block_lt_of_cell? _ _ r0)).trans y0
      replace y1 := (hB4.frozen (World.block_lt_of_cell? _ _ r1)).trans y1
      replace y2 := (hB4.frozen (World.block_lt_of_cell? _ _ r2)).trans y2
      replace f0 := cell_be hB4 f0
      replace f1 := cell_be hB4 f1
      replace r0 := cell_be hB4 r0
      replace r1 := cell_be hB4 r1
      replace r2 := cell_be hB4 r2
      have hB5 := bnext hB2 hB4
      go_wp2
      refine bodyPost_ret (v := .tuple #[jac 0 none 0 0 none 0 0, .int .i64 2]) (by simp [results, Try.results12, go_sem, r0, r1, r2]) rfl ?_
      exact ResJ.nil HE.out.1 HE.out.2.1 HE.out.2.2 HC.out (((hB5.setCell (by simp) _).setCell (by simp) _).setCell (by simp) _)
  have HRul := hide hR
  obtain ⟨_, m24, _, hxa, _, hasc⟩ := rulB_rng hR
  rw [hl2.out] at m24
  by_cases hgt : n < m
  · have HC := hide (show wftC p ms xs = 2 by
      have : lisB p xs 0 (n : Int) = false := by
        rw [Bool.eq_false_iff]
        intro h
        have := (lisB_rng h).2.2.1
        rw [hl2.out] at this
        omega
      simp [wftC, hM, hl.out, this])
    have HE := hide (wft_err HC.out (by decide))
    have hgt' : (n : Int) < (m : Int) := by omega
    clear hM hR hgt
    go_enter Try.func12, Try.ntmps12
    go_wp2_with fail
    refine (l02Are_any _ _ _ _ _ _ g1 hn).mono ?_
    rintro e w2 ⟨rfl, hb1⟩
    rw [HM.out]
    have f0 : w2.cell? ⟨w.heap.size, 0, none⟩ = some (.int .i64 p) := cell_be hb1 (by simp [go_sem])
    have f1 : w2.cell? ⟨w.heap.size, 1, none⟩ = some (.slice a n c) := cell_be hb1 (by simp [go_sem])
    have r0 : w2.cell? ⟨w.heap.size + 1, 0, none⟩ = some (.int .i64 0) := cell_be hb1 (by simp [go_sem])
    have r1 : w2.cell? ⟨w.heap.size + 1, 1, none⟩ = some (.slice none 0 0) := cell_be hb1 (by simp [go_sem])
    have r2 : w2.cell? ⟨w.heap.size + 1, 2, none⟩ = some (.slice none 0 0) := cell_be hb1 (by simp [go_sem])
    have y0 : w2.frozen? ⟨w.heap.size + 1, 0, none⟩ = false := (hb1.frozen (by simp)).trans (by simp [go_sem])
    have y1 : w2.frozen? ⟨w.heap.size + 1, 1, none⟩ = false := (hb1.frozen (by simp)).trans (by simp [go_sem])
    have y2 : w2.frozen? ⟨w.heap.size + 1, 2, none⟩ = false := (hb1.frozen (by simp)).trans (by simp [go_sem])
    have hB2 := bnext hb0 hb1
    have HtB := hide (fun W (h : Below w2.heap.size w2 W) => (g2.below hb1).below h)
    have F : ∀ w', Below w2.heap.size w2 w' → w'.cell? ⟨w.heap.size, 0, none⟩ = some (.int .i64 p) := fun w' h => cell_be h f0
    have hmk := run_mk m (by omega)
    go_upto_region 3 with fail
    go_cut [6] (fun s6 wx => ∃ (q gW : Nat) (a' : Option Addr) (c' : Nat), s6 = .pointer (some ⟨q, 0, none⟩) ∧ Hid (wx.cell? ⟨q, 0, none⟩ = some (.int .i64 p) ∧ wx.cell? ⟨q, 1, none⟩ = some (.slice a' m c') ∧ wx.cell? ⟨q, 2, none⟩ = some (.slice (some ⟨gW, 0, none⟩) m m)) ∧ Hid (Own w2.heap.size wx a' c' xs) ∧ Hid (RowI wx gW (tab m (fun _ => 0))) ∧ Hid (q ≠ gW ∧ w2.heap.size ≤ q ∧ w2.heap.size ≤ gW ∧ ∀ g, blk a' = some g → g ≠ gW) ∧ Hid (Below w2.heap.size w2 wx))
    case first =>
      have hm := (Below.refl w2.heap.size w2).drew
      refine region_E (fun w' => w'.cell? ⟨w.heap.size, 0, none⟩ = some (.int .i64 p)) 100 (by kernel_rfl) (F _ hm) ?_
      intro hS
      refine anyE_takeH 0 rfl (by kernel_rfl) (fun _ _ _ h => h) hS (by rfl) (v := ?_) ?_ ?_
      rotate_left
      · intro w' hSw; (try dsimp only at hSw); go_simp; (try with_reducible rfl)
      try simp only [Act.put, List.setIfInBounds_toArray, List.set_cons_zero, List.set_cons_succ]
      refine anyE_takeH 1 rfl (by kernel_rfl) (fun _ _ _ h => h) hS (by rfl) (v := ?_) ?_ ?_
      rotate_left
      · intro w' hSw; (try dsimp only at hSw); go_simp; (try with_reducible rfl)
      try simp only [Act.put, List.setIfInBounds_toArray, List.set_cons_zero, List.set_cons_succ]
      refine anyE_takeH 2 rfl (by kernel_rfl) (fun _ _ _ h => h) hS (by rfl) (v := ?_) ?_ ?_
      rotate_left
      · intro w' hSw; (try dsimp only at hSw); go_simp; (try with_reducible rfl)
      try simp only [Act.put, List.setIfInBounds_toArray, List.set_cons_zero, List.set_cons_succ]
      refine anyE_takeH 4 rfl (by kernel_rfl) (fun _ _ _ h => h) hS (by rfl) (v := ?_) ?_ ?_
      rotate_left
      · intro w' hSw; (try dsimp only at hSw); go_simp; (try with_reducible rfl)
      try simp only [Act.put, List.setIfInBounds_toArray, List.set_cons_zero, List.set_cons_succ]
      refine anyE_takeH 5 rfl (by kernel_rfl) (fun _ _ _ h => h) hS (by rfl) (v := ?_) ?_ ?_
      rotate_left
      · intro w' hSw; (try dsimp only at hSw); go_simp; (try with_reducible rfl)
      try simp only [Act.put, List.setIfInBounds_toArray, List.set_cons_zero, List.set_cons_succ]
      clear hS
      obtain ⟨u0, hu0⟩ : ∃ u, u = w2.drew := ⟨_, rfl⟩
      rw [← hu0] at hm ⊢
      clear hu0
      have hz0 := hm.size
      refine anyE_3L 3 6 8 (by kernel_rfl) rfl rfl rfl (fun K' hK' => ?_) (fun K' hK' => ?_) (fun K' hK' => ?_)
      · go_simp
        refine (l01Own_any b m d xs _ (HtB.out _ hm) (by omega)).mono ?_
        rintro e u1 ⟨a', c', rfl, oN, lx⟩
        dsimp only
        have gS := own_blk_ge oN
        have gS2 := ownLt oN
        replace oN := oN.mono hm.size
        have yu1 := lx.size
        replace hm := bnext hm lx
        clear lx
        refine hK'.out _ _ (F _ hm) ?_
        clear hK' K'
        try simp only [Act.put, List.setIfInBounds_toArray, List.set_cons_zero, List.set_cons_succ]
        refine anyE_2L 6 8 (by kernel_rfl) rfl rfl (fun K' hK' => ?_) (fun K' hK' => ?_)
        · go_simp
          obtain ⟨u2, hu⟩ : ∃ u, u = u1.alloc (.cells (zrow m) 2) := ⟨_, rfl⟩
          have ⟨lx, yu2⟩ := alW hu
          replace oN := oN.below lx
          have rW := zrow_row u1 m
          rw [← hu] at rW
          rw [← hu]
          clear hu
          replace hm := bnext hm lx
          clear lx
          refine hK'.out _ _ (F _ hm) ?_
          clear hK' K'
          try simp only [Act.put, List.setIfInBounds_toArray, List.set_cons_zero, List.set_cons_succ]
          have hS2 := F _ hm
          refine anyE_takeH 7 rfl (by kernel_rfl) (fun _ _ _ h => h) hS2 (by rfl) (v := ?_) ?_ ?_
          rotate_left
          · intro w' hSw; (try dsimp only at hSw); go_simp; (try with_reducible rfl)
          try simp only [Act.put, List.setIfInBounds_toArray, List.set_cons_zero, List.set_cons_succ]
          clear hS2
          refine anyE_oneL 8 (by kernel_rfl) rfl (fun K' hK' => ?_)
          go_simp
          obtain ⟨u3, hu⟩ : ∃ u, u = u2.alloc (.cells #[.int .i64 0, .slice none 0 0, .slice none 0 0] 27) := ⟨_, rfl⟩
          have ⟨lx, yu3⟩ := alW hu
          replace oN := oN.below lx
          replace rW := rW.next lx
          have ⟨d0, d1, d2, e0, e1, e2⟩ := m3Q hu
          rw [← hu]
          clear hu
          replace hm := bnext hm lx
          clear lx
          refine hK'.out _ _ (F _ hm) ?_
          clear hK' K'
          try simp only [Act.put, List.setIfInBounds_toArray, List.set_cons_zero, List.set_cons_succ]
          refine anyE_oneL 9 (by kernel_rfl) rfl (fun K' hK' => ?_)
          go_simp
          obtain ⟨u4, hu⟩ : ∃ u, u = ((u3.setCell ⟨u2.heap.size, 0, none⟩ (.int .i64 p)).setCell ⟨u2.heap.size, 1, none⟩ (.slice a' m c')).setCell ⟨u2.heap.size, 2, none⟩ (.slice (some ⟨u1.heap.size, 0, none⟩) m m) := ⟨_, rfl⟩
          have ⟨c0, c1, c2, yu4⟩ := m3S hu d0 d1 d2
          have nq : ∀ g, blk a' = some g → g ≠ u2.heap.size ∧ g ≠ u1.heap.size := fun g h => by have := gS g h; have := gS2 g h; constructor <;> omega
          replace oN := m3O hu oN (fun h => (nq _ h).1 rfl)
          replace rW := m3R hu rW (by omega)
          replace hm := m3B hu hm (by omega)
          rw [← hu]
          clear hu d0 d1 d2 e0 e1 e2
          refine hK'.out _ _ (F _ hm) ?_
          clear hK' K'
          try simp only [Act.put, List.setIfInBounds_toArray, List.set_cons_zero, List.set_cons_succ]
          refine anyE_doneL (by kernel_rfl) ?_
          go_wp2_with fail
          go_meet
          exact ⟨u2.heap.size, u1.heap.size, a', c', rfl, hide ⟨c0, c1, c2⟩, hide oN, hide rW, hide ⟨by omega, by omega, by omega, fun g h => (nq g h).2⟩, hide hm⟩
        · go_simp
          obtain ⟨u5, hu⟩ : ∃ u, u = u1.alloc (.cells #[.int .i64 0, .slice none 0 0, .slice none 0 0] 27) := ⟨_, rfl⟩
          have ⟨lx, yu5⟩ := alW hu
          replace oN := oN.below lx
          have ⟨d0, d1, d2, e0, e1, e2⟩ := m3Q hu
          rw [← hu]
          clear hu
          replace hm := bnext hm lx
          clear lx
          refine hK'.out _ _ (F _ hm) ?_
          clear hK' K'
          try simp only [Act.put, List.setIfInBounds_toArray, List.set_cons_zero, List.set_cons_succ]
          refine anyE_oneL 6 (by kernel_rfl) rfl (fun K' hK' => ?_)
          go_simp
          obtain ⟨u6, hu⟩ : ∃ u, u = u5.alloc (.cells (zrow m) 2) := ⟨_, rfl⟩
          have ⟨lx, yu6⟩ := alW hu
          replace e0 := fr_of' lx d0 e0
          replace e1 := fr_of' lx d1 e1
          replace e2 := fr_of' lx d2 e2
          replace d0 := cell_be lx d0
          replace d1 := cell_be lx d1
          replace d2 := cell_be lx d2
          replace oN := oN.below lx
          have rW := zrow_row u5 m
          rw [← hu] at rW
          rw [← hu]
          clear hu
          replace hm := bnext hm lx
          clear lx
          refine hK'.out _ _ (F _ hm) ?_
          clear hK' K'
          try simp only [Act.put, List.setIfInBounds_toArray, List.set_cons_zero, List.set_cons_succ]
          have hS2 := F _ hm
          refine anyE_takeH 7 rfl (by kernel_rfl) (fun _ _ _ h => h) hS2 (by rfl) (v := ?_) ?_ ?_
          rotate_left
          · intro w' hSw; (try dsimp only at hSw); go_simp; (try with_reducible rfl)
          try simp only [Act.put, List.setIfInBounds_toArray, List.set_cons_zero, List.set_cons_succ]
          clear hS2
          refine anyE_oneL 9 (by kernel_rfl) rfl (fun K' hK' => ?_)
          go_simp
          obtain ⟨u7, hu⟩ : ∃ u, u = ((u6.setCell ⟨u1.heap.size, 0, none⟩ (.int .i64 p)).setCell ⟨u1.heap.size, 1, none⟩ (.slice a' m c')).setCell ⟨u1.heap.size, 2, none⟩ (.slice (some ⟨u5.heap.size, 0, none⟩) m m) := ⟨_, rfl⟩
          have ⟨c0, c1, c2, yu7⟩ := m3S hu d0 d1 d2
          have nq : ∀ g, blk a' = some g → g ≠ u1.heap.size ∧ g ≠ u5.heap.size := fun g h => by have := gS g h; have := gS2 g h; constructor <;> omega
          replace oN := m3O hu oN (fun h => (nq _ h).1 rfl)
          replace rW := m3R hu rW (by omega)
          replace hm := m3B hu hm (by omega)
          rw [← hu]
          clear hu d0 d1 d2 e0 e1 e2
          refine hK'.out _ _ (F _ hm) ?_
          clear hK' K'
          try simp only [Act.put, List.setIfInBounds_toArray, List.set_cons_zero, List.set_cons_succ]
          refine anyE_doneL (by kernel_rfl) ?_
          go_wp2_with fail
          go_meet
          exact ⟨u1.heap.size, u5.heap.size, a', c', rfl, hide ⟨c0, c1, c2⟩, hide oN, hide rW, hide ⟨by omega, by omega, by omega, fun g h => (nq g h).2⟩, hide hm⟩
      · go_simp
        obtain ⟨u8, hu⟩ : ∃ u, u = u0.alloc (.cells (zrow m) 2) := ⟨_, rfl⟩
        have ⟨lx, yu8⟩ := alW hu
        have rW := zrow_row u0 m
        rw [← hu] at rW
        rw [← hu]
        clear hu
        replace hm := bnext hm lx
        clear lx
        refine hK'.out _ _ (F _ hm) ?_
        clear hK' K'
        try simp only [Act.put, List.setIfInBounds_toArray, List.set_cons_zero, List.set_cons_succ]
        refine anyE_2L 3 8 (by kernel_rfl) rfl rfl (fun K' hK' => ?_) (fun K' hK' => ?_)
        · go_simp
          refine (l01Own_any b m d xs _ (HtB.out _ hm) (by omega)).mono ?_
          rintro e u9 ⟨a', c', rfl, oN, lx⟩
          dsimp only
          have gS := own_blk_ge oN
          have gS2 := ownLt oN
          replace oN := oN.mono hm.size
          have yu9 := lx.size
          replace rW := rW.next lx
          replace hm := bnext hm lx
          clear lx
          refine hK'.out _ _ (F _ hm) ?_
          clear hK' K'
          try simp only [Act.put, List.setIfInBounds_toArray, List.set_cons_zero, List.set_cons_succ]
          have hS2 := F _ hm
          refine anyE_takeH 7 rfl (by kernel_rfl) (fun _ _ _ h => h) hS2 (by rfl) (v := ?_) ?_ ?_
          rotate_left
          · intro w' hSw; (try dsimp only at hSw); go_simp; (try with_reducible rfl)
          try simp only [Act.put, List.setIfInBounds_toArray, List.set_cons_zero, List.set_cons_succ]
          clear hS2
          refine anyE_oneL 8 (by kernel_rfl) rfl (fun K' hK' => ?_)
          go_simp
          obtain ⟨u10, hu⟩ : ∃ u, u = u9.alloc (.cells #[.int .i64 0, .slice none 0 0, .slice none 0 0] 27) := ⟨_, rfl⟩
          have ⟨lx, yu10⟩ := alW hu
          replace oN := oN.below lx
          replace rW := rW.next lx
          have ⟨d0, d1, d2, e0, e1, e2⟩ := m3Q hu
          rw [← hu]
          clear hu
          replace hm := bnext hm lx
          clear lx
          refine hK'.out _ _ (F _ hm) ?_
          clear hK' K'
          try simp only [Act.put, List.setIfInBounds_toArray, List.set_cons_zero, List.set_cons_succ]
          refine anyE_oneL 9 (by kernel_rfl) rfl (fun K' hK' => ?_)
          go_simp
          obtain ⟨u11, hu⟩ : ∃ u, u = ((u10.setCell ⟨u9.heap.size, 0, none⟩ (.int .i64 p)).setCell ⟨u9.heap.size, 1, none⟩ (.slice a' m c')).setCell ⟨u9.heap.size, 2, none⟩ (.slice (some ⟨u0.heap.size, 0, none⟩) m m) := ⟨_, rfl⟩
          have ⟨c0, c1, c2, yu11⟩ := m3S hu d0 d1 d2
          have nq : ∀ g, blk a' = some g → g ≠ u9.heap.size ∧ g ≠ u0.heap.size := fun g h => by have := gS g h; have := gS2 g h; constructor <;> omega
          replace oN := m3O hu oN (fun h => (nq _ h).1 rfl)
          replace rW := m3R hu rW (by omega)
          replace hm := m3B hu hm (by omega)
          rw [← hu]
          clear hu d0 d1 d2 e0 e1 e2
          refine hK'.out _ _ (F _ hm) ?_
          clear hK' K'
          try simp only [Act.put, List.setIfInBounds_toArray, List.set_cons_zero, List.set_cons_succ]
          refine anyE_doneL (by kernel_rfl) ?_
          go_wp2_with fail
          go_meet
          exact ⟨u9.heap.size, u0.heap.size, a', c', rfl, hide ⟨c0, c1, c2⟩, hide oN, hide rW, hide ⟨by omega, by omega, by omega, fun g h => (nq g h).2⟩, hide hm⟩
        · go_simp
          obtain ⟨u12, hu⟩ : ∃ u, u = u8.alloc (.cells #[.int .i64 0, .slice none 0 0, .slice none 0 0] 27) := ⟨_, rfl⟩
          have ⟨lx, yu12⟩ := alW hu
          replace rW := rW.next lx
          have ⟨d0, d1, d2, e0, e1, e2⟩ := m3Q hu
          rw [← hu]
          clear hu
          replace hm := bnext hm lx
          clear lx
          refine hK'.out _ _ (F _ hm) ?_
          clear hK' K'
          try simp only [Act.put, List.setIfInBounds_toArray, List.set_cons_zero, List.set_cons_succ]
          refine anyE_oneL 3 (by kernel_rfl) rfl (fun K' hK' => ?_)
          go_simp
          refine (l01Own_any b m d xs _ (HtB.out _ hm) (by omega)).mono ?_
          rintro e u13 ⟨a', c', rfl, oN, lx⟩
          dsimp only
          have gS := own_blk_ge oN
          have gS2 := ownLt oN
          replace oN := oN.mono hm.size
          have yu13 := lx.size
          replace e0 := fr_of' lx d0 e0
          replace e1 := fr_of' lx d1 e1
          replace e2 := fr_of' lx d2 e2
          replace d0 := cell_be lx d0
          replace d1 := cell_be lx d1
          replace d2 := cell_be lx d2
          replace rW := rW.next lx
          replace hm := bnext hm lx
          clear lx
          refine hK'.out _ _ (F _ hm) ?_
          clear hK' K'
          try simp only [Act.put, List.setIfInBounds_toArray, List.set_cons_zero, List.set_cons_succ]
          have hS2 := F _ hm
          refine anyE_takeH 7 rfl (by kernel_rfl) (fun _ _ _ h => h) hS2 (by rfl) (v := ?_) ?_ ?_
          rotate_left
          · intro w' hSw; (try dsimp only at hSw); go_simp; (try with_reducible rfl)
          try simp only [Act.put, List.setIfInBounds_toArray, List.set_cons_zero, List.set_cons_succ]
          clear hS2
          refine anyE_oneL 9 (by kernel_rfl) rfl (fun K' hK' => ?_)
          go_simp
          obtain ⟨u14, hu⟩ : ∃ u, u = ((u13.setCell ⟨u8.heap.size, 0, none⟩ (.int .i64 p)).setCell ⟨u8.heap.size, 1, none⟩ (.slice a' m c')).setCell ⟨u8.heap.size, 2, none⟩ (.slice (some ⟨u0.heap.size, 0, none⟩) m m) := ⟨_, rfl⟩
          have ⟨c0, c1, c2, yu14⟩ := m3S hu d0 d1 d2
          have nq : ∀ g, blk a' = some g → g ≠ u8.heap.size ∧ g ≠ u0.heap.size := fun g h => by have := gS g h; have := gS2 g h; constructor <;> omega
          replace oN := m3O hu oN (fun h => (nq _ h).1 rfl)
          replace rW := m3R hu rW (by omega)
          replace hm := m3B hu hm (by omega)
          rw [← hu]
          clear hu d0 d1 d2 e0 e1 e2
          refine hK'.out _ _ (F _ hm) ?_
          clear hK' K'
          try simp only [Act.put, List.setIfInBounds_toArray, List.set_cons_zero, List.set_cons_succ]
          refine anyE_doneL (by kernel_rfl) ?_
          go_wp2_with fail
          go_meet
          exact ⟨u8.heap.size, u0.heap.size, a', c', rfl, hide ⟨c0, c1, c2⟩, hide oN, hide rW, hide ⟨by omega, by omega, by omega, fun g h => (nq g h).2⟩, hide hm⟩
      · go_simp
        obtain ⟨u15, hu⟩ : ∃ u, u = u0.alloc (.cells #[.int .i64 0, .slice none 0 0, .slice none 0 0] 27) := ⟨_, rfl⟩
        have ⟨lx, yu15⟩ := alW hu
        have ⟨d0, d1, d2, e0, e1, e2⟩ := m3Q hu
        rw [← hu]
        clear hu
        replace hm := bnext hm lx
        clear lx
        refine hK'.out _ _ (F _ hm) ?_
        clear hK' K'
        try simp only [Act.put, List.setIfInBounds_toArray, List.set_cons_zero, List.set_cons_succ]
        refine anyE_2L 3 6 (by kernel_rfl) rfl rfl (fun K' hK' => ?_) (fun K' hK' => ?_)
        · go_simp
          refine (l01Own_any b m d xs _ (HtB.out _ hm) (by omega)).mono ?_
          rintro e u16 ⟨a', c', rfl, oN, lx⟩
          dsimp only
          have gS := own_blk_ge oN
          have gS2 := ownLt oN
          replace oN := oN.mono hm.size
          have yu16 := lx.size
          replace e0 := fr_of' lx d0 e0
          replace e1 := fr_of' lx d1 e1
          replace e2 := fr_of' lx d2 e2
          replace d0 := cell_be lx d0
          replace d1 := cell_be lx d1
          replace d2 := cell_be lx d2
          replace hm := bnext hm lx
          clear lx
          refine hK'.out _ _ (F _ hm) ?_
          clear hK' K'
          try simp only [Act.put, List.setIfInBounds_toArray, List.set_cons_zero, List.set_cons_succ]
          refine anyE_oneL 6 (by kernel_rfl) rfl (fun K' hK' => ?_)
          go_simp
          obtain ⟨u17, hu⟩ : ∃ u, u = u16.alloc (.cells (zrow m) 2) := ⟨_, rfl⟩
          have ⟨lx, yu17⟩ := alW hu
          replace e0 := fr_of' lx d0 e0
          replace e1 := fr_of' lx d1 e1
          replace e2 := fr_of' lx d2 e2
          replace d0 := cell_be lx d0
          replace d1 := cell_be lx d1
          replace d2 := cell_be lx d2
          replace oN := oN.below lx
          have rW := zrow_row u16 m
          rw [← hu] at rW
          rw [← hu]
          clear hu
          replace hm := bnext hm lx
          clear lx
          refine hK'.out _ _ (F _ hm) ?_
          clear hK' K'
          try simp only [Act.put, List.setIfInBounds_toArray, List.set_cons_zero, List.set_cons_succ]
          have hS2 := F _ hm
          refine anyE_takeH 7 rfl (by kernel_rfl) (fun _ _ _ h => h) hS2 (by rfl) (v := ?_) ?_ ?_
          rotate_left
          · intro w' hSw; (try dsimp only at hSw); go_simp; (try with_reducible rfl)
          try simp only [Act.put, List.setIfInBounds_toArray, List.set_cons_zero, List.set_cons_succ]
          clear hS2
          refine anyE_oneL 9 (by kernel_rfl) rfl (fun K' hK' => ?_)
          go_simp
          obtain ⟨u18, hu⟩ : ∃ u, u = ((u17.setCell ⟨u0.heap.size, 0, none⟩ (.int .i64 p)).setCell ⟨u0.heap.size, 1, none⟩ (.slice a' m c')).setCell ⟨u0.heap.size, 2, none⟩ (.slice (some ⟨u16.heap.size, 0, none⟩) m m) := ⟨_, rfl⟩
          have ⟨c0, c1, c2, yu18⟩ := m3S hu d0 d1 d2
          have nq : ∀ g, blk a' = some g → g ≠ u0.heap.size ∧ g ≠ u16.heap.size := fun g h => by have := gS g h; have := gS2 g h; constructor <;> omega
          replace oN := m3O hu oN (fun h => (nq _ h).1 rfl)
          replace rW := m3R hu rW (by omega)
          replace hm := m3B hu hm (by omega)
          rw [← hu]
          clear hu d0 d1 d2 e0 e1 e2
          refine hK'.out _ _ (F _ hm) ?_
          clear hK' K'
          try simp only [Act.put, List.setIfInBounds_toArray, List.set_cons_zero, List.set_cons_succ]
          refine anyE_doneL (by kernel_rfl) ?_
          go_wp2_with fail
          go_meet
          exact ⟨u0.heap.size, u16.heap.size, a', c', rfl, hide ⟨c0, c1, c2⟩, hide oN, hide rW, hide ⟨by omega, by omega, by omega, fun g h => (nq g h).2⟩, hide hm⟩
        · go_simp
          obtain ⟨u19, hu⟩ : ∃ u, u = u15.alloc (.cells (zrow m) 2) := ⟨_, rfl⟩
          have ⟨lx, yu19⟩ := alW hu
          replace e0 := fr_of' lx d0 e0
          replace e1 := fr_of' lx d1 e1
          replace e2 := fr_of' lx d2 e2
          replace d0 := cell_be lx d0
          replace d1 := cell_be lx d1
          replace d2 := cell_be lx d2
          have rW := zrow_row u15 m
          rw [← hu] at rW
          rw [← hu]
          clear hu
          replace hm := bnext hm lx
          clear lx
          refine hK'.out _ _ (F _ hm) ?_
          clear hK' K'
          try simp only [Act.put, List.setIfInBounds_toArray, List.set_cons_zero, List.set_cons_succ]
          refine anyE_oneL 3 (by kernel_rfl) rfl (fun K' hK' => ?_)
          go_simp
          refine (l01Own_any b m d xs _ (HtB.out _ hm) (by omega)).mono ?_
          rintro e u20 ⟨a', c', rfl, oN, lx⟩
          dsimp only
          have gS := own_blk_ge oN
          have gS2 := ownLt oN
          replace oN := oN.mono hm.size
          have yu20 := lx.size
          replace e0 := fr_of' lx d0 e0
          replace e1 := fr_of' lx d1 e1
          replace e2 := fr_of' lx d2 e2
          replace d0 := cell_be lx d0
          replace d1 := cell_be lx d1
          replace d2 := cell_be lx d2
          replace rW := rW.next lx
          replace hm := bnext hm lx
          clear lx
          refine hK'.out _ _ (F _ hm) ?_
          clear hK' K'
          try simp only [Act.put, List.setIfInBounds_toArray, List.set_cons_zero, List.set_cons_succ]
          have hS2 := F _ hm
          refine anyE_takeH 7 rfl (by kernel_rfl) (fun _ _ _ h => h) hS2 (by rfl) (v := ?_) ?_ ?_
          rotate_left
          · intro w' hSw; (try dsimp only at hSw); go_simp; (try with_reducible rfl)
          try simp only [Act.put, List.setIfInBounds_toArray, List.set_cons_zero, List.set_cons_succ]
          clear hS2
          refine anyE_oneL 9 (by kernel_rfl) rfl (fun K' hK' => ?_)
          go_simp
          obtain ⟨u21, hu⟩ : ∃ u, u = ((u20.setCell ⟨u0.heap.size, 0, none⟩ (.int .i64 p)).setCell ⟨u0.heap.size, 1, none⟩ (.slice a' m c')).setCell ⟨u0.heap.size, 2, none⟩ (.slice (some ⟨u15.heap.size, 0, none⟩) m m) := ⟨_, rfl⟩
          have ⟨c0, c1, c2, yu21⟩ := m3S hu d0 d1 d2
          have nq : ∀ g, blk a' = some g → g ≠ u0.heap.size ∧ g ≠ u15.heap.size := fun g h => by have := gS g h; have := gS2 g h; constructor <;> omega
          replace oN := m3O hu oN (fun h => (nq _ h).1 rfl)
          replace rW := m3R hu rW (by omega)
          replace hm := m3B hu hm (by omega)
          rw [← hu]
          clear hu d0 d1 d2 e0 e1 e2
          refine hK'.out _ _ (F _ hm) ?_
          clear hK' K'
          try simp only [Act.put, List.setIfInBounds_toArray, List.set_cons_zero, List.set_cons_succ]
          refine anyE_doneL (by kernel_rfl) ?_
          go_wp2_with fail
          go_meet
          exact ⟨u0.heap.size, u15.heap.size, a', c', rfl, hide ⟨c0, c1, c2⟩, hide oN, hide rW, hide ⟨by omega, by omega, by omega, fun g h => (nq g h).2⟩, hide hm⟩
    case rest =>
      obtain ⟨q, gW, a', c', rfl, hC, hN, hR, hD, hmm⟩ := hcut
      obtain ⟨w3, hw3⟩ : ∃ w3, w3 = wc := ⟨wc, rfl⟩
      subst hw3
      obtain ⟨c0, c1, c2⟩ := hC.out
      have hsN := Own.sl hN.out
      rw [hl2.out] at hsN
      have hsW := hR.out.slN (tab_len m _)
      go_wp2_with fail
      refine (l07Is_any p a' m c' xs _ m m (tab m (fun _ => 0)) _ hsN hsW (by omega) (by omega)).mono ?_
      rintro e w4 ⟨rfl, hb4⟩
      rw [HRul.out]
      have hB4 : Below w2.heap.size w2 w4 := bnext hmm.out hb4
      have R2 := hide (And.intro f0 (And.intro f1 (And.intro r0 (And.intro r1 (And.intro r2 (And.intro y0 (And.intro y1 y2)))))))
      replace y0 := (hB4.frozen (World.block_lt_of_cell? _ _ r0)).trans y0
      replace y1 := (hB4.frozen (World.block_lt_of_cell? _ _ r1)).trans y1
      replace y2 := (hB4.frozen (World.block_lt_of_cell? _ _ r2)).trans y2
      replace f0 := cell_be hB4 f0
      replace f1 := cell_be hB4 f1
      replace r0 := cell_be hB4 r0
      replace r1 := cell_be hB4 r1
      replace r2 := cell_be hB4 r2
      have hB5 := bnext hB2 hB4
      go_wp2
      refine bodyPost_ret (v := .tuple #[jac 0 none 0 0 none 0 0, .int .i64 2]) (by simp [results, Try.results12, go_sem, r0, r1, r2]) rfl ?_
      exact ResJ.nil HE.out.1 HE.out.2.1 HE.out.2.2 HC.out (((hB5.setCell (by simp) _).setCell (by simp) _).setCell (by simp) _)
  have hle : ¬ (n : Int) < (m : Int) := by omega
  have hL : lisB p xs 0 (n : Int) = true := by
    simp only [lisB, hpr, hxa, Bool.and_true, Bool.true_and, Bool.and_eq_true, decide_eq_true_eq, hl2.out]
    omega
  have HC := hide (show wftC p ms xs = 0 by simp [wftC, hM, hl.out, hL, hasc])
  have HQ := hide (show wftP p ms xs = p by unfold wftP; rw [if_pos HC.out])
  have HV := hide (show wftV p ms xs = xs by unfold wftV; rw [if_pos HC.out])
  have HU := hide (show wftU p ms xs = tab m (wfI p ms xs) by unfold wftU; rw [if_pos HC.out]; unfold wfW; rw [hl2.out])
  have HWt := hide (fun k (hk : k < m) => show wfI p ms xs k = dotK p (porM p (xs.take k ++ xs.drop (k + 1)) (m - 1)) ms 0 (porM p (xs.take k ++ xs.drop (k + 1)) (m - 1)).length * invM p (evM p (porM p (xs.take k ++ xs.drop (k + 1)) (m - 1)) (xs.getD k 0)) % p by
    have := weight_at hpr xs (unitL xs.length k) ms k hxa (by rw [hl2.out]; omega) (by rw [hl2.out]; exact hk) (asc_ne hasc) (fun j => unitL_at xs.length k j (by rw [hl2.out]; exact hk))
    rw [hl2.out] at this
    unfold wfI
    rw [hl2.out]
    exact this)
  have HOt := hide (fun k (hk : k < m) => oth_are hp hxa k (by rw [hl2.out]; exact hk))
  have HPr := hide hpr
  have HMa := hide hma
  have HXa := hide hxa
  have HNi := hide (show tab m (fun j => if j < 0 then wfI p ms xs j else 0) = tab m (fun _ => (0 : Int)) from tab_congr fun j _ => if_neg (by omega))
  clear hM hR hL hpr hma hxa hasc hgt
  go_enter Try.func12, Try.ntmps12
  go_wp2_with fail
  refine (l02Are_any _ _ _ _ _ _ g1 hn).mono ?_
  rintro e w2 ⟨rfl, hb1⟩
  rw [HM.out]
  have f0 : w2.cell? ⟨w.heap.size, 0, none⟩ = some (.int .i64 p) := cell_be hb1 (by simp [go_sem])
  have f1 : w2.cell? ⟨w.heap.size, 1, none⟩ = some (.slice a n c) := cell_be hb1 (by simp [go_sem])
  have r0 : w2.cell? ⟨w.heap.size + 1, 0, none⟩ = some (.int .i64 0) := cell_be hb1 (by simp [go_sem])
  have r1 : w2.cell? ⟨w.heap.size + 1, 1, none⟩ = some (.slice none 0 0) := cell_be hb1 (by simp [go_sem])
  have r2 : w2.cell? ⟨w.heap.size + 1, 2, none⟩ = some (.slice none 0 0) := cell_be hb1 (by simp [go_sem])
  have y0 : w2.frozen? ⟨w.heap.size + 1, 0, none⟩ = false := (hb1.frozen (by simp)).trans (by simp [go_sem])
  have y1 : w2.frozen? ⟨w.heap.size + 1, 1, none⟩ = false := (hb1.frozen (by simp)).trans (by simp [go_sem])
  have y2 : w2.frozen? ⟨w.heap.size + 1, 2, none⟩ = false := (hb1.frozen (by simp)).trans (by simp [go_sem])
  have hB2 := bnext hb0 hb1
  have HtB := hide (fun W (h : Below w2.heap.size w2 W) => (g2.below hb1).below h)
  have F : ∀ w', Below w2.heap.size w2 w' → w'.cell? ⟨w.heap.size, 0, none⟩ = some (.int .i64 p) := fun w' h => cell_be h f0
  have hmk := run_mk m (by omega)
  go_upto_region 3 with fail
  go_cut [6] (fun s6 wx => ∃ (q gW : Nat) (a' : Option Addr) (c' : Nat), s6 = .pointer (some ⟨q, 0, none⟩) ∧ Hid (wx.cell? ⟨q, 0, none⟩ = some (.int .i64 p) ∧ wx.cell? ⟨q, 1, none⟩ = some (.slice a' m c') ∧ wx.cell? ⟨q, 2, none⟩ = some (.slice (some ⟨gW, 0, none⟩) m m)) ∧ Hid (Own w2.heap.size wx a' c' xs) ∧ Hid (RowI wx gW (tab m (fun _ => 0))) ∧ Hid (q ≠ gW ∧ w2.heap.size ≤ q ∧ w2.heap.size ≤ gW ∧ ∀ g, blk a' = some g → g ≠ gW) ∧ Hid (Below w2.heap.size w2 wx))
  case first =>
    have hm := (Below.refl w2.heap.size w2).drew
    refine region_E (fun w' => w'.cell? ⟨w.heap.size, 0, none⟩ = some (.int .i64 p)) 100 (by kernel_rfl) (F _ hm) ?_
    intro hS
    refine anyE_takeH 0 rfl (by kernel_rfl) (fun _ _ _ h => h) hS (by rfl) (v := ?_) ?_ ?_
    rotate_left
    · intro w' hSw; (try dsimp only at hSw); go_simp; (try with_reducible rfl)
    try simp only [Act.put, List.setIfInBounds_toArray, List.set_cons_zero, List.set_cons_succ]
    refine anyE_takeH 1 rfl (by kernel_rfl) (fun _ _ _ h => h) hS (by rfl) (v := ?_) ?_ ?_
    rotate_left
    · intro w' hSw; (try dsimp only at hSw); go_simp; (try with_reducible rfl)
    try simp only [Act.put, List.setIfInBounds_toArray, List.set_cons_zero, List.set_cons_succ]
    refine anyE_takeH 2 rfl (by kernel_rfl) (fun _ _ _ h => h) hS (by rfl) (v := ?_) ?_ ?_
    rotate_left
    · intro w' hSw; (try dsimp only at hSw); go_simp; (try with_reducible rfl)
    try simp only [Act.put, List.setIfInBounds_toArray, List.set_cons_zero, List.set_cons_succ]
    refine anyE_takeH 4 rfl (by kernel_rfl) (fun _ _ _ h => h) hS (by rfl) (v := ?_) ?_ ?_
    rotate_left
    · intro w' hSw; (try dsimp only at hSw); go_simp; (try with_reducible rfl)
    try simp only [Act.put, List.setIfInBounds_toArray, List.set_cons_zero, List.set_cons_succ]
    refine anyE_takeH 5 rfl (by kernel_rfl) (fun _ _ _ h => h) hS (by rfl) (v := ?_) ?_ ?_
    rotate_left
    · intro w' hSw; (try dsimp only at hSw); go_simp; (try with_reducible rfl)
    try simp only [Act.put, List.setIfInBounds_toArray, List.set_cons_zero, List.set_cons_succ]
    clear hS
    obtain ⟨u0, hu0⟩ : ∃ u, u = w2.drew := ⟨_, rfl⟩
    rw [← hu0] at hm ⊢
    clear hu0
    have hz0 := hm.size
    refine anyE_3L 3 6 8 (by kernel_rfl) rfl rfl rfl (fun K' hK' => ?_) (fun K' hK' => ?_) (fun K' hK' => ?_)
    · go_simp
      refine (l01Own_any b m d xs _ (HtB.out _ hm) (by omega)).mono ?_
      rintro e u1 ⟨a', c', rfl, oN, lx⟩
      dsimp only
      have gS := own_blk_ge oN
      have gS2 := ownLt oN
      replace oN := oN.mono hm.size
      have yu1 := lx.size
      replace hm := bnext hm lx
      clear lx
      refine hK'.out _ _ (F _ hm) ?_
      clear hK' K'
      try simp only [Act.put, List.setIfInBounds_toArray, List.set_cons_zero, List.set_cons_succ]
      refine anyE_2L 6 8 (by kernel_rfl) rfl rfl (fun K' hK' => ?_) (fun K' hK' => ?_)
      · go_simp
        obtain ⟨u2, hu⟩ : ∃ u, u = u1.alloc (.cells (zrow m) 2) := ⟨_, rfl⟩
        have ⟨lx, yu2⟩ := alW hu
        replace oN := oN.below lx
        have rW := zrow_row u1 m
        rw [← hu] at rW
        rw [← hu]
        clear hu
        replace hm := bnext hm lx
        clear lx
        refine hK'.out _ _ (F _ hm) ?_
        clear hK' K'
        try simp only [Act.put, List.setIfInBounds_toArray, List.set_cons_zero, List.set_cons_succ]
        have hS2 := F _ hm
        refine anyE_takeH 7 rfl (by kernel_rfl) (fun _ _ _ h => h) hS2 (by rfl) (v := ?_) ?_ ?_
        rotate_left
        · intro w' hSw; (try dsimp only at hSw); go_simp; (try with_reducible rfl)
        try simp only [Act.put, List.setIfInBounds_toArray, List.set_cons_zero, List.set_cons_succ]
        clear hS2
        refine anyE_oneL 8 (by kernel_rfl) rfl (fun K' hK' => ?_)
        go_simp
        obtain ⟨u3, hu⟩ : ∃ u, u = u2.alloc (.cells #[.int .i64 0, .slice none 0 0, .slice none 0 0] 27) := ⟨_, rfl⟩
        have ⟨lx, yu3⟩ := alW hu
        replace oN := oN.below lx
        replace rW := rW.next lx
        have ⟨d0, d1, d2, e0, e1, e2⟩ := m3Q hu
        rw [← hu]
        clear hu
        replace hm := bnext hm lx
        clear lx
        refine hK'.out _ _ (F _ hm) ?_
        clear hK' K'
        try simp only [Act.put, List.setIfInBounds_toArray, List.set_cons_zero, List.set_cons_succ]
        refine anyE_oneL 9 (by kernel_rfl) rfl (fun K' hK' => ?_)
        go_simp
        obtain ⟨u4, hu⟩ : ∃ u, u = ((u3.setCell ⟨u2.heap.size, 0, none⟩ (.int .i64 p)).setCell ⟨u2.heap.size, 1, none⟩ (.slice a' m c')).setCell ⟨u2.heap.size, 2, none⟩ (.slice (some ⟨u1.heap.size, 0, none⟩) m m) := ⟨_, rfl⟩
        have ⟨c0, c1, c2, yu4⟩ := m3S hu d0 d1 d2
        have nq : ∀ g, blk a' = some g → g ≠ u2.heap.size ∧ g ≠ u1.heap.size := fun g h => by have := gS g h; have := gS2 g h; constructor <;> omega
        replace oN := m3O hu oN (fun h => (nq _ h).1 rfl)
        replace rW := m3R hu rW (by omega)
        replace hm := m3B hu hm (by omega)
        rw [← hu]
        clear hu d0 d1 d2 e0 e1 e2
        refine hK'.out _ _ (F _ hm) ?_
        clear hK' K'
        try simp only [Act.put, List.setIfInBounds_toArray, List.set_cons_zero, List.set_cons_succ]
        refine anyE_doneL (by kernel_rfl) ?_
        go_wp2_with fail
        go_meet
        exact ⟨u2.heap.size, u1.heap.size, a', c', rfl, hide ⟨c0, c1, c2⟩, hide oN, hide rW, hide ⟨by omega, by omega, by omega, fun g h => (nq g h).2⟩, hide hm⟩
      · go_simp
        obtain ⟨u5, hu⟩ : ∃ u, u = u1.alloc (.cells #[.int .i64 0, .slice none 0 0, .slice none 0 0] 27) := ⟨_, rfl⟩
        have ⟨lx, yu5⟩ := alW hu
        replace oN := oN.below lx
        have ⟨d0, d1, d2, e0, e1, e2⟩ := m3Q hu
        rw [← hu]
        clear hu
        replace hm := bnext hm lx
        clear lx
        refine hK'.out _ _ (F _ hm) ?_
        clear hK' K'
        try simp only [Act.put, List.setIfInBounds_toArray, List.set_cons_zero, List.set_cons_succ]
        refine anyE_oneL 6 (by kernel_rfl) rfl (fun K' hK' => ?_)
        go_simp
        obtain ⟨u6, hu⟩ : ∃ u, u = u5.alloc (.cells (zrow m) 2) := ⟨_, rfl⟩
        have ⟨lx, yu6⟩ := alW hu
        replace e0 := fr_of' lx d0 e0
        replace e1 := fr_of' lx d1 e1
        replace e2 := fr_of' lx d2 e2
        replace d0 := cell_be lx d0
        replace d1 := cell_be lx d1
        replace d2 := cell_be lx d2
        replace oN := oN.below lx
        have rW := zrow_row u5 m
        rw [← hu] at rW
        rw [← hu]
        clear hu
        replace hm := bnext hm lx
        clear lx
        refine hK'.out _ _ (F _ hm) ?_
        clear hK' K'
        try simp only [Act.put, List.setIfInBounds_toArray, List.set_cons_zero, List.set_cons_succ]
        have hS2 := F _ hm
        refine anyE_takeH 7 rfl (by kernel_rfl) (fun _ _ _ h => h) hS2 (by rfl) (v := ?_) ?_ ?_
        rotate_left
        · intro w' hSw; (try dsimp only at hSw); go_simp; (try with_reducible rfl)
        try simp only [Act.put, List.setIfInBounds_toArray, List.set_cons_zero, List.set_cons_succ]
        clear hS2
        refine anyE_oneL 9 (by kernel_rfl) rfl (fun K' hK' => ?_)
        go_simp
        obtain ⟨u7, hu⟩ : ∃ u, u = ((u6.setCell ⟨u1.heap.size, 0, none⟩ (.int .i64 p)).setCell ⟨u1.heap.size, 1, none⟩ (.slice a' m c')).setCell ⟨u1.heap.size, 2, none⟩ (.slice (some ⟨u5.heap.size, 0, none⟩) m m) := ⟨_, rfl⟩
        have ⟨c0, c1, c2, yu7⟩ := m3S hu d0 d1 d2
        have nq : ∀ g, blk a' = some g → g ≠ u1.heap.size ∧ g ≠ u5.heap.size := fun g h => by have := gS g h; have := gS2 g h; constructor <;> omega
        replace oN := m3O hu oN (fun h => (nq _ h).1 rfl)
        replace rW := m3R hu rW (by omega)
        replace hm := m3B hu hm (by omega)
        rw [← hu]
        clear hu d0 d1 d2 e0 e1 e2
        refine hK'.out _ _ (F _ hm) ?_
        clear hK' K'
        try simp only [Act.put, List.setIfInBounds_toArray, List.set_cons_zero, List.set_cons_succ]
        refine anyE_doneL (by kernel_rfl) ?_
        go_wp2_with fail
        go_meet
        exact ⟨u1.heap.size, u5.heap.size, a', c', rfl, hide ⟨c0, c1, c2⟩, hide oN, hide rW, hide ⟨by omega, by omega, by omega, fun g h => (nq g h).2⟩, hide hm⟩
    · go_simp
      obtain ⟨u8, hu⟩ : ∃ u, u = u0.alloc (.cells (zrow m) 2) := ⟨_, rfl⟩
      have ⟨lx, yu8⟩ := alW hu
      have rW := zrow_row u0 m
      rw [← hu] at rW
      rw [← hu]
      clear hu
      replace hm := bnext hm lx
      clear lx
      refine hK'.out _ _ (F _ hm) ?_
      clear hK' K'
      try simp only [Act.put, List.setIfInBounds_toArray, List.set_cons_zero, List.set_cons_succ]
      refine anyE_2L 3 8 (by kernel_rfl) rfl rfl (fun K' hK' => ?_) (fun K' hK' => ?_)
      · go_simp
        refine (l01Own_any b m d xs _ (HtB.out _ hm) (by omega)).mono ?_
        rintro e u9 ⟨a', c', rfl, oN, lx⟩
        dsimp only
        have gS := own_blk_ge oN
        have gS2 := ownLt oN
        replace oN := oN.mono hm.size
        have yu9 := lx.size
        replace rW := rW.next lx
        replace hm := bnext hm lx
        clear lx
        refine hK'.out _ _ (F _ hm) ?_
        clear hK' K'
        try simp only [Act.put, List.setIfInBounds_toArray, List.set_cons_zero, List.set_cons_succ]
        have hS2 := F _ hm
        refine anyE_takeH 7 rfl (by kernel_rfl) (fun _ _ _ h => h) hS2 (by rfl) (v := ?_) ?_ ?_
        rotate_left
        · intro w' hSw; (try dsimp only at hSw); go_simp; (try with_reducible rfl)
        try simp only [Act.put, List.setIfInBounds_toArray, List.set_cons_zero, List.set_cons_succ]
        clear hS2
        refine anyE_oneL 8 (by kernel_rfl) rfl (fun K' hK' => ?_)
        go_simp
        obtain ⟨u10, hu⟩ : ∃ u, u = u9.alloc (.cells #[.int .i64 0, .slice none 0 0, .slice none 0 0] 27) := ⟨_, rfl⟩
        have ⟨lx, yu10⟩ := alW hu
        replace oN := oN.below lx
        replace rW := rW.next lx
        have ⟨d0, d1, d2, e0, e1, e2⟩ := m3Q hu
        rw [← hu]
        clear hu
        replace hm := bnext hm lx
        clear lx
        refine hK'.out _ _ (F _ hm) ?_
        clear hK' K'
        try simp only [Act.put, List.setIfInBounds_toArray, List.set_cons_zero, List.set_cons_succ]
        refine anyE_oneL 9 (by kernel_rfl) rfl (fun K' hK' => ?_)
        go_simp
        obtain ⟨u11, hu⟩ : ∃ u, u = ((u10.setCell ⟨u9.heap.size, 0, none⟩ (.int .i64 p)).setCell ⟨u9.heap.size, 1, none⟩ (.slice a' m c')).setCell ⟨u9.heap.size, 2, none⟩ (.slice (some ⟨u0.heap.size, 0, none⟩) m m) := ⟨_, rfl⟩
        have ⟨c0, c1, c2, yu11⟩ := m3S hu d0 d1 d2
        have nq : ∀ g, blk a' = some g → g ≠ u9.heap.size ∧ g ≠ u0.heap.size := fun g h => by have := gS g h; have := gS2 g h; constructor <;> omega
        replace oN := m3O hu oN (fun h => (nq _ h).1 rfl)
        replace rW := m3R hu rW (by omega)
        replace hm := m3B hu hm (by omega)
        rw [← hu]
        clear hu d0 d1 d2 e0 e1 e2
        refine hK'.out _ _ (F _ hm) ?_
        clear hK' K'
        try simp only [Act.put, List.setIfInBounds_toArray, List.set_cons_zero, List.set_cons_succ]
        refine anyE_doneL (by kernel_rfl) ?_
        go_wp2_with fail
        go_meet
        exact ⟨u9.heap.size, u0.heap.size, a', c', rfl, hide ⟨c0, c1, c2⟩, hide oN, hide rW, hide ⟨by omega, by omega, by omega, fun g h => (nq g h).2⟩, hide hm⟩
      · go_simp
        obtain ⟨u12, hu⟩ : ∃ u, u = u8.alloc (.cells #[.int .i64 0, .slice none 0 0, .slice none 0 0] 27) := ⟨_, rfl⟩
        have ⟨lx, yu12⟩ := alW hu
        replace rW := rW.next lx
        have ⟨d0, d1, d2, e0, e1, e2⟩ := m3Q hu
        rw [← hu]
        clear hu
        replace hm := bnext hm lx
        clear lx
        refine hK'.out _ _ (F _ hm) ?_
        clear hK' K'
        try simp only [Act.put, List.setIfInBounds_toArray, List.set_cons_zero, List.set_cons_succ]
        refine anyE_oneL 3 (by kernel_rfl) rfl (fun K' hK' => ?_)
        go_simp
        refine (l01Own_any b m d xs _ (HtB.out _ hm) (by omega)).mono ?_
        rintro e u13 ⟨a', c', rfl, oN, lx⟩
        dsimp only
        have gS := own_blk_ge oN
        have gS2 := ownLt oN
        replace oN := oN.mono hm.size
        have yu13 := lx.size
        replace e0 := fr_of' lx d0 e0
        replace e1 := fr_of' lx d1 e1
        replace e2 := fr_of' lx d2 e2
        replace d0 := cell_be lx d0
        replace d1 := cell_be lx d1
        replace d2 := cell_be lx d2
        replace rW := rW.next lx
        replace hm := bnext hm lx
        clear lx
        refine hK'.out _ _ (F _ hm) ?_
        clear hK' K'
        try simp only [Act.put, List.setIfInBounds_toArray, List.set_cons_zero, List.set_cons_succ]
        have hS2 := F _ hm
        refine anyE_takeH 7 rfl (by kernel_rfl) (fun _ _ _ h => h) hS2 (by rfl) (v := ?_) ?_ ?_
        rotate_left
        · intro w' hSw; (try dsimp only at hSw); go_simp; (try with_reducible rfl)
        try simp only [Act.put, List.setIfInBounds_toArray, List.set_cons_zero, List.set_cons_succ]
        clear hS2
        refine anyE_oneL 9 (by kernel_rfl) rfl (fun K' hK' => ?_)
        go_simp
        obtain ⟨u14, hu⟩ : ∃ u, u = ((u13.setCell ⟨u8.heap.size, 0, none⟩ (.int .i64 p)).setCell ⟨u8.heap.size, 1, none⟩ (.slice a' m c')).setCell ⟨u8.heap.size, 2, none⟩ (.slice (some ⟨u0.heap.size, 0, none⟩) m m) := ⟨_, rfl⟩
        have ⟨c0, c1, c2, yu14⟩ := m3S hu d0 d1 d2
        have nq : ∀ g, blk a' = some g → g ≠ u8.heap.size ∧ g ≠ u0.heap.size := fun g h => by have := gS g h; have := gS2 g h; constructor <;> omega
        replace oN := m3O hu oN (fun h => (nq _ h).1 rfl)
        replace rW := m3R hu rW (by omega)
        replace hm := m3B hu hm (by omega)
        rw [← hu]
        clear hu d0 d1 d2 e0 e1 e2
        refine hK'.out _ _ (F _ hm) ?_
        clear hK' K'
        try simp only [Act.put, List.setIfInBounds_toArray, List.set_cons_zero, List.set_cons_succ]
        refine anyE_doneL (by kernel_rfl) ?_
        go_wp2_with fail
        go_meet
        exact ⟨u8.heap.size, u0.heap.size, a', c', rfl, hide ⟨c0, c1, c2⟩, hide oN, hide rW, hide ⟨by omega, by omega, by omega, fun g h => (nq g h).2⟩, hide hm⟩
    · go_simp
      obtain ⟨u15, hu⟩ : ∃ u, u = u0.alloc (.cells #[.int .i64 0, .slice none 0 0, .slice none 0 0] 27) := ⟨_, rfl⟩
      have ⟨lx, yu15⟩ := alW hu
      have ⟨d0, d1, d2, e0, e1, e2⟩ := m3Q hu
      rw [← hu]
      clear hu
      replace hm := bnext hm lx
      clear lx
      refine hK'.out _ _ (F _ hm) ?_
      clear hK' K'
      try simp only [Act.put, List.setIfInBounds_toArray, List.set_cons_zero, List.set_cons_succ]
      refine anyE_2L 3 6 (by kernel_rfl) rfl rfl (fun K' hK' => ?_) (fun K' hK' => ?_)
      · go_simp
        refine (l01Own_any b m d xs _ (HtB.out _ hm) (by omega)).mono ?_
        rintro e u16 ⟨a', c', rfl, oN, lx⟩
        dsimp only
        have gS := own_blk_ge oN
        have gS2 := ownLt oN
        replace oN := oN.mono hm.size
        have yu16 := lx.size
        replace e0 := fr_of' lx d0 e0
        replace e1 := fr_of' lx d1 e1
        replace e2 := fr_of' lx d2 e2
        replace d0 := cell_be lx d0
        replace d1 := cell_be lx d1
        replace d2 := cell_be lx d2
        replace hm := bnext hm lx
        clear lx
        refine hK'.out _ _ (F _ hm) ?_
        clear hK' K'
        try simp only [Act.put, List.setIfInBounds_toArray, List.set_cons_zero, List.set_cons_succ]
        refine anyE_oneL 6 (by kernel_rfl) rfl (fun K' hK' => ?_)
        go_simp
        obtain ⟨u17, hu⟩ : ∃ u, u = u16.alloc (.cells (zrow m) 2) := ⟨_, rfl⟩
        have ⟨lx, yu17⟩ := alW hu
        replace e0 := fr_of' lx d0 e0
        replace e1 := fr_of' lx d1 e1
        replace e2 := fr_of' lx d2 e2
        replace d0 := cell_be lx d0
        replace d1 := cell_be lx d1
        replace d2 := cell_be lx d2
        replace oN := oN.below lx
        have rW := zrow_row u16 m
        rw [← hu] at rW
        rw [← hu]
        clear hu
        replace hm := bnext hm lx
        clear lx
        refine hK'.out _ _ (F _ hm) ?_
        clear hK' K'
        try simp only [Act.put, List.setIfInBounds_toArray, List.set_cons_zero, List.set_cons_succ]
        have hS2 := F _ hm
        refine anyE_takeH 7 rfl (by kernel_rfl) (fun _ _ _ h => h) hS2 (by rfl) (v := ?_) ?_ ?_
        rotate_left
        · intro w' hSw; (try dsimp only at hSw); go_simp; (try with_reducible rfl)
        try simp only [Act.put, List.setIfInBounds_toArray, List.set_cons_zero, List.set_cons_succ]
        clear hS2
        refine anyE_oneL 9 (by kernel_rfl) rfl (fun K' hK' => ?_)
        go_simp
        obtain ⟨u18, hu⟩ : ∃ u, u = ((u17.setCell ⟨u0.heap.size, 0, none⟩ (.int .i64 p)).setCell ⟨u0.heap.size, 1, none⟩ (.slice a' m c')).setCell ⟨u0.heap.size, 2, none⟩ (.slice (some ⟨u16.heap.size, 0, none⟩) m m) := ⟨_, rfl⟩
        have ⟨c0, c1, c2, yu18⟩ := m3S hu d0 d1 d2
        have nq : ∀ g, blk a' = some g → g ≠ u0.heap.size ∧ g ≠ u16.heap.size := fun g h => by have := gS g h; have := gS2 g h; constructor <;> omega
        replace oN := m3O hu oN (fun h => (nq _ h).1 rfl)
        replace rW := m3R hu rW (by omega)
        replace hm := m3B hu hm (by omega)
        rw [← hu]
        clear hu d0 d1 d2 e0 e1 e2
        refine hK'.out _ _ (F _ hm) ?_
        clear hK' K'
        try simp only [Act.put, List.setIfInBounds_toArray, List.set_cons_zero, List.set_cons_succ]
        refine anyE_doneL (by kernel_rfl) ?_
        go_wp2_with fail
        go_meet
        exact ⟨u0.heap.size, u16.heap.size, a', c', rfl, hide ⟨c0, c1, c2⟩, hide oN, hide rW, hide ⟨by omega, by omega, by omega, fun g h => (nq g h).2⟩, hide hm⟩
      · go_simp
        obtain ⟨u19, hu⟩ : ∃ u, u = u15.alloc (.cells (zrow m) 2) := ⟨_, rfl⟩
        have ⟨lx, yu19⟩ := alW hu
        replace e0 := fr_of' lx d0 e0
        replace e1 := fr_of' lx d1 e1
        replace e2 := fr_of' lx d2 e2
        replace d0 := cell_be lx d0
        replace d1 := cell_be lx d1
        replace d2 := cell_be lx d2
        have rW := zrow_row u15 m
        rw [← hu] at rW
        rw [← hu]
        clear hu
        replace hm := bnext hm lx
        clear lx
        refine hK'.out _ _ (F _ hm) ?_
        clear hK' K'
        try simp only [Act.put, List.setIfInBounds_toArray, List.set_cons_zero, List.set_cons_succ]
        refine anyE_oneL 3 (by kernel_rfl) rfl (fun K' hK' => ?_)
        go_simp
        refine (l01Own_any b m d xs _ (HtB.out _ hm) (by omega)).mono ?_
        rintro e u20 ⟨a', c', rfl, oN, lx⟩
        dsimp only
        have gS := own_blk_ge oN
        have gS2 := ownLt oN
        replace oN := oN.mono hm.size
        have yu20 := lx.size
        replace e0 := fr_of' lx d0 e0
        replace e1 := fr_of' lx d1 e1
        replace e2 := fr_of' lx d2 e2
        replace d0 := cell_be lx d0
        replace d1 := cell_be lx d1
        replace d2 := cell_be lx d2
        replace rW := rW.next lx
        replace hm := bnext hm lx
        clear lx
        refine hK'.out _ _ (F _ hm) ?_
        clear hK' K'
        try simp only [Act.put, List.setIfInBounds_toArray, List.set_cons_zero, List.set_cons_succ]
        have hS2 := F _ hm
        refine anyE_takeH 7 rfl (by kernel_rfl) (fun _ _ _ h => h) hS2 (by rfl) (v := ?_) ?_ ?_
        rotate_left
        · intro w' hSw; (try dsimp only at hSw); go_simp; (try with_reducible rfl)
        try simp only [Act.put, List.setIfInBounds_toArray, List.set_cons_zero, List.set_cons_succ]
        clear hS2
        refine anyE_oneL 9 (by kernel_rfl) rfl (fun K' hK' => ?_)
        go_simp
        obtain ⟨u21, hu⟩ : ∃ u, u = ((u20.setCell ⟨u0.heap.size, 0, none⟩ (.int .i64 p)).setCell ⟨u0.heap.size, 1, none⟩ (.slice a' m c')).setCell ⟨u0.heap.size, 2, none⟩ (.slice (some ⟨u15.heap.size, 0, none⟩) m m) := ⟨_, rfl⟩
        have ⟨c0, c1, c2, yu21⟩ := m3S hu d0 d1 d2
        have nq : ∀ g, blk a' = some g → g ≠ u0.heap.size ∧ g ≠ u15.heap.size := fun g h => by have := gS g h; have := gS2 g h; constructor <;> omega
        replace oN := m3O hu oN (fun h => (nq _ h).1 rfl)
        replace rW := m3R hu rW (by omega)
        replace hm := m3B hu hm (by omega)
        rw [← hu]
        clear hu d0 d1 d2 e0 e1 e2
        refine hK'.out _ _ (F _ hm) ?_
        clear hK' K'
        try simp only [Act.put, List.setIfInBounds_toArray, List.set_cons_zero, List.set_cons_succ]
        refine anyE_doneL (by kernel_rfl) ?_
        go_wp2_with fail
        go_meet
        exact ⟨u0.heap.size, u15.heap.size, a', c', rfl, hide ⟨c0, c1, c2⟩, hide oN, hide rW, hide ⟨by omega, by omega, by omega, fun g h => (nq g h).2⟩, hide hm⟩
  case rest =>
    obtain ⟨q, gW, a', c', rfl, hC, hN, hR, hD, hmm⟩ := hcut
    obtain ⟨w3, hw3⟩ : ∃ w3, w3 = wc := ⟨wc, rfl⟩
    subst hw3
    obtain ⟨c0, c1, c2⟩ := hC.out
    have hsN := Own.sl hN.out
    rw [hl2.out] at hsN
    have hsW := hR.out.slN (tab_len m _)
    go_wp2_with fail
    refine (l07Is_any p a' m c' xs _ m m (tab m (fun _ => 0)) _ hsN hsW (by omega) (by omega)).mono ?_
    rintro e w4 ⟨rfl, hb4⟩
    rw [HRul.out]
    have hB4 : Below w2.heap.size w2 w4 := bnext hmm.out hb4
    have R2 := hide (And.intro f0 (And.intro f1 (And.intro r0 (And.intro r1 (And.intro r2 (And.intro y0 (And.intro y1 y2)))))))
    replace y0 := (hB4.frozen (World.block_lt_of_cell? _ _ r0)).trans y0
    replace y1 := (hB4.frozen (World.block_lt_of_cell? _ _ r1)).trans y1
    replace y2 := (hB4.frozen (World.block_lt_of_cell? _ _ r2)).trans y2
    replace f0 := cell_be hB4 f0
    replace f1 := cell_be hB4 f1
    replace r0 := cell_be hB4 r0
    replace r1 := cell_be hB4 r1
    replace r2 := cell_be hB4 r2
    have hB5 := bnext hB2 hB4
    replace c0 := cell_be hb4 c0
    replace c1 := cell_be hb4 c1
    replace c2 := cell_be hb4 c2
    have hN0 := hide (hN.out.below hb4)
    have hR0 : Hid (RowI w4 gW (tab m (fun j => if j < 0 then wfI p ms xs j else 0))) := hide (by rw [HNi.out]; exact hR.out.next hb4)
    have hC0 := hide (And.intro c0 (And.intro c1 c2))
    have hI0 := hide hB4
    have hz2 : w.heap.size + 2 ≤ w2.heap.size := by have q1 := hb1.size; simp at q1; omega
    obtain ⟨D1, D2, D3, D4⟩ := hD.out
    have HD4 := hide D4
    clear hC hN hR hD hsN hsW hmm hb4 c0 c1 c2 hmk F HtB D4 HRul HNi
    go_wp2_with fail
    try simp only [show decide (n < m) = false from decide_eq_false (by omega)]
    go_loopw [7] (fun iv wr => ∃ k : Nat, k ≤ m ∧ iv = .int .i64 k ∧ Hid (RowI wr gW (tab m (fun j => if j < k then wfI p ms xs j else 0))) ∧ Hid (Own w2.heap.size wr a' c' xs) ∧ Hid (wr.cell? ⟨q, 0, none⟩ = some (.int .i64 p) ∧ wr.cell? ⟨q, 1, none⟩ = some (.slice a' m c') ∧ wr.cell? ⟨q, 2, none⟩ = some (.slice (some ⟨gW, 0, none⟩) m m)) ∧ Hid (Below w2.heap.size w2 wr)) (fun iv _ => m - (intOf iv).toNat)
    case atStart => exact ⟨0, by omega, rfl, hR0, hN0, hC0, hI0⟩
    case round =>
      obtain ⟨k, hk, rfl, hR, hN, hC, hI⟩ := hrel
      clear hR0 hN0 hC0 hI0 f0 f1 r0 r1 r2 y0 y1 y2 hB4 hB5
      obtain ⟨F0, F1, E0, E1, E2, Y0, Y1, Y2⟩ := R2.out
      by_cases hlt : k < m
      · have hlt' : (k : Int) < (m : Int) := by omega
        have hk0 : (0 : Int) ≤ (k : Int) := by omega
        obtain ⟨bb, bo, rfl, hbw, hcb⟩ := ht.at (show 0 < m by omega)
        have hmd := ht.le
        have f0 := cell_be hI.out F0
        have f1 := cell_be hI.out F1
        obtain ⟨c0, c1, c2⟩ := hC.out
        have hBw : Below w.heap.size w wr := hB2.trans (hI.out.mono (by omega))
        have sT := hide ((ht.take (show k ≤ m by omega)).below hBw)
        have sM := hide (hs.below hBw)
        have hnode := cell_be hBw (hcb k hlt)
        have sl1 : SL wr (if d = k + 1 then some ⟨bb, bo, none⟩ else some ⟨bb, bo + (k + 1), none⟩) (m - (k + 1)) (d - (k + 1)) (xs.drop (k + 1)) := by
          have sd1 := (ht.below hBw).dropS (k + 1) (by omega)
          split
          · exact ⟨sd1.len, ⟨sd1.le, fun h => by cases h⟩, .inl (by have := sd1.le; omega)⟩
          · exact sd1
        obtain ⟨zz, hzz⟩ : ∃ zz, (if d = k + 1 then some (⟨bb, bo, none⟩ : Addr) else some ⟨bb, bo + (k + 1), none⟩) = zz := ⟨_, rfl⟩
        rw [hzz] at sl1
        have HZ := hide hzz
        clear hzz
        have hkl := hide (show k = (xs.take k).length by rw [List.length_take, hl2.out]; omega)
        have hOl : Hid ((xs.take k ++ xs.drop (k + 1)).length = m - 1) := hide (by rw [List.length_append, List.length_take, List.length_drop, hl2.out]; omega)
        have v1 : IntKind.i64.wrap ((k : Int) + 1) = (k : Int) + 1 := IntWalk.i64_in _ (by omega)
        have v2 : ((k : Int) + 1).toNat = k + 1 := by omega
        have v3 : (k : Int) + 1 ≤ (m : Int) := by omega
        have v4 : (0 : Int) ≤ (k : Int) + 1 := by omega
        have v5 : (k : Int) ≤ (d : Int) := by omega
        have v6 : (k : Int) + 1 ≤ (d : Int) := by omega
        have hzw := hI.out.size
        have hbd := (Below.refl wr.heap.size wr).drew
        clear hcb hbw
        go_upto_region 9 with fail
        go_cut [8] (fun s8 wx => ∃ (aP : Option Addr) (dP : Nat), s8 = .slice aP (m - 1) dP ∧ Hid (Own wr.heap.size wx aP dP (xs.take k ++ xs.drop (k + 1))) ∧ Hid (Below wr.heap.size wr wx))
        case first =>
          refine region_E (fun _ => True) 100 (by kernel_rfl) trivial ?_
          intro hS
          refine anyE_takeH 0 rfl (by kernel_rfl) (fun _ _ _ h => h) hS (by rfl) (v := ?_) ?_ ?_
          rotate_left
          · intro w' hSw; (try dsimp only at hSw); go_simp; (try with_reducible rfl)
          try simp only [Act.put, List.setIfInBounds_toArray, List.set_cons_zero, List.set_cons_succ]
          refine anyE_takeH 1 rfl (by kernel_rfl) (fun _ _ _ h => h) hS (by rfl) (v := ?_) ?_ ?_
          rotate_left
          · intro w' hSw; (try dsimp only at hSw); go_simp; (try with_reducible rfl)
          try simp only [Act.put, List.setIfInBounds_toArray, List.set_cons_zero, List.set_cons_succ]
          refine anyE_takeH 2 rfl (by kernel_rfl) (fun _ _ _ h => h) hS (by rfl) (v := ?_) ?_ ?_
          rotate_left
          · intro w' hSw; (try dsimp only at hSw); go_simp; (try with_reducible rfl)
          try simp only [Act.put, List.setIfInBounds_toArray, List.set_cons_zero, List.set_cons_succ]
          refine anyE_takeH 4 rfl (by kernel_rfl) (fun _ _ _ h => h) hS (by rfl) (v := ?_) ?_ ?_
          rotate_left
          · intro w' hSw; (try dsimp only at hSw); go_simp; (try with_reducible rfl)
          try simp only [Act.put, List.setIfInBounds_toArray, List.set_cons_zero, List.set_cons_succ]
          refine anyE_takeH 5 rfl (by kernel_rfl) (fun _ _ _ h => h) hS (by rfl) (v := ?_) ?_ ?_
          rotate_left
          · intro w' hSw; (try dsimp only at hSw); go_simp; (try with_reducible rfl)
          try simp only [Act.put, List.setIfInBounds_toArray, List.set_cons_zero, List.set_cons_succ]
          refine anyE_takeH 6 rfl (by kernel_rfl) (fun _ _ _ h => h) hS (by rfl) (v := ?_) ?_ ?_
          rotate_left
          · intro w' hSw; (try dsimp only at hSw); go_simp; (try with_reducible rfl)
          try simp only [Act.put, List.setIfInBounds_toArray, List.set_cons_zero, List.set_cons_succ]
          refine anyE_takeH 7 rfl (by kernel_rfl) (fun _ _ _ h => h) hS (by rfl) (v := ?_) ?_ ?_
          rotate_left
          · intro w' hSw; (try dsimp only at hSw); go_simp; (try with_reducible rfl)
          try simp only [Act.put, List.setIfInBounds_toArray, List.set_cons_zero, List.set_cons_succ]
          clear hS
          rw [HZ.out]
          refine anyE_oneL 3 (by kernel_rfl) rfl (fun K' hK' => ?_)
          go_simp
          refine (l01Own_any _ k d (xs.take k) _ (sT.out.below hbd) (by omega)).mono ?_
          rintro e u1 ⟨aO, dO, rfl, oO, lx⟩
          dsimp only
          have hm := bnext hbd lx
          replace oO := oO.mono hbd.size
          refine hK'.out _ _ trivial ?_
          clear hK' K'
          try simp only [Act.put, List.setIfInBounds_toArray, List.set_cons_zero, List.set_cons_succ]
          refine anyE_oneL 8 (by kernel_rfl) rfl (fun K' hK' => ?_)
          refine step_appH (by rfl) _ _ (by rfl) wr.heap.size aO k dO (xs.take k) (by rfl) hkl.out oO zz (m - (k + 1)) (d - (k + 1)) (xs.drop (k + 1)) (by rfl) (sl1.below hm) (by omega) hm.size ?_
          intro aP dP u2 oP hgr hloc
          rw [hOl.out]
          have hm2 := hm.grown hgr hm.size (fun g hg => own_blk_ge oO g hg)
          refine hK'.out _ _ trivial ?_
          clear hK' K'
          try simp only [Act.put, List.setIfInBounds_toArray, List.set_cons_zero, List.set_cons_succ]
          refine anyE_oneL 9 (by kernel_rfl) rfl (fun K' hK' => ?_)
          go_simp
          refine hK'.out _ _ trivial (anyE_doneL (by kernel_rfl) ?_)
          clear hK' K'
          try simp only [Act.put, List.setIfInBounds_toArray, List.set_cons_zero, List.set_cons_succ]
          go_wp2_with fail
          go_meet
          exact ⟨aP, dP, rfl, hide oP, hide hm2⟩
        case rest =>
          obtain ⟨aP, dP, rfl, oP, hm2⟩ := hcut
          obtain ⟨w6, hw6⟩ : ∃ w6, w6 = wc := ⟨wc, rfl⟩
          subst hw6
          clear v1 v2 v3 v4 v5 v6 sl1 hbd sT hkl
          replace f0 := cell_be hm2.out f0
          replace f1 := cell_be hm2.out f1
          replace c0 := cell_be hm2.out c0
          replace c1 := cell_be hm2.out c1
          replace c2 := cell_be hm2.out c2
          replace hnode := cell_be hm2.out hnode
          have hpo := porM_poly HPr.out (xs.take k ++ xs.drop (k + 1)) (m - 1) (by omega)
          have hWk := HWt.out k hlt
          have hX := getD_rng HXa.out hp k
          go_wp2_with fail
          refine (l07Nodes_any p aP (m - 1) dP (xs.take k ++ xs.drop (k + 1)) _ (by have t := Own.sl oP.out; rwa [hOl.out] at t) (by omega) HPr.out (HOt.out k hlt)).mono ?_
          rintro e w7 ⟨aF, cF, rfl, oF, t7⟩
          obtain ⟨f, hf⟩ : ∃ f, porM p (xs.take k ++ xs.drop (k + 1)) (m - 1) = f := ⟨_, rfl⟩
          rw [hf] at hpo hWk oF ⊢
          obtain ⟨X, hXX⟩ : ∃ X, xs.getD k 0 = X := ⟨_, rfl⟩
          rw [hXX] at hWk hX hnode
          have Hfa := hide (polyB_rng hpo.1).2.1
          have hfl : f.length = m := by rw [hpo.2]; omega
          replace f0 := cell_be t7 f0
          replace f1 := cell_be t7 f1
          replace c0 := cell_be t7 c0
          replace c1 := cell_be t7 c1
          replace c2 := cell_be t7 c2
          replace hnode := cell_be t7 hnode
          have hB7 : Below wr.heap.size wr w7 := hm2.out.trans (t7.mono hm2.out.size)
          have sF := hide (show SL w7 aF m cF f by have t := Own.sl oF; rwa [hfl] at t)
          have sM7 := hide (sM.out.below hB7)
          have r1 := dotK_rng hp f ms 0 f.length
          have r2 := invM_rng (evM p f X) hp
          have rE := evM_rng hp f X
          obtain ⟨A, hA⟩ : ∃ A, dotK p f ms 0 f.length = A := ⟨_, rfl⟩
          obtain ⟨E, hE⟩ : ∃ E, evM p f X = E := ⟨_, rfl⟩
          obtain ⟨I, hI2⟩ : ∃ I, invM p E = I := ⟨_, rfl⟩
          rw [hE] at r2 rE hWk
          rw [hI2] at r2 hWk
          rw [hA] at r1 hWk
          have HA := hide hA
          have HE2 := hide hE
          have HI2 := hide hI2
          have HWk := hide hWk
          obtain ⟨m1, m2⟩ := mulb r1.1 r1.2 r2.1 r2.2 hp2
          have v3 : IntKind.i64.wrap (A * I) = A * I := IntWalk.i64_in _ (by omega)
          have hp0 : ¬ p = 0 := by omega
          have v4 : (A * I).tmod p = (A * I) % p := Int.tmod_eq_emod_of_nonneg (by omega)
          have hRc := (hR.out.next hB7).cell k (by rw [tab_len]; exact hlt)
          have hRf := (hR.out.next hB7).free k
          rw [tab_at _ _ _ hlt, if_neg (by omega)] at hRc
          clear hpo hWk hf hXX oF t7 hA hE hI2 oP hm2 hOl sM
          go_upto_region 11 with fail
          have hbd := (Below.refl w7.heap.size w7).drew
          refine region_E (fun w' => w'.cell? ⟨w.heap.size, 0, none⟩ = some (.int .i64 p) ∧ w'.cell? ⟨w.heap.size, 1, none⟩ = some (.slice a n c) ∧ w'.cell? ⟨q, 2, none⟩ = some (.slice (some ⟨gW, 0, none⟩) m m) ∧ w'.cell? ⟨bb, bo + k, none⟩ = some (.int .i64 X)) 22 (by kernel_rfl) ⟨cell_be hbd f0, cell_be hbd f1, cell_be hbd c2, cell_be hbd hnode⟩ ?_
          intro hS
          refine anyE_takeL 0 rfl (by kernel_rfl) (fun _ _ _ h => h) hS (by rfl) (v := ?_) ?_ ?_
          rotate_left
          · intro w' hSw; (try dsimp only at hSw); go_simp; (try with_reducible rfl)
          try simp only [Act.put, List.setIfInBounds_toArray, List.set_cons_zero, List.set_cons_succ]
          refine anyE_takeL 1 rfl (by kernel_rfl) (fun _ _ _ h => h) hS (by rfl) (v := ?_) ?_ ?_
          rotate_left
          · intro w' hSw; (try dsimp only at hSw); go_simp; (try with_reducible rfl)
          try simp only [Act.put, List.setIfInBounds_toArray, List.set_cons_zero, List.set_cons_succ]
          refine anyE_takeL 2 rfl (by kernel_rfl) (fun _ _ _ h => h) hS (by rfl) (v := ?_) ?_ ?_
          rotate_left
          · intro w' hSw; (try dsimp only at hSw); go_simp; (try with_reducible rfl)
          try simp only [Act.put, List.setIfInBounds_toArray, List.set_cons_zero, List.set_cons_succ]
          refine anyE_takeL 3 rfl (by kernel_rfl) (fun _ _ _ h => h) hS (by rfl) (v := ?_) ?_ ?_
          rotate_left
          · intro w' hSw; (try dsimp only at hSw); go_simp; (try with_reducible rfl)
          try simp only [Act.put, List.setIfInBounds_toArray, List.set_cons_zero, List.set_cons_succ]
          refine anyE_takeL 4 rfl (by kernel_rfl) (fun _ _ _ h => h) hS (by rfl) (v := ?_) ?_ ?_
          rotate_left
          · intro w' hSw; (try dsimp only at hSw); go_simp; (try with_reducible rfl)
          try simp only [Act.put, List.setIfInBounds_toArray, List.set_cons_zero, List.set_cons_succ]
          refine anyE_takeL 6 rfl (by kernel_rfl) (fun _ _ _ h => h) hS (by rfl) (v := ?_) ?_ ?_
          rotate_left
          · intro w' hSw; (try dsimp only at hSw); go_simp; (try with_reducible rfl)
          try simp only [Act.put, List.setIfInBounds_toArray, List.set_cons_zero, List.set_cons_succ]
          refine anyE_takeL 7 rfl (by kernel_rfl) (fun _ _ _ h => h) hS (by rfl) (v := ?_) ?_ ?_
          rotate_left
          · intro w' hSw; (try dsimp only at hSw); go_simp; (try with_reducible rfl)
          try simp only [Act.put, List.setIfInBounds_toArray, List.set_cons_zero, List.set_cons_succ]
          refine anyE_takeL 8 rfl (by kernel_rfl) (fun _ _ _ h => h) hS (by rfl) (v := ?_) ?_ ?_
          rotate_left
          · intro w' hSw; (try dsimp only at hSw); go_simp; (try with_reducible rfl)
          try simp only [Act.put, List.setIfInBounds_toArray, List.set_cons_zero, List.set_cons_succ]
          refine anyE_takeL 9 rfl (by kernel_rfl) (fun _ _ _ h => h) hS (by rfl) (v := ?_) ?_ ?_
          rotate_left
          · intro w' hSw; (try dsimp only at hSw); go_simp; (try with_reducible rfl)
          try simp only [Act.put, List.setIfInBounds_toArray, List.set_cons_zero, List.set_cons_succ]
          refine anyE_takeL 10 rfl (by kernel_rfl) (fun _ _ _ h => h) hS (by rfl) (v := ?_) ?_ ?_
          rotate_left
          · intro w' hSw; (try dsimp only at hSw); go_simp; (try with_reducible rfl)
          try simp only [Act.put, List.setIfInBounds_toArray, List.set_cons_zero, List.set_cons_succ]
          refine anyE_takeL 11 rfl (by kernel_rfl) (fun _ _ _ h => h) hS (by rfl) (v := ?_) ?_ ?_
          rotate_left
          · intro w' hSw; (try dsimp only at hSw); go_simp; (try with_reducible rfl)
          try simp only [Act.put, List.setIfInBounds_toArray, List.set_cons_zero, List.set_cons_succ]
          refine anyE_takeL 12 rfl (by kernel_rfl) (fun _ _ _ h => h) hS (by rfl) (v := ?_) ?_ ?_
          rotate_left
          · intro w' hSw; (try dsimp only at hSw); go_simp; (try with_reducible rfl)
          try simp only [Act.put, List.setIfInBounds_toArray, List.set_cons_zero, List.set_cons_succ]
          refine anyE_takeL 13 rfl (by kernel_rfl) (fun _ _ _ h => h) hS (by rfl) (v := ?_) ?_ ?_
          rotate_left
          · intro w' hSw; (try dsimp only at hSw); go_simp; (try with_reducible rfl)
          try simp only [Act.put, List.setIfInBounds_toArray, List.set_cons_zero, List.set_cons_succ]
          refine anyE_takeL 14 rfl (by kernel_rfl) (fun _ _ _ h => h) hS (by rfl) (v := ?_) ?_ ?_
          rotate_left
          · intro w' hSw; (try dsimp only at hSw); go_simp; (try with_reducible rfl)
          try simp only [Act.put, List.setIfInBounds_toArray, List.set_cons_zero, List.set_cons_succ]
          refine anyE_takeL 18 rfl (by kernel_rfl) (fun _ _ _ h => h) hS (by rfl) (v := ?_) ?_ ?_
          rotate_left
          · intro w' hSw; (try dsimp only at hSw); go_simp; (try with_reducible rfl)
          try simp only [Act.put, List.setIfInBounds_toArray, List.set_cons_zero, List.set_cons_succ]
          refine anyE_takeL 19 rfl (by kernel_rfl) (fun _ _ _ h => h) hS (by rfl) (v := ?_) ?_ ?_
          rotate_left
          · intro w' hSw; (try dsimp only at hSw); go_simp; (try with_reducible rfl)
          try simp only [Act.put, List.setIfInBounds_toArray, List.set_cons_zero, List.set_cons_succ]
          refine anyE_oneL 5 (by kernel_rfl) rfl (fun K' hK' => ?_)
          go_simp
          refine (l07Apply_any p _ _ _ ms _ _ _ f _ (sM7.out.below hbd) (sF.out.below hbd) (by omega) (by omega) (by omega) hp hp2 Hfa.out HMa.out).mono ?_
          rintro e w8 ⟨rfl, t8⟩
          rw [HA.out]
          dsimp only
          have hb8 := bnext hbd t8
          clear hS
          have hS : w8.cell? ⟨w.heap.size, 0, none⟩ = some (.int .i64 p) ∧ w8.cell? ⟨w.heap.size, 1, none⟩ = some (.slice a n c) ∧ w8.cell? ⟨q, 2, none⟩ = some (.slice (some ⟨gW, 0, none⟩) m m) ∧ w8.cell? ⟨bb, bo + k, none⟩ = some (.int .i64 X) := ⟨cell_be hb8 f0, cell_be hb8 f1, cell_be hb8 c2, cell_be hb8 hnode⟩
          refine hK'.out _ _ hS ?_
          clear hK' K'
          try simp only [Act.put, List.setIfInBounds_toArray, List.set_cons_zero, List.set_cons_succ]
          refine anyE_oneL 15 (by kernel_rfl) rfl (fun K' hK' => ?_)
          go_simp
          refine (l01At_any p X _ _ _ f _ (sF.out.below hb8) (by omega) hp hp2 hX.1 hX.2 Hfa.out).mono ?_
          rintro e v8 ⟨rfl, rfl⟩
          rw [HE2.out]
          dsimp only
          refine hK'.out _ _ hS ?_
          clear hK' K'
          try simp only [Act.put, List.setIfInBounds_toArray, List.set_cons_zero, List.set_cons_succ]
          refine anyE_oneL 16 (by kernel_rfl) rfl (fun K' hK' => ?_)
          go_simp
          refine (l01Inverse_any p E _ hp hp2 rE.1 rE.2).mono ?_
          rintro e v9 ⟨rfl, rfl⟩
          rw [HI2.out]
          dsimp only
          refine hK'.out _ _ hS ?_
          clear hK' K'
          try simp only [Act.put, List.setIfInBounds_toArray, List.set_cons_zero, List.set_cons_succ]
          refine anyE_takeL 17 rfl (by kernel_rfl) (fun _ _ _ h => h) hS (by rfl) (v := ?_) ?_ ?_
          rotate_left
          · intro w' hSw; (try dsimp only at hSw); go_simp; (try with_reducible rfl)
          try simp only [Act.put, List.setIfInBounds_toArray, List.set_cons_zero, List.set_cons_succ]
          refine anyE_takeL 20 rfl (by kernel_rfl) (fun _ _ _ h => h) hS (by rfl) (v := ?_) ?_ ?_
          rotate_left
          · intro w' hSw; (try dsimp only at hSw); go_simp; (try with_reducible rfl)
          try simp only [Act.put, List.setIfInBounds_toArray, List.set_cons_zero, List.set_cons_succ]
          refine anyE_takeL 21 rfl (by kernel_rfl) (fun _ _ _ h => h) hS (by rfl) (v := ?_) ?_ ?_
          rotate_left
          · intro w' hSw; (try dsimp only at hSw); go_simp; (try with_reducible rfl)
          try simp only [Act.put, List.setIfInBounds_toArray, List.set_cons_zero, List.set_cons_succ]
          replace hRf := fr_of' hb8 hRc hRf
          replace hRc := cell_be hb8 hRc
          refine anyE_lastL (by kernel_rfl) rfl (by kernel_rfl) (fun K' hK' => ?_)
          go_simp
          refine hK'.out _ _ ?_
          clear hK' K'
          try simp only [Act.put, List.setIfInBounds_toArray, List.set_cons_zero, List.set_cons_succ]
          have hB8 : Below wr.heap.size wr w8 := hB7.trans (hb8.mono hB7.size)
          have hRn : Hid (RowI (w8.setCell ⟨gW, k, none⟩ (.int .i64 ((A * I) % p))) gW (tab m (fun j => if j < k + 1 then wfI p ms xs j else 0))) := hide (by
            have t := (hR.out.next hB8).set k (wfI p ms xs k)
            rw [row_step, HWk.out] at t
            exact t)
          have hNn : Hid (Own w2.heap.size (w8.setCell ⟨gW, k, none⟩ (.int .i64 ((A * I) % p))) a' c' xs) := hide ((hN.out.below hB8).otherG (fun h => HD4.out _ h rfl) _)
          have hCn := hide (And.intro (cell_set2 (cell_be hb8 c0) (Ne.symm D1) (.int .i64 ((A * I) % p)) (a := ⟨gW, k, none⟩)) (And.intro (cell_set2 (cell_be hb8 c1) (Ne.symm D1) (.int .i64 ((A * I) % p)) (a := ⟨gW, k, none⟩)) (cell_set2 (cell_be hb8 c2) (Ne.symm D1) (.int .i64 ((A * I) % p)) (a := ⟨gW, k, none⟩))))
          have hIn := hide ((hI.out.trans (hB8.mono (by omega))).setCell (p := ⟨gW, k, none⟩) (by simp; omega) (.int .i64 ((A * I) % p)))
          clear hR hN hC hI hS hb8 hbd t8 hB8 hB7 c0 c1 c2 f0 f1 hnode sF sM7 hRc hRf v3 v4
          go_wp2
          go_roundw
          case rel => exact ⟨k + 1, by omega, by go_num, hRn, hNn, hCn, hIn⟩
          case measure => simp [intOf]; omega
      · have hkm : Hid (k = m) := hide (by omega)
        have hge : ¬ (k : Int) < (m : Int) := by omega
        have r0 := cell_be hI.out E0
        have r1 := cell_be hI.out E1
        have r2 := cell_be hI.out E2
        have y0 := fr_of' hI.out E0 Y0
        have y1 := fr_of' hI.out E1 Y1
        have y2 := fr_of' hI.out E2 Y2
        obtain ⟨c0, c1, c2⟩ := hC.out
        have hBw : Below w.heap.size w wr := hB2.trans (hI.out.mono (by omega))
        have hzw := hI.out.size
        have hRm : RowI wr gW (tab m (wfI p ms xs)) := by
          have t := hR.out
          rw [hkm.out, show tab m (fun j => if j < m then wfI p ms xs j else 0) = tab m (wfI p ms xs) from tab_congr fun j hj => if_pos hj] at t
          exact t
        have oW : Own w2.heap.size wr (some ⟨gW, 0, none⟩) m (tab m (wfI p ms xs)) := by
          have t := hRm.own' D3 (by rw [tab_len]; unfold maxLen; omega)
          rwa [tab_len] at t
        have hJ : JZ w2.heap.size wr.heap.size wr a' m c' xs (some ⟨gW, 0, none⟩) m m (tab m (wfI p ms xs)) := JZ_of (OZ.of hN.out hl2.out.symm) (OZ.of oW (tab_len _ _).symm) (fun g h h2 => HD4.out g h (by simp [blk] at h2; exact h2.symm))
        have HJ := hide hJ
        clear hR hN hC hRm oW hJ
        go_wp2
        refine bodyPost_ret (v := .tuple #[jac p a' m c' (some ⟨gW, 0, none⟩) m m, .int .i64 0]) (by simp [results, Try.results12, go_sem, r0, r1, r2]) rfl ?_
        have j2 := ((HJ.out.setLow (x := ⟨w.heap.size + 1, 0, none⟩) (by simp; omega) (.int .i64 p)).setLow (x := ⟨w.heap.size + 1, 1, none⟩) (by simp; omega) (.slice a' m c')).setLow (x := ⟨w.heap.size + 1, 2, none⟩) (by simp; omega) (.slice (some ⟨gW, 0, none⟩) m m)
        exact ResJ.mk HQ.out HC.out (by rw [HV.out]; exact hl2.out.symm) (by rw [HU.out, tab_len]) (by rw [HV.out, HU.out]; simpa using j2.mono (lo' := w.heap.size) (by omega) (Nat.le_refl _)) (by rw [HV.out, hl2.out]; omega) (by rw [HU.out, tab_len]; omega) (((hBw.setCell (by simp) _).setCell (by simp) _).setCell (by simp) _)
end Go.Proofs.Ytcadiepghhnbeaa
