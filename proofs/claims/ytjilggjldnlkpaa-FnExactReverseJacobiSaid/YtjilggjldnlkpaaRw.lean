/- Contracts: ReverseJacobi (program and model). -/
import Derived.Test.YtjilggjldnlkpaaRv
import Derived.Test.YtjilggjldnlkpaaAx
namespace Go.Proofs.Ytjilggjldnlkpaa
open Go.RowKit
set_option linter.unusedVariables false
set_option linter.unusedSimpArgs false

def rvA (n : Nat) (xs : List Int) : List Int := tab n (fun j => xs.getD (n - 1 - j) 0)
def rvG (n : Nat) (ys : List Int) : Nat → Int := fun j => if 1 ≤ j then ys.getD (n - j) 0 else ys.getD j 0
def rvB (n : Nat) (ys : List Int) : List Int := tab n (rvG n ys)
def revC (p : Int) (xs ys : List Int) : Int := if jacB p xs ys then 0 else 1
def revP (p : Int) (xs ys : List Int) : Int := if revC p xs ys = 0 then p else 0
def revV (p : Int) (xs ys : List Int) : List Int := if revC p xs ys = 0 then rvA xs.length xs else []
def revU (p : Int) (xs ys : List Int) : List Int := if revC p xs ys = 0 then rvB xs.length ys else []
theorem rvA_of (n : Nat) (xs : List Int) : tab (0 + n) (fun j => if 0 ≤ j then xs.getD (0 + (0 + n - 1 - j)) 0 else xs.getD j 0) = rvA n xs := by
  unfold rvA
  rw [Nat.zero_add]
  apply tab_congr
  intro j hj
  rw [if_pos (by omega)]
  congr 1; omega
theorem rvB_of (n : Nat) (ys : List Int) (hn : 1 ≤ n) : tab (1 + (n - 1)) (fun j => if 1 ≤ j then ys.getD (1 + (1 + (n - 1) - 1 - j)) 0 else ys.getD j 0) = rvB n ys := by
  unfold rvB
  rw [show 1 + (n - 1) = n by omega]
  apply tab_congr
  intro j hj
  unfold rvG
  by_cases h : 1 ≤ j
  · rw [if_pos h, if_pos h]
    congr 1; omega
  · rw [if_neg h, if_neg h]
theorem rvB_one (ys : List Int) : rvB 1 ys = tab 1 (fun j => ys.getD j 0) := by
  unfold rvB
  apply tab_congr
  intro j hj
  unfold rvG
  rw [if_neg (by omega)]
theorem own_lit0 (w : World) : Own w.heap.size (w.alloc (.cells #[] 2)) (some ⟨w.heap.size, 0, none⟩) 0 [] :=
  World.ownsRow_lit w (base := w.heap.size) (e := 2) (size := 1) #[] 0 (Nat.le_refl _) (by decide) rfl
theorem own_lit0' (w : World) (q : Nat) (hq : q = w.heap.size) (B : Nat) (hB : B ≤ q) : Own B (w.alloc (.cells #[] 2)) (some ⟨q, 0, none⟩) 0 [] := by subst hq; exact (own_lit0 w).mono hB
theorem own_lit1 (w : World) (v : Int) : Own w.heap.size (w.alloc (.cells #[.int .i64 v] 2)) (some ⟨w.heap.size, 0, none⟩) 1 [v] :=
  World.ownsRow_lit w (base := w.heap.size) (e := 2) (size := 1) #[.int .i64 v] 1 (Nat.le_refl _) (by first | decide | simp) rfl
theorem own_lit1' (w : World) (v : Int) (q : Nat) (hq : q = w.heap.size) (B : Nat) (hB : B ≤ q) : Own B (w.alloc (.cells #[.int .i64 v] 2)) (some ⟨q, 0, none⟩) 1 [v] := by subst hq; exact (own_lit1 w v).mono hB
theorem reverse_row (B g o n cap c : Nat) (h : Nat → Int) (w : World) (ho : Own B w (some ⟨g, 0, none⟩) cap (tab (o + n) h)) (hn2 : n ≤ 1000) (ho2 : o ≤ 1000) :
    Calls Try.prog 64 #[.slice (some ⟨g, o, none⟩) n c] w fun e w' => e = .returned (.tuple #[]) ∧ Own B w' (some ⟨g, 0, none⟩) cap (tab (o + n) (fun j => if o ≤ j then h (o + (o + n - 1 - j)) else h j)) ∧ Touch g (g + 1) w w' := by
  by_cases hn : 2 ≤ n
  · exact reverse_any B g o n cap c h w ho hn hn2 ho2
  · refine (reverse_small _ _ _ _ (by omega)).mono ?_
    rintro e w' ⟨rfl, rfl⟩
    refine ⟨rfl, ?_, ⟨rfl, rfl, rfl, Nat.le_refl _, fun _ _ _ => rfl⟩⟩
    have e : tab (o + n) (fun j => if o ≤ j then h (o + (o + n - 1 - j)) else h j) = tab (o + n) h := by
      apply tab_congr
      intro j hj
      by_cases h1 : o ≤ j
      · rw [if_pos h1]
        congr 1; omega
      · rw [if_neg h1]
    rw [e]
    exact ho
set_option maxRecDepth 100000 in
set_option maxHeartbeats 3200000 in
theorem implReverseJacobi (p : Int) (x : Option Addr) (n c : Nat) (xs : List Int) (y : Option Addr) (m d : Nat) (ys : List Int) (w : World) (hs : SL w x n c xs) (ht : SL w y m d ys) (hn : n ≤ 4000000) (hm : m ≤ 4000000) :
    Calls Try.prog 27 #[jac p x n c y m d] w (ResJ w (revP p xs ys) (revV p xs ys) (revU p xs ys) (revC p xs ys)) := by
  have hl := hide hs.len
  have hl2 := hide ht.len
  have hb0 := bl2 w (.cells #[.int .i64 p, .slice x n c, .slice y m d] 27) (.cells #[.int .i64 0, .slice none 0 0, .slice none 0 0] 27)
  have g1 := hs.below hb0
  have g2 := ht.below hb0
  have hz0 : w.heap.size + 1 < ((w.alloc (.cells #[.int .i64 p, .slice x n c, .slice y m d] 27)).alloc (.cells #[.int .i64 0, .slice none 0 0, .slice none 0 0] 27)).heap.size := by simp
  cases hj : jacB p xs ys
  · have Hj := hide hj
    have HC := hide (show revC p xs ys = 1 by simp [revC, hj])
    have HV := hide (show revV p xs ys = [] by simp [revV, HC.out])
    have HU := hide (show revU p xs ys = [] by simp [revU, HC.out])
    have HQ := hide (show revP p xs ys = 0 by simp [revP, HC.out])
    clear hj
    go_enter Try.func27, Try.ntmps27
    go_wp2_with fail
    refine (implIsJacobi _ _ _ _ _ _ _ _ _ _ g1 g2 hn hm).mono ?_
    rintro e w2 ⟨rfl, hm2⟩
    rw [Hj.out]
    have hB2 := bnext hb0 hm2
    have z2 := hm2.size
    simp at z2
    have f0 : w2.cell? ⟨w.heap.size, 0, none⟩ = some (.int .i64 p) := cell_be hm2 (by simp [go_sem])
    have f1 : w2.cell? ⟨w.heap.size, 1, none⟩ = some (.slice x n c) := cell_be hm2 (by simp [go_sem])
    have f2 : w2.cell? ⟨w.heap.size, 2, none⟩ = some (.slice y m d) := cell_be hm2 (by simp [go_sem])
    have r0 : w2.cell? ⟨w.heap.size + 1, 0, none⟩ = some (.int .i64 0) := cell_be hm2 (by simp [go_sem])
    have r1 : w2.cell? ⟨w.heap.size + 1, 1, none⟩ = some (.slice none 0 0) := cell_be hm2 (by simp [go_sem])
    have r2 : w2.cell? ⟨w.heap.size + 1, 2, none⟩ = some (.slice none 0 0) := cell_be hm2 (by simp [go_sem])
    have y0 : w2.frozen? ⟨w.heap.size + 1, 0, none⟩ = false := (hm2.frozen (by simp)).trans (by simp [go_sem])
    have y1 : w2.frozen? ⟨w.heap.size + 1, 1, none⟩ = false := (hm2.frozen (by simp)).trans (by simp [go_sem])
    have y2 : w2.frozen? ⟨w.heap.size + 1, 2, none⟩ = false := (hm2.frozen (by simp)).trans (by simp [go_sem])
    go_wp2
    refine bodyPost_ret (v := .tuple #[jac 0 none 0 0 none 0 0, .int .i64 1]) (by simp [results, Try.results27, go_sem, r0, r1, r2]) rfl ?_
    exact ResJ.nil HQ.out HV.out HU.out HC.out (((hB2.setCell (by simp) _).setCell (by simp) _).setCell (by simp) _)
  have Hj := hide hj
  obtain ⟨hpr, n1, n2, n3, hx, hy⟩ := jacB_rng hj
  obtain ⟨hp, hp2⟩ := primeB_lo hpr
  rw [hl.out] at n1 n2 n3
  rw [hl2.out] at n3
  subst n3
  clear hx hy hpr
  have HC := hide (show revC p xs ys = 0 by simp [revC, hj])
  have HV := hide (show revV p xs ys = rvA m xs by simp [revV, HC.out, hl.out])
  have HU := hide (show revU p xs ys = rvB m ys by simp [revU, HC.out, hl.out])
  have HQ := hide (show revP p xs ys = p by simp [revP, HC.out])
  clear hj
  go_enter Try.func27, Try.ntmps27
  go_wp2_with fail
  refine (implIsJacobi _ _ _ _ _ _ _ _ _ _ g1 g2 hn hm).mono ?_
  rintro e w2 ⟨rfl, hm2⟩
  rw [Hj.out]
  have hB2 := bnext hb0 hm2
  have z2 := hm2.size
  simp at z2
  have f0 : w2.cell? ⟨w.heap.size, 0, none⟩ = some (.int .i64 p) := cell_be hm2 (by simp [go_sem])
  have f1 : w2.cell? ⟨w.heap.size, 1, none⟩ = some (.slice x m c) := cell_be hm2 (by simp [go_sem])
  have f2 : w2.cell? ⟨w.heap.size, 2, none⟩ = some (.slice y m d) := cell_be hm2 (by simp [go_sem])
  have r0 : w2.cell? ⟨w.heap.size + 1, 0, none⟩ = some (.int .i64 0) := cell_be hm2 (by simp [go_sem])
  have r1 : w2.cell? ⟨w.heap.size + 1, 1, none⟩ = some (.slice none 0 0) := cell_be hm2 (by simp [go_sem])
  have r2 : w2.cell? ⟨w.heap.size + 1, 2, none⟩ = some (.slice none 0 0) := cell_be hm2 (by simp [go_sem])
  have y0 : w2.frozen? ⟨w.heap.size + 1, 0, none⟩ = false := (hm2.frozen (by simp)).trans (by simp [go_sem])
  have y1 : w2.frozen? ⟨w.heap.size + 1, 1, none⟩ = false := (hm2.frozen (by simp)).trans (by simp [go_sem])
  have y2 : w2.frozen? ⟨w.heap.size + 1, 2, none⟩ = false := (hm2.frozen (by simp)).trans (by simp [go_sem])
  have F2 : ∀ w', Below w2.heap.size w2 w' → Below w2.heap.size w2 w' ∧ w'.cell? ⟨w.heap.size, 0, none⟩ = some (.int .i64 p) ∧ w'.cell? ⟨w.heap.size, 1, none⟩ = some (.slice x m c) ∧ w'.cell? ⟨w.heap.size, 2, none⟩ = some (.slice y m d) := fun w' h => ⟨h, cell_be h f0, cell_be h f1, cell_be h f2⟩
  have GK : ∀ w', (Below w2.heap.size w2 w' ∧ w'.cell? ⟨w.heap.size, 0, none⟩ = some (.int .i64 p) ∧ w'.cell? ⟨w.heap.size, 1, none⟩ = some (.slice x m c) ∧ w'.cell? ⟨w.heap.size, 2, none⟩ = some (.slice y m d)) → Below w2.heap.size w2 w' := fun w' h => h.1
  go_upto_region 3 with fail
  go_cut [4] (fun sq wx => ∃ (q ga gb c' d' : Nat), sq = .pointer (some ⟨q, 0, none⟩) ∧ Hid (wx.cell? ⟨q, 0, none⟩ = some (.int .i64 p) ∧ wx.cell? ⟨q, 1, none⟩ = some (.slice (some ⟨ga, 0, none⟩) m c') ∧ wx.cell? ⟨q, 2, none⟩ = some (.slice (some ⟨gb, 0, none⟩) m d')) ∧
      Hid (ga ≠ gb ∧ ga ≠ q ∧ gb ≠ q) ∧ Hid (w2.heap.size ≤ ga ∧ w2.heap.size ≤ gb ∧ w2.heap.size ≤ q) ∧ Hid (Own w2.heap.size wx (some ⟨ga, 0, none⟩) c' xs) ∧ Hid (Own w2.heap.size wx (some ⟨gb, 0, none⟩) d' ys) ∧ Hid (Below w2.heap.size w2 wx))
  case first =>
    go_region_held3 (fun w' => Below w2.heap.size w2 w' ∧ w'.cell? ⟨w.heap.size, 0, none⟩ = some (.int .i64 p) ∧ w'.cell? ⟨w.heap.size, 1, none⟩ = some (.slice x m c) ∧ w'.cell? ⟨w.heap.size, 2, none⟩ = some (.slice y m d))
      (first | exact F2 _ (by assumption) | exact F2 _ (((Below.refl _ _).alloc (Nat.le_refl _) _).drew) | exact F2 _ ((Below.refl _ _).drew) | exact F2 _ (Below.alloc (by assumption) (Below.size (by assumption)) _) | exact F2 _ (Below.setCell (Below.setCell (Below.setCell (by assumption) (by first | omega | (simp; done) | (simp; omega)) _) (by first | omega | (simp; done) | (simp; omega)) _) (by first | omega | (simp; done) | (simp; omega)) _))
      (first
      | (go_at_call 61; go_fit (sizeOf_any _ _ _ _ _ _ _ _ hn); rintro e w3 ⟨rfl, hb3⟩; have hm3 := bnext (GK _ (by assumption)) hb3; have zz3 := Below.size hm3; have ts3 := Below.size hb3; (try simp at ts3); first | (with_reducible have alx := alc3 hb3; have al0 := alx.1.1; have al1 := alx.1.2.1; have al2 := alx.1.2.2; have af0 := alx.2.1; have af1 := alx.2.2.1; have af2 := alx.2.2.2; clear alx) | (with_reducible have alx := alcD3 hb3; have al0 := alx.1.1; have al1 := alx.1.2.1; have al2 := alx.1.2.2; have af0 := alx.2.1; have af1 := alx.2.2.1; have af2 := alx.2.2.2; clear alx) | (have af0 := (Below.frozen hb3 (World.block_lt_of_cell? _ _ al0)).trans af0; have af1 := (Below.frozen hb3 (World.block_lt_of_cell? _ _ al1)).trans af1; have af2 := (Below.frozen hb3 (World.block_lt_of_cell? _ _ al2)).trans af2; have al0 := cell_be hb3 al0; have al1 := cell_be hb3 al1; have al2 := cell_be hb3 al2) | skip)
      | (go_at_call 62; go_fit (partOf_any _ _ _ _ _ _ _ _ 0 m _ (g1.below (bnext hm2 (GK _ (by assumption)))) (g2.below (bnext hm2 (GK _ (by assumption)))) (by omega) (by omega) hn); rintro e w4 ⟨a', c', b', d', rfl, ho, hb4⟩; have hm4 := bnext (GK _ (by assumption)) hb4; have zz4 := Below.size hm4; have ts4 := Below.size hb4; (try simp at ts4); first | (with_reducible have alx := alc3 hb4; have al0 := alx.1.1; have al1 := alx.1.2.1; have al2 := alx.1.2.2; have af0 := alx.2.1; have af1 := alx.2.2.1; have af2 := alx.2.2.2; clear alx) | (with_reducible have alx := alcD3 hb4; have al0 := alx.1.1; have al1 := alx.1.2.1; have al2 := alx.1.2.2; have af0 := alx.2.1; have af1 := alx.2.2.1; have af2 := alx.2.2.2; clear alx) | (have af0 := (Below.frozen hb4 (World.block_lt_of_cell? _ _ al0)).trans af0; have af1 := (Below.frozen hb4 (World.block_lt_of_cell? _ _ al1)).trans af1; have af2 := (Below.frozen hb4 (World.block_lt_of_cell? _ _ al2)).trans af2; have al0 := cell_be hb4 al0; have al1 := cell_be hb4 al1; have al2 := cell_be hb4 al2) | skip; simp only [Nat.sub_zero, List.drop_zero] at ho))
    all_goals go_wp2_with fail
    all_goals go_meet
    all_goals
      rw [List.take_of_length_le (by rw [hl.out]; exact Nat.le_refl _), List.take_of_length_le (by rw [hl2.out]; exact Nat.le_refl _)] at ho
      obtain ⟨ga, gb, rfl, rfl, d1, d2, d3, d4, d5, oA, oB⟩ := ho.rows (by omega) (by omega)
      (try simp at d2)
      (try simp at d4)
      first
      | exact ⟨_, ga, gb, c', d', rfl, hide ⟨cell_set2' (cell_set2' (World.cell?_setCell_same _ _ _ al0) (by simp) _) (by simp) _, cell_set2' (World.cell?_setCell_same _ _ _ (cell_set2' al1 (by simp) _)) (by simp) _, World.cell?_setCell_same _ _ _ (cell_set2' (cell_set2' al2 (by simp) _) (by simp) _)⟩, hide ⟨d1, (by first | omega | (simp; done) | (simp; omega)), (by first | omega | (simp; done) | (simp; omega))⟩, hide ⟨(by first | omega | (simp; done) | (simp; omega)), (by first | omega | (simp; done) | (simp; omega)), (by first | omega | (simp; done) | (simp; omega))⟩, hide ((((oA.setLow (by first | omega | (simp; done) | (simp; omega)) _).setLow (by first | omega | (simp; done) | (simp; omega)) _).setLow (by first | omega | (simp; done) | (simp; omega)) _).mono (by first | omega | (simp; done) | (simp; omega))), hide ((((oB.setLow (by first | omega | (simp; done) | (simp; omega)) _).setLow (by first | omega | (simp; done) | (simp; omega)) _).setLow (by first | omega | (simp; done) | (simp; omega)) _).mono (by first | omega | (simp; done) | (simp; omega))), hide (((hm4.setCell (by first | omega | (simp; done) | (simp; omega)) _).setCell (by first | omega | (simp; done) | (simp; omega)) _).setCell (by first | omega | (simp; done) | (simp; omega)) _)⟩
      | exact ⟨_, ga, gb, c', d', rfl, hide ⟨by simp [go_sem], by simp [go_sem], by simp [go_sem]⟩, hide ⟨d1, (by first | omega | (simp; done) | (simp; omega)), (by first | omega | (simp; done) | (simp; omega))⟩, hide ⟨(by first | omega | (simp; done) | (simp; omega)), (by first | omega | (simp; done) | (simp; omega)), (by first | omega | (simp; done) | (simp; omega))⟩, hide ((oA.below (bl1 _ _)).mono (by first | omega | (simp; done) | (simp; omega))), hide ((oB.below (bl1 _ _)).mono (by first | omega | (simp; done) | (simp; omega))), hide (hm4.alloc (Below.size hm4) _)⟩
  case rest =>
    obtain ⟨q, ga, gb, c', d', rfl, hq, hd, hge, oA, oB, hW⟩ := hcut
    obtain ⟨w5, hu⟩ : ∃ u, u = wc := ⟨wc, rfl⟩
    subst hu
    clear F2 GK
    obtain ⟨d1, d2, d3⟩ := hd.out
    obtain ⟨e1, e2, e3⟩ := hge.out
    have hz5 := hW.out.size
    obtain ⟨q0, q1, q2⟩ := hq.out
    have hcd := (Own.sl oB.out).le
    rw [hl2.out] at hcd
    go_wp2_with fail
    refine (reverse_row w2.heap.size ga 0 m c' _ (fun j => xs.getD j 0) _ (by rw [Nat.zero_add, ← tab_of xs m hl.out]; exact oA.out) (by omega) (by omega)).mono ?_
    rintro e w6 ⟨rfl, oA6, t6⟩
    have oA7 := hide oA6
    rw [rvA_of m xs] at oA7
    have oB6 := hide (Own.touch oB.out t6 (fun g e => by simp [blk] at e; omega))
    have p0 := t6.cell q0 (by omega)
    have p1 := t6.cell q1 (by omega)
    have p2 := t6.cell q2 (by omega)
    have hW6 := hide (below_touch hW.out t6 (by omega) (by omega))
    have z7 := t6.size
    clear oA6 oA oB hq hW q0 q1 q2 t6
    by_cases hm1 : m = 1
    · subst hm1
      have key : d' = 1 ∨ ¬ d' = 1 := by omega
      rcases key with hd1 | hd1
      · subst hd1
        go_wp2_with fail
        refine (reverse_small _ _ _ _ (by omega)).mono ?_
        rintro e wr ⟨rfl, rfl⟩
        have oA := oA7
        have oB : Hid (Own w2.heap.size w6 (some ⟨gb, 0, none⟩) 1 (rvB 1 ys)) := hide (by rw [rvB_one, ← tab_of ys 1 hl2.out]; exact oB6.out)
        have hW' := hW6
        have r0' := cell_be hW'.out r0
        have r1' := cell_be hW'.out r1
        have r2' := cell_be hW'.out r2
        have y0' := (hW'.out.frozen (World.block_lt_of_cell? _ _ r0)).trans y0
        have y1' := (hW'.out.frozen (World.block_lt_of_cell? _ _ r1)).trans y1
        have y2' := (hW'.out.frozen (World.block_lt_of_cell? _ _ r2)).trans y2
        clear r0 r1 r2 y0 y1 y2
        have z6 := hW'.out.size
        go_wp2
        refine bodyPost_ret (v := .tuple #[jac p (some ⟨ga, 0, none⟩) 1 c' (some ⟨gb, 0, none⟩) 1 1, .int .i64 0]) (by simp [results, Try.results27, go_sem, r0', r1', r2']) rfl ?_
        have jz : JZ w2.heap.size w6.heap.size w6 (some ⟨ga, 0, none⟩) 1 c' (rvA 1 xs) (some ⟨gb, 0, none⟩) 1 1 (rvB 1 ys) := ⟨OZ.of oA.out (tab_len _ _).symm, OZ.of oB.out (tab_len _ _).symm, .inr (.inr (by simp [blk]; omega))⟩
        have jz2 := ((jz.setLow (x := ⟨w.heap.size + 1, 0, none⟩) (by simp; omega) (.int .i64 p)).setLow (x := ⟨w.heap.size + 1, 1, none⟩) (by simp; omega) (.slice (some ⟨ga, 0, none⟩) 1 c')).setLow (x := ⟨w.heap.size + 1, 2, none⟩) (by simp; omega) (.slice (some ⟨gb, 0, none⟩) 1 1)
        exact ResJ.mk HQ.out HC.out (by rw [HV.out]; exact (tab_len _ _).symm) (by rw [HU.out]; exact (tab_len _ _).symm) (by rw [HV.out, HU.out]; simpa using jz2.mono (lo' := w.heap.size) (by omega) (Nat.le_refl _)) (by rw [HV.out]; unfold rvA; rw [tab_len]; omega) (by rw [HU.out]; unfold rvB; rw [tab_len]; omega) ((((hB2.trans (hW'.out.mono (by omega))).setCell (by simp) _).setCell (by simp) _).setCell (by simp) _)
      · go_wp2_with fail
        refine (reverse_small _ _ _ _ (by omega)).mono ?_
        rintro e wr ⟨rfl, rfl⟩
        have oA := oA7
        have oB : Hid (Own w2.heap.size w6 (some ⟨gb, 0, none⟩) d' (rvB 1 ys)) := hide (by rw [rvB_one, ← tab_of ys 1 hl2.out]; exact oB6.out)
        have hW' := hW6
        have r0' := cell_be hW'.out r0
        have r1' := cell_be hW'.out r1
        have r2' := cell_be hW'.out r2
        have y0' := (hW'.out.frozen (World.block_lt_of_cell? _ _ r0)).trans y0
        have y1' := (hW'.out.frozen (World.block_lt_of_cell? _ _ r1)).trans y1
        have y2' := (hW'.out.frozen (World.block_lt_of_cell? _ _ r2)).trans y2
        clear r0 r1 r2 y0 y1 y2
        have z6 := hW'.out.size
        go_wp2
        refine bodyPost_ret (v := .tuple #[jac p (some ⟨ga, 0, none⟩) 1 c' (some ⟨gb, 0, none⟩) 1 d', .int .i64 0]) (by simp [results, Try.results27, go_sem, r0', r1', r2']) rfl ?_
        have jz : JZ w2.heap.size w6.heap.size w6 (some ⟨ga, 0, none⟩) 1 c' (rvA 1 xs) (some ⟨gb, 0, none⟩) 1 d' (rvB 1 ys) := ⟨OZ.of oA.out (tab_len _ _).symm, OZ.of oB.out (tab_len _ _).symm, .inr (.inr (by simp [blk]; omega))⟩
        have jz2 := ((jz.setLow (x := ⟨w.heap.size + 1, 0, none⟩) (by simp; omega) (.int .i64 p)).setLow (x := ⟨w.heap.size + 1, 1, none⟩) (by simp; omega) (.slice (some ⟨ga, 0, none⟩) 1 c')).setLow (x := ⟨w.heap.size + 1, 2, none⟩) (by simp; omega) (.slice (some ⟨gb, 0, none⟩) 1 d')
        exact ResJ.mk HQ.out HC.out (by rw [HV.out]; exact (tab_len _ _).symm) (by rw [HU.out]; exact (tab_len _ _).symm) (by rw [HV.out, HU.out]; simpa using jz2.mono (lo' := w.heap.size) (by omega) (Nat.le_refl _)) (by rw [HV.out]; unfold rvA; rw [tab_len]; omega) (by rw [HU.out]; unfold rvB; rw [tab_len]; omega) ((((hB2.trans (hW'.out.mono (by omega))).setCell (by simp) _).setCell (by simp) _).setCell (by simp) _)
    · have e5 : ¬ d' = 1 := by omega
      have e6 : (1 : Int) ≤ (m : Int) := by omega
      go_wp2_with fail
      refine (reverse_row w2.heap.size gb 1 (m - 1) d' _ (fun j => ys.getD j 0) _ (by rw [show 1 + (m - 1) = m by omega, ← tab_of ys m hl2.out]; exact oB6.out) (by omega) (by omega)).mono ?_
      rintro e wr ⟨rfl, oB7, t7⟩
      have oB := hide oB7
      rw [rvB_of m ys (by omega)] at oB
      have oA := hide (Own.touch oA7.out t7 (fun g e => by simp [blk] at e; omega))
      have p0 := t7.cell p0 (by omega)
      have p1 := t7.cell p1 (by omega)
      have p2 := t7.cell p2 (by omega)
      have hW' := hide (below_touch hW6.out t7 (by omega) (by omega))
      clear oB7 oA7 oB6 hW6 t7
      have r0' := cell_be hW'.out r0
      have r1' := cell_be hW'.out r1
      have r2' := cell_be hW'.out r2
      have y0' := (hW'.out.frozen (World.block_lt_of_cell? _ _ r0)).trans y0
      have y1' := (hW'.out.frozen (World.block_lt_of_cell? _ _ r1)).trans y1
      have y2' := (hW'.out.frozen (World.block_lt_of_cell? _ _ r2)).trans y2
      clear r0 r1 r2 y0 y1 y2
      have z6 := hW'.out.size
      go_wp2
      refine bodyPost_ret (v := .tuple #[jac p (some ⟨ga, 0, none⟩) m c' (some ⟨gb, 0, none⟩) m d', .int .i64 0]) (by simp [results, Try.results27, go_sem, r0', r1', r2']) rfl ?_
      have jz : JZ w2.heap.size wr.heap.size wr (some ⟨ga, 0, none⟩) m c' (rvA m xs) (some ⟨gb, 0, none⟩) m d' (rvB m ys) := ⟨OZ.of oA.out (tab_len _ _).symm, OZ.of oB.out (tab_len _ _).symm, .inr (.inr (by simp [blk]; omega))⟩
      have jz2 := ((jz.setLow (x := ⟨w.heap.size + 1, 0, none⟩) (by simp; omega) (.int .i64 p)).setLow (x := ⟨w.heap.size + 1, 1, none⟩) (by simp; omega) (.slice (some ⟨ga, 0, none⟩) m c')).setLow (x := ⟨w.heap.size + 1, 2, none⟩) (by simp; omega) (.slice (some ⟨gb, 0, none⟩) m d')
      exact ResJ.mk HQ.out HC.out (by rw [HV.out]; exact (tab_len _ _).symm) (by rw [HU.out]; exact (tab_len _ _).symm) (by rw [HV.out, HU.out]; simpa using jz2.mono (lo' := w.heap.size) (by omega) (Nat.le_refl _)) (by rw [HV.out]; unfold rvA; rw [tab_len]; omega) (by rw [HU.out]; unfold rvB; rw [tab_len]; omega) ((((hB2.trans (hW'.out.mono (by omega))).setCell (by simp) _).setCell (by simp) _).setCell (by simp) _)
end Go.Proofs.Ytjilggjldnlkpaa
