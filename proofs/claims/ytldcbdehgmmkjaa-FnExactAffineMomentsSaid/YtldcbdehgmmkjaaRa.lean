/- Contracts: AffineJacobi (program and model). -/
import Derived.Test.YtldcbdehgmmkjaaJc
import Derived.Test.YtldcbdehgmmkjaaPa
import Derived.Test.YtldcbdehgmmkjaaRx
import Derived.Deep.DeepFit
namespace Go.Proofs.Ytldcbdehgmmkjaa
open Go.RowKit
set_option linter.unusedVariables false
set_option linter.unusedSimpArgs false

def afA (p a c : Int) (xs : List Int) (m : Nat) : Nat → Int := fun j => if j < m then (a * xs.getD j 0 + c) % p else xs.getD j 0
def afB (p a : Int) (ys : List Int) (m : Nat) : Nat → Int := fun j => if 0 < j ∧ j < m then a * a % p * ys.getD j 0 % p else ys.getD j 0
theorem afA_step (p a c : Int) (xs : List Int) (N m : Nat) : (tab N (afA p a c xs m)).set m ((a * xs.getD m 0 + c) % p) = tab N (afA p a c xs (m + 1)) := by
  rw [tab_set]
  apply tab_congr
  intro j _
  unfold afA
  by_cases e : j = m
  · subst e; simp
  · rw [if_neg e]
    by_cases h : j < m
    · rw [if_pos h, if_pos (by omega)]
    · rw [if_neg h, if_neg (by omega)]
theorem afB_step (p a : Int) (ys : List Int) (N m : Nat) (hm : 0 < m) : (tab N (afB p a ys m)).set m (a * a % p * ys.getD m 0 % p) = tab N (afB p a ys (m + 1)) := by
  rw [tab_set]
  apply tab_congr
  intro j _
  unfold afB
  by_cases e : j = m
  · subst e; simp [hm]
  · rw [if_neg e]
    by_cases h : 0 < j ∧ j < m
    · rw [if_pos h, if_pos (by omega)]
    · rw [if_neg h, if_neg (by omega)]
theorem afB_one (p a : Int) (ys : List Int) (N : Nat) : tab N (afB p a ys 0) = tab N (afB p a ys 1) := by
  apply tab_congr
  intro j _
  unfold afB
  rw [if_neg (by omega), if_neg (by omega)]
theorem afA_zero (p a c : Int) (xs : List Int) (N : Nat) (h : xs.length = N) : tab N (afA p a c xs 0) = xs := by
  conv => rhs; rw [tab_of xs N h]
  apply tab_congr
  intro j _
  unfold afA
  rw [if_neg (by omega)]
theorem afB_zero (p a : Int) (ys : List Int) (N : Nat) (h : ys.length = N) : tab N (afB p a ys 0) = ys := by
  conv => rhs; rw [tab_of ys N h]
  apply tab_congr
  intro j _
  unfold afB
  rw [if_neg (by omega)]
def affC (p : Int) (xs ys : List Int) (a c : Int) : Int := if jacB p xs ys then (if (1 ≤ a ∧ a < p) ∧ (0 ≤ c ∧ c < p) then 0 else 2) else 1
def affP (p : Int) (xs ys : List Int) (a c : Int) : Int := if affC p xs ys a c = 0 then p else 0
def affV (p : Int) (xs ys : List Int) (a c : Int) : List Int := if affC p xs ys a c = 0 then tab xs.length (afA p a c xs xs.length) else []
def affU (p : Int) (xs ys : List Int) (a c : Int) : List Int := if affC p xs ys a c = 0 then tab xs.length (afB p a ys xs.length) else []
/-- Two rows of the call's own, apart from each other. -/
theorem JZ.rows {lo hi : Nat} {w : World} {a : Option Addr} {n c : Nat} {xs : List Int} {b : Option Addr} {m d : Nat} {ys : List Int} (h : JZ lo hi w a n c xs b m d ys) (h1 : n ≠ 0) (h2 : m ≠ 0) :
    ∃ ga gb, a = some ⟨ga, 0, none⟩ ∧ b = some ⟨gb, 0, none⟩ ∧ ga ≠ gb ∧ lo ≤ ga ∧ ga < hi ∧ lo ≤ gb ∧ gb < hi ∧ Own lo w a c xs ∧ Own lo w b d ys := by
  have e1 := h.1.len
  have e2 := h.2.1.len
  rcases h.1.2 with h0 | ⟨o1, g1, k1, q1⟩
  · exact absurd h0 h1
  rcases h.2.1.2 with h0 | ⟨o2, g2, k2, q2⟩
  · exact absurd h0 h2
  obtain ⟨ga, ra, x1, x2, _⟩ := o1.blkG (by omega)
  obtain ⟨gb, rb, y1, y2, _⟩ := o2.blkG (by omega)
  subst ra
  subst rb
  cases k1
  cases k2
  refine ⟨ga, gb, rfl, rfl, ?_, x1, q1, y1, q2, o1, o2⟩
  rcases h.2.2 with h0 | h0 | h0
  · exact absurd h0 h1
  · exact absurd h0 h2
  · intro e
    exact h0 (by simp [blk, e])
set_option maxRecDepth 100000 in
set_option maxHeartbeats 3200000 in
theorem implAffineJacobi (p : Int) (x : Option Addr) (n c : Nat) (xs : List Int) (y : Option Addr) (m d : Nat) (ys : List Int) (a k : Int) (w : World) (hs : SL w x n c xs) (ht : SL w y m d ys) (hn : n ≤ 4000000) (hm : m ≤ 4000000) :
    Calls Try.prog 58 #[jac p x n c y m d, .int .i64 a, .int .i64 k] w (ResJ w (affP p xs ys a k) (affV p xs ys a k) (affU p xs ys a k) (affC p xs ys a k)) := by
  have hl := hide hs.len
  have hl2 := hide ht.len
  have hb0 := bl2 w (.cells #[.int .i64 p, .slice x n c, .slice y m d] 39) (.cells #[.int .i64 0, .slice none 0 0, .slice none 0 0] 39)
  have g1 := hs.below hb0
  have g2 := ht.below hb0
  have hz0 : w.heap.size + 1 < ((w.alloc (.cells #[.int .i64 p, .slice x n c, .slice y m d] 39)).alloc (.cells #[.int .i64 0, .slice none 0 0, .slice none 0 0] 39)).heap.size := by simp
  cases hj : jacB p xs ys
  · have Hj := hide hj
    have HC := hide (show affC p xs ys a k = 1 from by simp [affC, hj])
    have HV := hide (show affV p xs ys a k = [] by simp [affV, HC.out])
    have HU := hide (show affU p xs ys a k = [] by simp [affU, HC.out])
    have HQ := hide (show affP p xs ys a k = 0 by simp [affP, HC.out])
    clear hj
    go_enter Try.func58, Try.ntmps58
    go_wp2_with fail
    refine (implIsJacobi _ _ _ _ _ _ _ _ _ _ g1 g2 hn hm).mono ?_
    rintro e w2 ⟨rfl, hm2⟩
    rw [Hj.out]
    have hB2 := bnext hb0 hm2
    have z2 := hm2.size
    simp at z2
    have f0 : w2.cell? ⟨w.heap.size, 0, none⟩ = some (.int .i64 p) := cell_be hm2 (by simp [go_sem])
    have f1 : w2.cell? ⟨w.heap.size, 1, none⟩ = some (.slice x n c) := cell_be hm2 (by simp [go_sem])
    have f2 : w2.cell? ⟨w.heap.size, 2, none⟩ = some (.slice y m d) := cell_be hm2 (by simp [go_sem])
    have r0 : w2.cell? ⟨w.heap.size + 1, 0, none⟩ = some (.int .i64 0) := cell_be hm2 (by simp [go_sem])
    have r1 : w2.cell? ⟨w.heap.size + 1, 1, none⟩ = some (.slice none 0 0) := cell_be hm2 (by simp [go_sem])
    have r2 : w2.cell? ⟨w.heap.size + 1, 2, none⟩ = some (.slice none 0 0) := cell_be hm2 (by simp [go_sem])
    have y0 : w2.frozen? ⟨w.heap.size + 1, 0, none⟩ = false := (hm2.frozen (by simp)).trans (by simp [go_sem])
    have y1 : w2.frozen? ⟨w.heap.size + 1, 1, none⟩ = false := (hm2.frozen (by simp)).trans (by simp [go_sem])
    have y2 : w2.frozen? ⟨w.heap.size + 1, 2, none⟩ = false := (hm2.frozen (by simp)).trans (by simp [go_sem])
    go_wp2
    refine bodyPost_ret (v := .tuple #[jac 0 none 0 0 none 0 0, .int .i64 1]) (by simp [results, Try.results58, go_sem, r0, r1, r2]) rfl ?_
    exact ResJ.nil HQ.out HV.out HU.out HC.out (((hB2.setCell (by simp) _).setCell (by simp) _).setCell (by simp) _)
  have Hj := hide hj
  obtain ⟨hpr, n1, n2, n3, hx, hy⟩ := jacB_rng hj
  obtain ⟨hp, hp2⟩ := primeB_lo hpr
  rw [hl.out] at n1 n2 n3
  rw [hl2.out] at n3
  subst n3
  have Hx := hide hx
  have Hy := hide (posB_are hy)
  clear hx hy hpr
  have vp : IntKind.i64.wrap (p - 1) = p - 1 := IntWalk.i64_in _ (by omega)
  by_cases ha : 1 ≤ a ∧ a < p
  · have a0 : 0 ≤ a := by omega
    have ob : (a == 0) = false := by simp; omega
    by_cases hk : 0 ≤ k ∧ k < p
    · have HC := hide (show affC p xs ys a k = 0 by simp only [affC, hj, if_true]; rw [if_pos (by omega)])
      have HV := hide (show affV p xs ys a k = tab m (afA p a k xs m) by simp [affV, HC.out, hl.out])
      have HU := hide (show affU p xs ys a k = tab m (afB p a ys m) by simp [affU, HC.out, hl.out])
      have HQ := hide (show affP p xs ys a k = p by simp [affP, HC.out])
      clear hj
      go_enter Try.func58, Try.ntmps58
      go_wp2_with fail
      refine (implIsJacobi _ _ _ _ _ _ _ _ _ _ g1 g2 hn hm).mono ?_
      rintro e w2 ⟨rfl, hm2⟩
      rw [Hj.out]
      have hB2 := bnext hb0 hm2
      have z2 := hm2.size
      simp at z2
      have f0 : w2.cell? ⟨w.heap.size, 0, none⟩ = some (.int .i64 p) := cell_be hm2 (by simp [go_sem])
      have f1 : w2.cell? ⟨w.heap.size, 1, none⟩ = some (.slice x m c) := cell_be hm2 (by simp [go_sem])
      have f2 : w2.cell? ⟨w.heap.size, 2, none⟩ = some (.slice y m d) := cell_be hm2 (by simp [go_sem])
      have r0 : w2.cell? ⟨w.heap.size + 1, 0, none⟩ = some (.int .i64 0) := cell_be hm2 (by simp [go_sem])
      have r1 : w2.cell? ⟨w.heap.size + 1, 1, none⟩ = some (.slice none 0 0) := cell_be hm2 (by simp [go_sem])
      have r2 : w2.cell? ⟨w.heap.size + 1, 2, none⟩ = some (.slice none 0 0) := cell_be hm2 (by simp [go_sem])
      have y0 : w2.frozen? ⟨w.heap.size + 1, 0, none⟩ = false := (hm2.frozen (by simp)).trans (by simp [go_sem])
      have y1 : w2.frozen? ⟨w.heap.size + 1, 1, none⟩ = false := (hm2.frozen (by simp)).trans (by simp [go_sem])
      have y2 : w2.frozen? ⟨w.heap.size + 1, 2, none⟩ = false := (hm2.frozen (by simp)).trans (by simp [go_sem])
      go_wp2_with fail
      refine (isNumber_yes _ _ _ (by omega) (by omega)).mono ?_
      rintro e w2' ⟨rfl, rfl⟩
      go_wp2_with fail
      refine (isNumber_yes _ _ _ (by omega) (by omega)).mono ?_
      rintro e w2' ⟨rfl, rfl⟩
      have F2 : ∀ w', Below w2.heap.size w2 w' → Below w2.heap.size w2 w' ∧ w'.cell? ⟨w.heap.size, 0, none⟩ = some (.int .i64 p) ∧ w'.cell? ⟨w.heap.size, 1, none⟩ = some (.slice x m c) ∧ w'.cell? ⟨w.heap.size, 2, none⟩ = some (.slice y m d) := fun w' h => ⟨h, cell_be h f0, cell_be h f1, cell_be h f2⟩
      have GK : ∀ w', (Below w2.heap.size w2 w' ∧ w'.cell? ⟨w.heap.size, 0, none⟩ = some (.int .i64 p) ∧ w'.cell? ⟨w.heap.size, 1, none⟩ = some (.slice x m c) ∧ w'.cell? ⟨w.heap.size, 2, none⟩ = some (.slice y m d)) → Below w2.heap.size w2 w' := fun w' h => h.1
      go_upto_region 6 with fail
      go_cut [9] (fun sq wx => ∃ (q ga gb c' d' : Nat), sq = .pointer (some ⟨q, 0, none⟩) ∧ Hid (wx.cell? ⟨q, 0, none⟩ = some (.int .i64 p) ∧ wx.cell? ⟨q, 1, none⟩ = some (.slice (some ⟨ga, 0, none⟩) m c') ∧ wx.cell? ⟨q, 2, none⟩ = some (.slice (some ⟨gb, 0, none⟩) m d')) ∧
          Hid (ga ≠ gb ∧ ga ≠ q ∧ gb ≠ q) ∧ Hid (w2.heap.size ≤ ga ∧ w2.heap.size ≤ gb ∧ w2.heap.size ≤ q) ∧ Hid (Own w2.heap.size wx (some ⟨ga, 0, none⟩) c' xs) ∧ Hid (Own w2.heap.size wx (some ⟨gb, 0, none⟩) d' ys) ∧ Hid (Below w2.heap.size w2 wx))
      case first =>
        go_region_held3 (fun w' => Below w2.heap.size w2 w' ∧ w'.cell? ⟨w.heap.size, 0, none⟩ = some (.int .i64 p) ∧ w'.cell? ⟨w.heap.size, 1, none⟩ = some (.slice x m c) ∧ w'.cell? ⟨w.heap.size, 2, none⟩ = some (.slice y m d))
          (first | exact F2 _ (by assumption) | exact F2 _ (((Below.refl _ _).alloc (Nat.le_refl _) _).drew) | exact F2 _ ((Below.refl _ _).drew) | exact F2 _ (Below.alloc (by assumption) (Below.size (by assumption)) _) | exact F2 _ (Below.setCell (Below.setCell (Below.setCell (by assumption) (by first | omega | (simp; done) | (simp; omega)) _) (by first | omega | (simp; done) | (simp; omega)) _) (by first | omega | (simp; done) | (simp; omega)) _))
          (first
          | (go_at_call 42; go_fit (sizeOf_any _ _ _ _ _ _ _ _ hn); rintro e w3 ⟨rfl, hb3⟩; have hm3 := bnext (GK _ (by assumption)) hb3; have zz3 := Below.size hm3; have ts3 := Below.size hb3; (try simp at ts3); first | (with_reducible have alx := alc3 hb3; have al0 := alx.1.1; have al1 := alx.1.2.1; have al2 := alx.1.2.2; have af0 := alx.2.1; have af1 := alx.2.2.1; have af2 := alx.2.2.2; clear alx) | (with_reducible have alx := alcD3 hb3; have al0 := alx.1.1; have al1 := alx.1.2.1; have al2 := alx.1.2.2; have af0 := alx.2.1; have af1 := alx.2.2.1; have af2 := alx.2.2.2; clear alx) | (have af0 := (Below.frozen hb3 (World.block_lt_of_cell? _ _ al0)).trans af0; have af1 := (Below.frozen hb3 (World.block_lt_of_cell? _ _ al1)).trans af1; have af2 := (Below.frozen hb3 (World.block_lt_of_cell? _ _ al2)).trans af2; have al0 := cell_be hb3 al0; have al1 := cell_be hb3 al1; have al2 := cell_be hb3 al2) | skip)
          | (go_at_call 41; go_fit (partOf_any _ _ _ _ _ _ _ _ 0 m _ (g1.below (bnext hm2 (GK _ (by assumption)))) (g2.below (bnext hm2 (GK _ (by assumption)))) (by omega) (by omega) hn); rintro e w4 ⟨a', c', b', d', rfl, ho, hb4⟩; have hm4 := bnext (GK _ (by assumption)) hb4; have zz4 := Below.size hm4; have ts4 := Below.size hb4; (try simp at ts4); first | (with_reducible have alx := alc3 hb4; have al0 := alx.1.1; have al1 := alx.1.2.1; have al2 := alx.1.2.2; have af0 := alx.2.1; have af1 := alx.2.2.1; have af2 := alx.2.2.2; clear alx) | (with_reducible have alx := alcD3 hb4; have al0 := alx.1.1; have al1 := alx.1.2.1; have al2 := alx.1.2.2; have af0 := alx.2.1; have af1 := alx.2.2.1; have af2 := alx.2.2.2; clear alx) | (have af0 := (Below.frozen hb4 (World.block_lt_of_cell? _ _ al0)).trans af0; have af1 := (Below.frozen hb4 (World.block_lt_of_cell? _ _ al1)).trans af1; have af2 := (Below.frozen hb4 (World.block_lt_of_cell? _ _ al2)).trans af2; have al0 := cell_be hb4 al0; have al1 := cell_be hb4 al1; have al2 := cell_be hb4 al2) | skip; simp only [Nat.sub_zero, List.drop_zero] at ho))
        all_goals go_wp2_with fail
        all_goals go_meet
        all_goals
          rw [List.take_of_length_le (by rw [hl.out]; exact Nat.le_refl _), List.take_of_length_le (by rw [hl2.out]; exact Nat.le_refl _)] at ho
          obtain ⟨ga, gb, rfl, rfl, d1, d2, d3, d4, d5, oA, oB⟩ := ho.rows (by omega) (by omega)
          (try simp at d2)
          (try simp at d4)
          first
          | exact ⟨_, ga, gb, c', d', rfl, hide ⟨cell_set2' (cell_set2' (World.cell?_setCell_same _ _ _ al0) (by simp) _) (by simp) _, cell_set2' (World.cell?_setCell_same _ _ _ (cell_set2' al1 (by simp) _)) (by simp) _, World.cell?_setCell_same _ _ _ (cell_set2' (cell_set2' al2 (by simp) _) (by simp) _)⟩, hide ⟨d1, (by first | omega | (simp; done) | (simp; omega)), (by first | omega | (simp; done) | (simp; omega))⟩, hide ⟨(by first | omega | (simp; done) | (simp; omega)), (by first | omega | (simp; done) | (simp; omega)), (by first | omega | (simp; done) | (simp; omega))⟩, hide ((((oA.setLow (by first | omega | (simp; done) | (simp; omega)) _).setLow (by first | omega | (simp; done) | (simp; omega)) _).setLow (by first | omega | (simp; done) | (simp; omega)) _).mono (by first | omega | (simp; done) | (simp; omega))), hide ((((oB.setLow (by first | omega | (simp; done) | (simp; omega)) _).setLow (by first | omega | (simp; done) | (simp; omega)) _).setLow (by first | omega | (simp; done) | (simp; omega)) _).mono (by first | omega | (simp; done) | (simp; omega))), hide (((hm4.setCell (by first | omega | (simp; done) | (simp; omega)) _).setCell (by first | omega | (simp; done) | (simp; omega)) _).setCell (by first | omega | (simp; done) | (simp; omega)) _)⟩
          | exact ⟨_, ga, gb, c', d', rfl, hide ⟨by simp [go_sem], by simp [go_sem], by simp [go_sem]⟩, hide ⟨d1, (by first | omega | (simp; done) | (simp; omega)), (by first | omega | (simp; done) | (simp; omega))⟩, hide ⟨(by first | omega | (simp; done) | (simp; omega)), (by first | omega | (simp; done) | (simp; omega)), (by first | omega | (simp; done) | (simp; omega))⟩, hide ((oA.below (bl1 _ _)).mono (by first | omega | (simp; done) | (simp; omega))), hide ((oB.below (bl1 _ _)).mono (by first | omega | (simp; done) | (simp; omega))), hide (hm4.alloc (Below.size hm4) _)⟩
      case rest =>
        obtain ⟨q, ga, gb, c', d', rfl, hq, hd, hge, oA, oB, hW⟩ := hcut
        obtain ⟨w5, hu⟩ : ∃ u, u = wc := ⟨wc, rfl⟩
        subst hu
        clear F2 GK
        obtain ⟨d1, d2, d3⟩ := hd.out
        obtain ⟨e1, e2, e3⟩ := hge.out
        have oA0 : Hid (Own w2.heap.size w5 (some ⟨ga, 0, none⟩) c' (tab m (afA p a k xs 0))) := hide (by rw [afA_zero _ _ _ _ _ hl.out]; exact oA.out)
        have oB0 : Hid (Own w2.heap.size w5 (some ⟨gb, 0, none⟩) d' (tab m (afB p a ys 0))) := hide (by rw [afB_zero _ _ _ _ hl2.out]; exact oB.out)
        clear oA oB
        obtain ⟨qq0, qq1, qq2⟩ := hq.out
        go_wp2_with fail
        clear qq0 qq1 qq2
        go_loopw [39] (fun iv wr => ∃ K : Nat, K ≤ m ∧ iv = .int .i64 K ∧ Hid (Own w2.heap.size wr (some ⟨ga, 0, none⟩) c' (tab m (afA p a k xs K))) ∧ Hid (Own w2.heap.size wr (some ⟨gb, 0, none⟩) d' (tab m (afB p a ys K))) ∧ Hid (wr.cell? ⟨q, 0, none⟩ = some (.int .i64 p) ∧ wr.cell? ⟨q, 1, none⟩ = some (.slice (some ⟨ga, 0, none⟩) m c') ∧ wr.cell? ⟨q, 2, none⟩ = some (.slice (some ⟨gb, 0, none⟩) m d')) ∧ Hid (Below w2.heap.size w2 wr)) (fun iv _ => m - (intOf iv).toNat)
        case atStart => exact ⟨0, by omega, rfl, oA0, oB0, hq, hW⟩
        case round =>
          obtain ⟨K, hK, rfl, oA, oB, hq', hW'⟩ := hrel
          clear oA0 oB0 hq hW
          obtain ⟨q0, q1, q2⟩ := hq'.out
          have k0 : wr.cell? ⟨w.heap.size, 0, none⟩ = some (.int .i64 p) := cell_be hW'.out f0
          by_cases hlt : K < m
          · have hA := Own.cellG oA.out K (by rw [tab_len]; exact hlt)
            have hB := Own.cellG oB.out K (by rw [tab_len]; exact hlt)
            rw [tab_at _ _ _ hlt, show afA p a k xs K K = xs.getD K 0 by simp [afA]] at hA
            rw [tab_at _ _ _ hlt, show afB p a ys K K = ys.getD K 0 by simp [afB]] at hB
            have fA := Own.freeG oA.out K
            have fB := Own.freeG oB.out K
            have sA := hide (Own.setG oA.out K ((a * xs.getD K 0 + k) % p))
            rw [afA_step] at sA
            have x1 := getD_rng Hx.out hp K
            have x2 := getD_rng Hy.out hp K
            have hmA := mulb a0 (show a < p by omega) x1.1 x1.2 hp2
            have hmB := mulb a0 (show a < p by omega) a0 (show a < p by omega) hp2
            have hmC := modb (x := a * a) hp
            have hmD := mulb hmC.1 hmC.2 x2.1 x2.2 hp2
            obtain ⟨X, hX⟩ : ∃ X, xs.getD K 0 = X := ⟨_, rfl⟩
            obtain ⟨Y, hY⟩ : ∃ Y, ys.getD K 0 = Y := ⟨_, rfl⟩
            have hstep : 0 < K → (tab m (afB p a ys K)).set K (a * a % p * Y % p) = tab m (afB p a ys (K + 1)) := fun h => by rw [← hY]; exact afB_step p a ys m K h
            have Hstep := hide hstep
            clear hstep
            rw [hX] at hA sA x1 hmA
            rw [hY] at hB x2 hmD
            have v1 : IntKind.i64.wrap (a * X) = a * X := IntWalk.i64_in _ (by omega)
            have v2 : IntKind.i64.wrap (a * X + k) = a * X + k := IntWalk.i64_in _ (by omega)
            have v3 : (a * X + k).tmod p = (a * X + k) % p := Int.tmod_eq_emod_of_nonneg (by omega)
            have v4 : IntKind.i64.wrap (a * a) = a * a := IntWalk.i64_in _ (by omega)
            have v5 : (a * a).tmod p = a * a % p := Int.tmod_eq_emod_of_nonneg (by omega)
            obtain ⟨V, hV⟩ : ∃ V, (a * X + k) % p = V := ⟨_, rfl⟩
            have rV := modb (x := a * X + k) hp
            rw [hV] at sA v3 rV
            have v6 : IntKind.i64.wrap V = V := IntWalk.i64_in _ (by omega)
            obtain ⟨A2, hA2⟩ : ∃ A2, a * a % p = A2 := ⟨_, rfl⟩
            rw [hA2] at v5 hmC hmD Hstep
            have v7 : IntKind.i64.wrap A2 = A2 := IntWalk.i64_in _ (by omega)
            have v8 : IntKind.i64.wrap (A2 * Y) = A2 * Y := IntWalk.i64_in _ (by omega)
            have v9 : (A2 * Y).tmod p = A2 * Y % p := Int.tmod_eq_emod_of_nonneg (by omega)
            obtain ⟨U, hU⟩ : ∃ U, A2 * Y % p = U := ⟨_, rfl⟩
            have rU := modb (x := A2 * Y) hp
            rw [hU] at v9 rU Hstep
            have v10 : IntKind.i64.wrap U = U := IntWalk.i64_in _ (by omega)
            have hp0 : ¬ p = 0 := by omega
            have hlt' : (K : Int) < (m : Int) := by omega
            have hge0 : (0 : Int) ≤ (K : Int) := by omega
            clear hX hY hV hA2 hU
            have hbd := (Below.refl wr.heap.size wr).drew
            go_upto_region 10 with fail
            refine region_E (fun w' => w'.cell? ⟨w.heap.size, 0, none⟩ = some (.int .i64 p) ∧ w'.cell? ⟨q, 1, none⟩ = some (.slice (some ⟨ga, 0, none⟩) m c') ∧ w'.cell? ⟨ga, K, none⟩ = some (.int .i64 X)) 15 (by kernel_rfl) ⟨cell_be hbd k0, cell_be hbd q1, cell_be hbd hA⟩ ?_
            intro hS
            refine anyE_takeL 0 rfl (by kernel_rfl) (fun _ _ _ h => h) hS (by rfl) (v := ?_) ?_ ?_
            rotate_left
            · intro w' hSw; (try dsimp only at hSw); go_simp; (try with_reducible rfl)
            try simp only [Act.put, List.setIfInBounds_toArray, List.set_cons_zero, List.set_cons_succ]
            refine anyE_takeL 1 rfl (by kernel_rfl) (fun _ _ _ h => h) hS (by rfl) (v := ?_) ?_ ?_
            rotate_left
            · intro w' hSw; (try dsimp only at hSw); go_simp; (try with_reducible rfl)
            try simp only [Act.put, List.setIfInBounds_toArray, List.set_cons_zero, List.set_cons_succ]
            refine anyE_takeL 2 rfl (by kernel_rfl) (fun _ _ _ h => h) hS (by rfl) (v := ?_) ?_ ?_
            rotate_left
            · intro w' hSw; (try dsimp only at hSw); go_simp; (try with_reducible rfl)
            try simp only [Act.put, List.setIfInBounds_toArray, List.set_cons_zero, List.set_cons_succ]
            refine anyE_takeL 3 rfl (by kernel_rfl) (fun _ _ _ h => h) hS (by rfl) (v := ?_) ?_ ?_
            rotate_left
            · intro w' hSw; (try dsimp only at hSw); go_simp; (try with_reducible rfl)
            try simp only [Act.put, List.setIfInBounds_toArray, List.set_cons_zero, List.set_cons_succ]
            refine anyE_takeL 4 rfl (by kernel_rfl) (fun _ _ _ h => h) hS (by rfl) (v := ?_) ?_ ?_
            rotate_left
            · intro w' hSw; (try dsimp only at hSw); go_simp; (try with_reducible rfl)
            try simp only [Act.put, List.setIfInBounds_toArray, List.set_cons_zero, List.set_cons_succ]
            refine anyE_takeL 5 rfl (by kernel_rfl) (fun _ _ _ h => h) hS (by rfl) (v := ?_) ?_ ?_
            rotate_left
            · intro w' hSw; (try dsimp only at hSw); go_simp; (try with_reducible rfl)
            try simp only [Act.put, List.setIfInBounds_toArray, List.set_cons_zero, List.set_cons_succ]
            refine anyE_takeL 6 rfl (by kernel_rfl) (fun _ _ _ h => h) hS (by rfl) (v := ?_) ?_ ?_
            rotate_left
            · intro w' hSw; (try dsimp only at hSw); go_simp; (try with_reducible rfl)
            try simp only [Act.put, List.setIfInBounds_toArray, List.set_cons_zero, List.set_cons_succ]
            refine anyE_takeL 7 rfl (by kernel_rfl) (fun _ _ _ h => h) hS (by rfl) (v := ?_) ?_ ?_
            rotate_left
            · intro w' hSw; (try dsimp only at hSw); go_simp; (try with_reducible rfl)
            try simp only [Act.put, List.setIfInBounds_toArray, List.set_cons_zero, List.set_cons_succ]
            refine anyE_takeL 8 rfl (by kernel_rfl) (fun _ _ _ h => h) hS (by rfl) (v := ?_) ?_ ?_
            rotate_left
            · intro w' hSw; (try dsimp only at hSw); go_simp; (try with_reducible rfl)
            try simp only [Act.put, List.setIfInBounds_toArray, List.set_cons_zero, List.set_cons_succ]
            refine anyE_takeL 9 rfl (by kernel_rfl) (fun _ _ _ h => h) hS (by rfl) (v := ?_) ?_ ?_
            rotate_left
            · intro w' hSw; (try dsimp only at hSw); go_simp; (try with_reducible rfl)
            try simp only [Act.put, List.setIfInBounds_toArray, List.set_cons_zero, List.set_cons_succ]
            refine anyE_takeL 10 rfl (by kernel_rfl) (fun _ _ _ h => h) hS (by rfl) (v := ?_) ?_ ?_
            rotate_left
            · intro w' hSw; (try dsimp only at hSw); go_simp; (try with_reducible rfl)
            try simp only [Act.put, List.setIfInBounds_toArray, List.set_cons_zero, List.set_cons_succ]
            refine anyE_takeL 11 rfl (by kernel_rfl) (fun _ _ _ h => h) hS (by rfl) (v := ?_) ?_ ?_
            rotate_left
            · intro w' hSw; (try dsimp only at hSw); go_simp; (try with_reducible rfl)
            try simp only [Act.put, List.setIfInBounds_toArray, List.set_cons_zero, List.set_cons_succ]
            refine anyE_takeL 12 rfl (by kernel_rfl) (fun _ _ _ h => h) hS (by rfl) (v := ?_) ?_ ?_
            rotate_left
            · intro w' hSw; (try dsimp only at hSw); go_simp; (try with_reducible rfl)
            try simp only [Act.put, List.setIfInBounds_toArray, List.set_cons_zero, List.set_cons_succ]
            refine anyE_takeL 13 rfl (by kernel_rfl) (fun _ _ _ h => h) hS (by rfl) (v := ?_) ?_ ?_
            rotate_left
            · intro w' hSw; (try dsimp only at hSw); go_simp; (try with_reducible rfl)
            try simp only [Act.put, List.setIfInBounds_toArray, List.set_cons_zero, List.set_cons_succ]
            refine anyE_takeL 14 rfl (by kernel_rfl) (fun _ _ _ h => h) hS (by rfl) (v := ?_) ?_ ?_
            rotate_left
            · intro w' hSw; (try dsimp only at hSw); go_simp; (try with_reducible rfl)
            try simp only [Act.put, List.setIfInBounds_toArray, List.set_cons_zero, List.set_cons_succ]
            clear hS
            refine anyE_lastL (by kernel_rfl) rfl (by kernel_rfl) (fun K' hK' => ?_)
            go_simp
            refine hK'.out _ _ ?_
            clear hK' K'
            try simp only [Act.put, List.setIfInBounds_toArray, List.set_cons_zero, List.set_cons_succ]
            have hbA := (Below.refl (wr.setCell ⟨ga, K, none⟩ (.int .i64 V)).heap.size (wr.setCell ⟨ga, K, none⟩ (.int .i64 V))).drew
            obtain ⟨w6, hw6⟩ : ∃ w6, w6 = (wr.setCell ⟨ga, K, none⟩ (.int .i64 V)).drew := ⟨_, rfl⟩
            rw [← hw6] at hbA ⊢
            have oA6 := hide (sA.out.below hbA)
            have oB6 := hide ((Own.otherG oB.out (show blk (some ⟨gb, 0, none⟩) ≠ some ga by simp [blk]; omega) (.int .i64 V)).below hbA)
            have p0 := cell_be hbA (cell_set2 k0 (show ga ≠ w.heap.size by omega) (.int .i64 V))
            have p1 := cell_be hbA (cell_set2 q0 (show ga ≠ q by omega) (.int .i64 V))
            have p2 := cell_be hbA (cell_set2 q1 (show ga ≠ q by omega) (.int .i64 V))
            have p3 := cell_be hbA (cell_set2 q2 (show ga ≠ q by omega) (.int .i64 V))
            have hB6 := cell_be hbA (cell_set2 hB (show ga ≠ gb by omega) (.int .i64 V))
            have hW6 : Below w2.heap.size w2 w6 := by rw [hw6]; exact (hW'.out.setCell (by simp; omega) _).drew
            clear hw6 hbA sA oA oB hA fA k0 q0 q1 q2 hq' hB
            by_cases hK0 : K = 0
            · have hng : ¬ (0 : Int) < (K : Int) := by omega
              have e : tab m (afB p a ys K) = tab m (afB p a ys (K + 1)) := by rw [hK0]; exact afB_one p a ys m
              rw [e] at oB6
              go_wp2
              go_roundw
              case rel => exact ⟨K + 1, by omega, by go_num, oA6, oB6, hide ⟨p1, p2, p3⟩, hide hW6⟩
              case measure => simp [intOf]; omega
            · have hng : (0 : Int) < (K : Int) := by omega
              have sB := hide (Own.setG oB6.out K U)
              rw [Hstep.out (by omega)] at sB
              have fB := Own.freeG oB6.out K
              have hbd6 := (Below.refl w6.heap.size w6).drew
              go_upto_region 12 with fail
              refine region_E (fun w' => w'.cell? ⟨w.heap.size, 0, none⟩ = some (.int .i64 p) ∧ w'.cell? ⟨q, 2, none⟩ = some (.slice (some ⟨gb, 0, none⟩) m d') ∧ w'.cell? ⟨gb, K, none⟩ = some (.int .i64 Y)) 17 (by kernel_rfl) ⟨cell_be hbd6 p0, cell_be hbd6 p3, cell_be hbd6 hB6⟩ ?_
              intro hS
              refine anyE_takeL 0 rfl (by kernel_rfl) (fun _ _ _ h => h) hS (by rfl) (v := ?_) ?_ ?_
              rotate_left
              · intro w' hSw; (try dsimp only at hSw); go_simp; (try with_reducible rfl)
              try simp only [Act.put, List.setIfInBounds_toArray, List.set_cons_zero, List.set_cons_succ]
              refine anyE_takeL 1 rfl (by kernel_rfl) (fun _ _ _ h => h) hS (by rfl) (v := ?_) ?_ ?_
              rotate_left
              · intro w' hSw; (try dsimp only at hSw); go_simp; (try with_reducible rfl)
              try simp only [Act.put, List.setIfInBounds_toArray, List.set_cons_zero, List.set_cons_succ]
              refine anyE_takeL 2 rfl (by kernel_rfl) (fun _ _ _ h => h) hS (by rfl) (v := ?_) ?_ ?_
              rotate_left
              · intro w' hSw; (try dsimp only at hSw); go_simp; (try with_reducible rfl)
              try simp only [Act.put, List.setIfInBounds_toArray, List.set_cons_zero, List.set_cons_succ]
              refine anyE_takeL 3 rfl (by kernel_rfl) (fun _ _ _ h => h) hS (by rfl) (v := ?_) ?_ ?_
              rotate_left
              · intro w' hSw; (try dsimp only at hSw); go_simp; (try with_reducible rfl)
              try simp only [Act.put, List.setIfInBounds_toArray, List.set_cons_zero, List.set_cons_succ]
              refine anyE_takeL 4 rfl (by kernel_rfl) (fun _ _ _ h => h) hS (by rfl) (v := ?_) ?_ ?_
              rotate_left
              · intro w' hSw; (try dsimp only at hSw); go_simp; (try with_reducible rfl)
              try simp only [Act.put, List.setIfInBounds_toArray, List.set_cons_zero, List.set_cons_succ]
              refine anyE_takeL 5 rfl (by kernel_rfl) (fun _ _ _ h => h) hS (by rfl) (v := ?_) ?_ ?_
              rotate_left
              · intro w' hSw; (try dsimp only at hSw); go_simp; (try with_reducible rfl)
              try simp only [Act.put, List.setIfInBounds_toArray, List.set_cons_zero, List.set_cons_succ]
              refine anyE_takeL 6 rfl (by kernel_rfl) (fun _ _ _ h => h) hS (by rfl) (v := ?_) ?_ ?_
              rotate_left
              · intro w' hSw; (try dsimp only at hSw); go_simp; (try with_reducible rfl)
              try simp only [Act.put, List.setIfInBounds_toArray, List.set_cons_zero, List.set_cons_succ]
              refine anyE_takeL 7 rfl (by kernel_rfl) (fun _ _ _ h => h) hS (by rfl) (v := ?_) ?_ ?_
              rotate_left
              · intro w' hSw; (try dsimp only at hSw); go_simp; (try with_reducible rfl)
              try simp only [Act.put, List.setIfInBounds_toArray, List.set_cons_zero, List.set_cons_succ]
              refine anyE_takeL 8 rfl (by kernel_rfl) (fun _ _ _ h => h) hS (by rfl) (v := ?_) ?_ ?_
              rotate_left
              · intro w' hSw; (try dsimp only at hSw); go_simp; (try with_reducible rfl)
              try simp only [Act.put, List.setIfInBounds_toArray, List.set_cons_zero, List.set_cons_succ]
              refine anyE_takeL 9 rfl (by kernel_rfl) (fun _ _ _ h => h) hS (by rfl) (v := ?_) ?_ ?_
              rotate_left
              · intro w' hSw; (try dsimp only at hSw); go_simp; (try with_reducible rfl)
              try simp only [Act.put, List.setIfInBounds_toArray, List.set_cons_zero, List.set_cons_succ]
              refine anyE_takeL 10 rfl (by kernel_rfl) (fun _ _ _ h => h) hS (by rfl) (v := ?_) ?_ ?_
              rotate_left
              · intro w' hSw; (try dsimp only at hSw); go_simp; (try with_reducible rfl)
              try simp only [Act.put, List.setIfInBounds_toArray, List.set_cons_zero, List.set_cons_succ]
              refine anyE_takeL 11 rfl (by kernel_rfl) (fun _ _ _ h => h) hS (by rfl) (v := ?_) ?_ ?_
              rotate_left
              · intro w' hSw; (try dsimp only at hSw); go_simp; (try with_reducible rfl)
              try simp only [Act.put, List.setIfInBounds_toArray, List.set_cons_zero, List.set_cons_succ]
              refine anyE_takeL 12 rfl (by kernel_rfl) (fun _ _ _ h => h) hS (by rfl) (v := ?_) ?_ ?_
              rotate_left
              · intro w' hSw; (try dsimp only at hSw); go_simp; (try with_reducible rfl)
              try simp only [Act.put, List.setIfInBounds_toArray, List.set_cons_zero, List.set_cons_succ]
              refine anyE_takeL 13 rfl (by kernel_rfl) (fun _ _ _ h => h) hS (by rfl) (v := ?_) ?_ ?_
              rotate_left
              · intro w' hSw; (try dsimp only at hSw); go_simp; (try with_reducible rfl)
              try simp only [Act.put, List.setIfInBounds_toArray, List.set_cons_zero, List.set_cons_succ]
              refine anyE_takeL 14 rfl (by kernel_rfl) (fun _ _ _ h => h) hS (by rfl) (v := ?_) ?_ ?_
              rotate_left
              · intro w' hSw; (try dsimp only at hSw); go_simp; (try with_reducible rfl)
              try simp only [Act.put, List.setIfInBounds_toArray, List.set_cons_zero, List.set_cons_succ]
              refine anyE_takeL 15 rfl (by kernel_rfl) (fun _ _ _ h => h) hS (by rfl) (v := ?_) ?_ ?_
              rotate_left
              · intro w' hSw; (try dsimp only at hSw); go_simp; (try with_reducible rfl)
              try simp only [Act.put, List.setIfInBounds_toArray, List.set_cons_zero, List.set_cons_succ]
              refine anyE_takeL 16 rfl (by kernel_rfl) (fun _ _ _ h => h) hS (by rfl) (v := ?_) ?_ ?_
              rotate_left
              · intro w' hSw; (try dsimp only at hSw); go_simp; (try with_reducible rfl)
              try simp only [Act.put, List.setIfInBounds_toArray, List.set_cons_zero, List.set_cons_succ]
              clear hS
              refine anyE_lastL (by kernel_rfl) rfl (by kernel_rfl) (fun K' hK' => ?_)
              go_simp
              refine hK'.out _ _ ?_
              clear hK' K'
              try simp only [Act.put, List.setIfInBounds_toArray, List.set_cons_zero, List.set_cons_succ]
              have hbB := (Below.refl (w6.setCell ⟨gb, K, none⟩ (.int .i64 U)).heap.size (w6.setCell ⟨gb, K, none⟩ (.int .i64 U))).drew
              obtain ⟨w7, hw7⟩ : ∃ w7, w7 = (w6.setCell ⟨gb, K, none⟩ (.int .i64 U)).drew := ⟨_, rfl⟩
              rw [← hw7] at hbB ⊢
              have oB7 := hide (sB.out.below hbB)
              have oA7 := hide ((Own.otherG oA6.out (show blk (some ⟨ga, 0, none⟩) ≠ some gb by simp [blk]; omega) (.int .i64 U)).below hbB)
              have p1' := cell_be hbB (cell_set2 p1 (show gb ≠ q by omega) (.int .i64 U))
              have p2' := cell_be hbB (cell_set2 p2 (show gb ≠ q by omega) (.int .i64 U))
              have p3' := cell_be hbB (cell_set2 p3 (show gb ≠ q by omega) (.int .i64 U))
              have hW7 : Below w2.heap.size w2 w7 := by rw [hw7]; exact (hW6.setCell (by simp; omega) _).drew
              clear hw7 hbB sB oA6 oB6 hB6 fB p0 p1 p2 p3 hW6
              go_wp2
              go_roundw
              case rel => exact ⟨K + 1, by omega, by go_num, oA7, oB7, hide ⟨p1', p2', p3'⟩, hide hW7⟩
              case measure => simp [intOf]; omega
          · have hKm : K = m := by omega
            subst hKm
            have r0' := cell_be hW'.out r0
            have r1' := cell_be hW'.out r1
            have r2' := cell_be hW'.out r2
            have y0' := (hW'.out.frozen (World.block_lt_of_cell? _ _ r0)).trans y0
            have y1' := (hW'.out.frozen (World.block_lt_of_cell? _ _ r1)).trans y1
            have y2' := (hW'.out.frozen (World.block_lt_of_cell? _ _ r2)).trans y2
            clear r0 r1 r2 y0 y1 y2
            have z6 := hW'.out.size
            have hge0 : ¬ (K : Int) < (K : Int) := by omega
            go_wp2
            refine bodyPost_ret (v := .tuple #[jac p (some ⟨ga, 0, none⟩) K c' (some ⟨gb, 0, none⟩) K d', .int .i64 0]) (by simp [results, Try.results58, go_sem, r0', r1', r2']) rfl ?_
            have jz : JZ w2.heap.size wr.heap.size wr (some ⟨ga, 0, none⟩) K c' (tab K (afA p a k xs K)) (some ⟨gb, 0, none⟩) K d' (tab K (afB p a ys K)) := ⟨OZ.of oA.out (tab_len _ _).symm, OZ.of oB.out (tab_len _ _).symm, .inr (.inr (by simp [blk]; omega))⟩
            have jz2 := ((jz.setLow (x := ⟨w.heap.size + 1, 0, none⟩) (by simp; omega) (.int .i64 p)).setLow (x := ⟨w.heap.size + 1, 1, none⟩) (by simp; omega) (.slice (some ⟨ga, 0, none⟩) K c')).setLow (x := ⟨w.heap.size + 1, 2, none⟩) (by simp; omega) (.slice (some ⟨gb, 0, none⟩) K d')
            exact ResJ.mk HQ.out HC.out (by rw [HV.out, tab_len]) (by rw [HU.out, tab_len]) (by rw [HV.out, HU.out]; simpa using jz2.mono (lo' := w.heap.size) (by omega) (Nat.le_refl _)) (by rw [HV.out, tab_len]; omega) (by rw [HU.out, tab_len]; omega) ((((hB2.trans (hW'.out.mono (by omega))).setCell (by simp) _).setCell (by simp) _).setCell (by simp) _)
    · have Hk := hide hk
      have HC := hide (show affC p xs ys a k = 2 from by simp only [affC, hj, if_true]; rw [if_neg (by omega)])
      have HV := hide (show affV p xs ys a k = [] by simp [affV, HC.out])
      have HU := hide (show affU p xs ys a k = [] by simp [affU, HC.out])
      have HQ := hide (show affP p xs ys a k = 0 by simp [affP, HC.out])
      clear hj hk
      go_enter Try.func58, Try.ntmps58
      go_wp2_with fail
      refine (implIsJacobi _ _ _ _ _ _ _ _ _ _ g1 g2 hn hm).mono ?_
      rintro e w2 ⟨rfl, hm2⟩
      rw [Hj.out]
      have hB2 := bnext hb0 hm2
      have z2 := hm2.size
      simp at z2
      have f0 : w2.cell? ⟨w.heap.size, 0, none⟩ = some (.int .i64 p) := cell_be hm2 (by simp [go_sem])
      have f1 : w2.cell? ⟨w.heap.size, 1, none⟩ = some (.slice x m c) := cell_be hm2 (by simp [go_sem])
      have f2 : w2.cell? ⟨w.heap.size, 2, none⟩ = some (.slice y m d) := cell_be hm2 (by simp [go_sem])
      have r0 : w2.cell? ⟨w.heap.size + 1, 0, none⟩ = some (.int .i64 0) := cell_be hm2 (by simp [go_sem])
      have r1 : w2.cell? ⟨w.heap.size + 1, 1, none⟩ = some (.slice none 0 0) := cell_be hm2 (by simp [go_sem])
      have r2 : w2.cell? ⟨w.heap.size + 1, 2, none⟩ = some (.slice none 0 0) := cell_be hm2 (by simp [go_sem])
      have y0 : w2.frozen? ⟨w.heap.size + 1, 0, none⟩ = false := (hm2.frozen (by simp)).trans (by simp [go_sem])
      have y1 : w2.frozen? ⟨w.heap.size + 1, 1, none⟩ = false := (hm2.frozen (by simp)).trans (by simp [go_sem])
      have y2 : w2.frozen? ⟨w.heap.size + 1, 2, none⟩ = false := (hm2.frozen (by simp)).trans (by simp [go_sem])
      go_wp2_with fail
      refine (isNumber_yes _ _ _ (by omega) (by omega)).mono ?_
      rintro e w2' ⟨rfl, rfl⟩
      go_wp2_with fail
      refine (isNumber_no _ _ _ Hk.out).mono ?_
      rintro e w2' ⟨rfl, rfl⟩
      go_wp2
      refine bodyPost_ret (v := .tuple #[jac 0 none 0 0 none 0 0, .int .i64 2]) (by simp [results, Try.results58, go_sem, r0, r1, r2]) rfl ?_
      exact ResJ.nil HQ.out HV.out HU.out HC.out (((hB2.setCell (by simp) _).setCell (by simp) _).setCell (by simp) _)
  · by_cases hz : a = 0
    · subst hz
      have HC := hide (show affC p xs ys 0 k = 2 from by simp only [affC, hj, if_true]; rw [if_neg (by omega)])
      have HV := hide (show affV p xs ys 0 k = [] by simp [affV, HC.out])
      have HU := hide (show affU p xs ys 0 k = [] by simp [affU, HC.out])
      have HQ := hide (show affP p xs ys 0 k = 0 by simp [affP, HC.out])
      clear hj ha
      go_enter Try.func58, Try.ntmps58
      go_wp2_with fail
      refine (implIsJacobi _ _ _ _ _ _ _ _ _ _ g1 g2 hn hm).mono ?_
      rintro e w2 ⟨rfl, hm2⟩
      rw [Hj.out]
      have hB2 := bnext hb0 hm2
      have z2 := hm2.size
      simp at z2
      have f0 : w2.cell? ⟨w.heap.size, 0, none⟩ = some (.int .i64 p) := cell_be hm2 (by simp [go_sem])
      have f1 : w2.cell? ⟨w.heap.size, 1, none⟩ = some (.slice x m c) := cell_be hm2 (by simp [go_sem])
      have f2 : w2.cell? ⟨w.heap.size, 2, none⟩ = some (.slice y m d) := cell_be hm2 (by simp [go_sem])
      have r0 : w2.cell? ⟨w.heap.size + 1, 0, none⟩ = some (.int .i64 0) := cell_be hm2 (by simp [go_sem])
      have r1 : w2.cell? ⟨w.heap.size + 1, 1, none⟩ = some (.slice none 0 0) := cell_be hm2 (by simp [go_sem])
      have r2 : w2.cell? ⟨w.heap.size + 1, 2, none⟩ = some (.slice none 0 0) := cell_be hm2 (by simp [go_sem])
      have y0 : w2.frozen? ⟨w.heap.size + 1, 0, none⟩ = false := (hm2.frozen (by simp)).trans (by simp [go_sem])
      have y1 : w2.frozen? ⟨w.heap.size + 1, 1, none⟩ = false := (hm2.frozen (by simp)).trans (by simp [go_sem])
      have y2 : w2.frozen? ⟨w.heap.size + 1, 2, none⟩ = false := (hm2.frozen (by simp)).trans (by simp [go_sem])
      go_wp2_with fail
      refine (isNumber_yes _ _ _ (by omega) (by omega)).mono ?_
      rintro e w2' ⟨rfl, rfl⟩
      go_wp2
      refine bodyPost_ret (v := .tuple #[jac 0 none 0 0 none 0 0, .int .i64 2]) (by simp [results, Try.results58, go_sem, r0, r1, r2]) rfl ?_
      exact ResJ.nil HQ.out HV.out HU.out HC.out (((hB2.setCell (by simp) _).setCell (by simp) _).setCell (by simp) _)
    · have Ha := hide (show ¬ (0 ≤ a ∧ a < p) by omega)
      have HC := hide (show affC p xs ys a k = 2 from by simp only [affC, hj, if_true]; rw [if_neg (by omega)])
      have HV := hide (show affV p xs ys a k = [] by simp [affV, HC.out])
      have HU := hide (show affU p xs ys a k = [] by simp [affU, HC.out])
      have HQ := hide (show affP p xs ys a k = 0 by simp [affP, HC.out])
      clear hj ha hz
      go_enter Try.func58, Try.ntmps58
      go_wp2_with fail
      refine (implIsJacobi _ _ _ _ _ _ _ _ _ _ g1 g2 hn hm).mono ?_
      rintro e w2 ⟨rfl, hm2⟩
      rw [Hj.out]
      have hB2 := bnext hb0 hm2
      have z2 := hm2.size
      simp at z2
      have f0 : w2.cell? ⟨w.heap.size, 0, none⟩ = some (.int .i64 p) := cell_be hm2 (by simp [go_sem])
      have f1 : w2.cell? ⟨w.heap.size, 1, none⟩ = some (.slice x m c) := cell_be hm2 (by simp [go_sem])
      have f2 : w2.cell? ⟨w.heap.size, 2, none⟩ = some (.slice y m d) := cell_be hm2 (by simp [go_sem])
      have r0 : w2.cell? ⟨w.heap.size + 1, 0, none⟩ = some (.int .i64 0) := cell_be hm2 (by simp [go_sem])
      have r1 : w2.cell? ⟨w.heap.size + 1, 1, none⟩ = some (.slice none 0 0) := cell_be hm2 (by simp [go_sem])
      have r2 : w2.cell? ⟨w.heap.size + 1, 2, none⟩ = some (.slice none 0 0) := cell_be hm2 (by simp [go_sem])
      have y0 : w2.frozen? ⟨w.heap.size + 1, 0, none⟩ = false := (hm2.frozen (by simp)).trans (by simp [go_sem])
      have y1 : w2.frozen? ⟨w.heap.size + 1, 1, none⟩ = false := (hm2.frozen (by simp)).trans (by simp [go_sem])
      have y2 : w2.frozen? ⟨w.heap.size + 1, 2, none⟩ = false := (hm2.frozen (by simp)).trans (by simp [go_sem])
      go_wp2_with fail
      refine (isNumber_no _ _ _ Ha.out).mono ?_
      rintro e w2' ⟨rfl, rfl⟩
      go_wp2
      refine bodyPost_ret (v := .tuple #[jac 0 none 0 0 none 0 0, .int .i64 2]) (by simp [results, Try.results58, go_sem, r0, r1, r2]) rfl ?_
      exact ResJ.nil HQ.out HV.out HU.out HC.out (((hB2.setCell (by simp) _).setCell (by simp) _).setCell (by simp) _)
end Go.Proofs.Ytldcbdehgmmkjaa
