/- Merged texts. -/
import Derived.Test.YtcadiepghhnbeaaYW125
import Derived.Test.YtcadiepghhnbeaaYW131
import Derived.Test.YtcadiepghhnbeaaYW127
import Derived.Test.YtcadiepghhnbeaaYW132
import Derived.Test.YtcadiepghhnbeaaYW123
import Derived.Test.YtcadiepghhnbeaaYW122
import Derived.Test.YtcadiepghhnbeaaYW120
import Derived.Test.YtcadiepghhnbeaaYW117
import Derived.Handy
/- weightsFor.parts (program): the nodes with their weights by interpolation. -/
namespace Go.Proofs.Ytcadiepghhnbeaa
open Go.RowKit Go.Sort
set_option linter.unusedVariables false
set_option linter.unusedSimpArgs false

def unitL (n i : Nat) : List Int := tab n (fun j => if j = i then 1 else 0)
theorem unitL_at (n i j : Nat) (hi : i < n) : (unitL n i).getD j 0 = if j = i then 1 else 0 := by
  by_cases h : j < n
  · exact tab_at _ _ _ h
  · rw [if_neg (by omega)]
    unfold unitL
    rw [List.getD, List.getElem?_eq_none (by rw [tab_len]; omega)]
    rfl
theorem unitL_are {p : Int} (hp : 2 ≤ p) (n i : Nat) : areB p (unitL n i) = true := tab_are' fun j _ => by
  split <;> omega
theorem unitL_set (n i : Nat) : (tab n (fun _ => (0 : Int))).set i 1 = unitL n i := by
  rw [tab_set]
  rfl
/-- The weight at node i, by interpolation. -/
def wfI (p : Int) (ms xs : List Int) (i : Nat) : Int := dotK p (itpF p xs (unitL xs.length i) xs.length).1 ms 0 (itpF p xs (unitL xs.length i) xs.length).1.length
def wfW (p : Int) (ms xs : List Int) : List Int := tab xs.length (wfI p ms xs)
theorem wfW_are {p : Int} (hp : 2 ≤ p) (ms xs : List Int) : areB p (wfW p ms xs) = true := tab_are' fun j _ => dotK_rng hp _ _ _ _
set_option maxRecDepth 100000 in
set_option maxHeartbeats 1600000 in
theorem weightsParts_any (p : Int) (a : Option Addr) (n c : Nat) (ms : List Int) (b : Option Addr) (m d : Nat) (xs : List Int) (w : World) (hs : SL w a n c ms) (ht : SL w b m d xs) (hn : n ≤ 24) (hmn : m ≤ n) (hpr : primeB p = true) (hm : areB p ms = true) (hx : areB p xs = true) :
    Calls Try.prog 150 #[.agg #[.int .i64 p, .slice a n c, .slice b m d]] w fun e w' => ∃ g, e = .returned (.slice (some ⟨g, 0, none⟩) m m) ∧ w.heap.size ≤ g ∧ PR w' g (zipW xs (wfW p ms xs)) ∧ Below w.heap.size w w' := by
  obtain ⟨hp, hp2⟩ := primeB_lo hpr
  have hl := hide hs.len
  have hl2 := hide ht.len
  have HP := hide hpr
  have HM := hide hm
  have HX := hide hx
  clear hpr hm hx
  have hb0 := bl1 w (.cells #[.int .i64 p, .slice a n c, .slice b m d] 73)
  have hb1 := bl2 w (.cells #[.int .i64 p, .slice a n c, .slice b m d] 73) (.cells (zrowW m) 101)
  have hmk := run_mkW m (by omega) (w.alloc (.cells #[.int .i64 p, .slice a n c, .slice b m d] 73))
  have hP0 := hide (PR.made (w.alloc (.cells #[.int .i64 p, .slice a n c, .slice b m d] 73)) m xs (wfW p ms xs))
  have hW : Hid (zipK xs (wfW p ms xs) m m = zipW xs (wfW p ms xs)) := hide (by unfold zipW; rw [hl2.out])
  have e1 := show ((w.alloc (.cells #[.int .i64 p, .slice a n c, .slice b m d] 73)).alloc (.cells (zrowW m) 101)).heap.size = w.heap.size + 2 by simp
  by_cases h0 : m = 0
  · subst h0
    rw [show ((0 : Nat) : Int) = 0 from rfl] at hmk
    go_enter Try.func150, Try.ntmps150
    go_wp2
    refine wp_loop_rounds 1 ?_
    rw [rounds_succ]
    go_wp2
    go_ret
    refine ⟨_, rfl, by simp, ?_, hb1⟩
    rw [← hW.out]
    simpa using hP0.out
  simp only [World.size_alloc] at hmk hP0
  obtain ⟨b2, o2, rfl, hw2, hc2⟩ := ht.at (by omega)
  have hmk2 := run_mk m (by omega)
  have hF0 := hide (show (((w.alloc (.cells #[.int .i64 p, .slice a n c, .slice (some ⟨b2, o2, none⟩) m d] 73)).alloc (.cells (zrowW m) 101)).cell? ⟨w.heap.size, 1, none⟩ = some (.slice a n c) ∧ ((w.alloc (.cells #[.int .i64 p, .slice a n c, .slice (some ⟨b2, o2, none⟩) m d] 73)).alloc (.cells (zrowW m) 101)).cell? ⟨w.heap.size, 2, none⟩ = some (.slice (some ⟨b2, o2, none⟩) m d)) by constructor <;> simp [go_sem])
  go_enter Try.func150, Try.ntmps150
  go_upto_region 4 with fail
  clear hmk
  go_wp2_with fail
  go_loopw [19] (fun iv wr => ∃ k : Nat, k ≤ m ∧ iv = .int .i64 k ∧ Hid (PR wr (w.heap.size + 1) (zipK xs (wfW p ms xs) m k)) ∧ Hid (Below w.heap.size w wr) ∧ Hid (wr.cell? ⟨w.heap.size, 1, none⟩ = some (.slice a n c) ∧ wr.cell? ⟨w.heap.size, 2, none⟩ = some (.slice (some ⟨b2, o2, none⟩) m d)) ∧ w.heap.size + 2 ≤ wr.heap.size) (fun iv _ => m - (intOf iv).toNat)
  case atStart => exact ⟨0, by omega, rfl, hP0, hide hb1, hF0, by omega⟩
  case round =>
    obtain ⟨k, hk, rfl, hP, hB, hj, hsz⟩ := hrel
    clear hP0 hb1 hF0 e1
    by_cases hlt : k < m
    · have hlt' : (k : Int) < (m : Int) := by omega
      have q2 : wr.cell? ⟨b2, o2 + k, none⟩ = some (.int .i64 (xs.getD k 0)) := cell_be hB.out (hc2 k hlt)
      have j1 := hj.out.1
      have j2 := hj.out.2
      have st := hide (zipK_step xs (wfW p ms xs) m k hlt)
      have hYe : (wfW p ms xs).getD k 0 = wfI p ms xs k := tab_at _ _ _ (by rw [hl2.out]; exact hlt)
      obtain ⟨X, hX⟩ : ∃ X, xs.getD k 0 = X := ⟨_, rfl⟩
      obtain ⟨Y, hY⟩ : ∃ Y, wfI p ms xs k = Y := ⟨_, rfl⟩
      rw [hX] at q2 st
      rw [hYe, hY] at st
      have HY : Hid (dotK p (itpF p xs (unitL m k) m).1 ms 0 (itpF p xs (unitL m k) m).1.length = Y) := hide (by rw [← hY]; unfold wfI; rw [hl2.out])
      have hif := itp_f HP.out xs (unitL m k) m (by omega)
      obtain ⟨f, hf⟩ : ∃ f, (itpF p xs (unitL m k) m).1 = f := ⟨_, rfl⟩
      rw [hf] at HY hif
      have HF := hide hf
      have Hfa := hide hif.1
      have hfl := hif.2
      have hrow := (zrow_row wr m).set k 1
      have hal := bl1 wr (.cells (zrow m) 2)
      have z1 : (wr.alloc (.cells (zrow m) 2)).heap.size = wr.heap.size + 1 := by simp
      have hc := (zrow_row wr m).cell k (by rw [tab_len]; exact hlt)
      have hfr := (zrow_row wr m).free k
      rw [unitL_set] at hrow
      rw [tab_at _ _ _ hlt] at hc
      have hBw : Below wr.heap.size wr ((wr.alloc (.cells (zrow m) 2)).setCell ⟨wr.heap.size, k, none⟩ (.int .i64 1)) := hal.setCell (by simp) _
      have hU : Hid (SL ((wr.alloc (.cells (zrow m) 2)).setCell ⟨wr.heap.size, k, none⟩ (.int .i64 1)) (some ⟨wr.heap.size, 0, none⟩) m m (unitL m k)) := hide (by
        have t := hrow.own' (Nat.le_refl _) (by unfold unitL; rw [tab_len]; unfold maxLen; omega)
        have t2 := Own.sl t
        unfold unitL at t2 ⊢
        rwa [tab_len] at t2)
      have hS := hide (hs.below (hB.out.trans (hBw.mono (by omega))))
      have hT := hide (ht.below (hB.out.trans (hBw.mono (by omega))))
      clear hX hY hYe hf hif hrow hal
      go_upto_region 7 with fail
      obtain ⟨wA, hwA⟩ : ∃ wA, wA = wr.alloc (.cells (zrow m) 2) := ⟨_, rfl⟩
      rw [← hwA] at hc hfr z1 hU hS hT hBw ⊢
      clear hwA
      go_upto_region 8 with fail
      obtain ⟨ws, hws⟩ : ∃ ws, ws = wA.setCell ⟨wr.heap.size, k, none⟩ (.int .i64 1) := ⟨_, rfl⟩
      rw [← hws] at hU hS hT hBw ⊢
      clear hws hc hfr z1
      have j1w := cell_be hBw j1
      have j2w := cell_be hBw j2
      go_wp2_with fail
      refine (interpolate_any p _ _ _ xs _ _ (unitL m k) _ hT.out hU.out (by omega) HP.out HX.out (unitL_are hp m k)).mono ?_
      rintro e w5 ⟨a5, c5, rfl, o5, t5⟩
      rw [HF.out] at o5
      rw [HF.out]
      have sf := Own.sl o5
      have hs5 := hS.out.below t5
      have j1' := cell_be t5 j1w
      have j2' := cell_be t5 j2w
      have hB5 : Below wr.heap.size wr w5 := hBw.trans (t5.mono hBw.size)
      clear hS hT hU t5 hBw j1w j2w
      go_wp2_with fail
      refine (functional_int p _ _ _ f _ _ _ ms _ sf hs5 (by omega) (by omega) hp hp2 Hfa.out HM.out).mono ?_
      rintro e v5 ⟨rfl, rfl⟩
      rw [HY.out]
      have hP5 := hP.out.below hB5
      have hlen := zipK_len xs (wfW p ms xs) m k
      have c0 := hP5.c0 k (by omega)
      have c1 := hP5.c1 k (by omega)
      have f0 := hP5.f0 k (by omega)
      have f1 := hP5.f1 k (by omega)
      have hSt := hide (hP5.setTwo (show k < (zipK xs (wfW p ms xs) m k).length by omega) X Y)
      rw [st.out] at hSt
      have hBS := hide (((hB.out.trans (hB5.mono (by omega))).setCell (p := ⟨w.heap.size + 1, k * 2, none⟩) (by simp) (.int .i64 X)).setCell (p := ⟨w.heap.size + 1, k * 2 + 1, none⟩) (by simp) (.int .i64 Y))
      have hJS := hide (And.intro (cell_set2 (cell_set2 j1' (show w.heap.size + 1 ≠ w.heap.size by omega) (.int .i64 X) (a := ⟨w.heap.size + 1, k * 2, none⟩)) (show w.heap.size + 1 ≠ w.heap.size by omega) (.int .i64 Y) (a := ⟨w.heap.size + 1, k * 2 + 1, none⟩)) (cell_set2 (cell_set2 j2' (show w.heap.size + 1 ≠ w.heap.size by omega) (.int .i64 X) (a := ⟨w.heap.size + 1, k * 2, none⟩)) (show w.heap.size + 1 ≠ w.heap.size by omega) (.int .i64 Y) (a := ⟨w.heap.size + 1, k * 2 + 1, none⟩)))
      have hz5 := hB5.size
      clear hlen hP hB hj sf hs5 o5 hP5 hB5
      go_wp2
      go_roundw
      case rel => exact ⟨k + 1, by omega, by go_num, hSt, hBS, hJS, by simp; omega⟩
      case measure => simp [intOf]; omega
    · have hkn : k = m := by omega
      subst hkn
      have hge : ¬ (k : Int) < (k : Int) := by omega
      go_wp2
      go_ret
      refine ⟨_, rfl, by omega, ?_, hB.out⟩
      rw [← hW.out]
      exact hP.out
end Go.Proofs.Ytcadiepghhnbeaa
/- ruleOf (program) at the rules with weights for nodes. -/
namespace Go.Proofs.Ytcadiepghhnbeaa
open Go.RowKit Go.Sort
set_option linter.unusedVariables false
set_option linter.unusedSimpArgs false

set_option maxRecDepth 100000 in
set_option maxHeartbeats 6400000 in
theorem ruleOf_weights (p : Int) (a : Option Addr) (n c0 : Nat) (b : Option Addr) (m d : Nat) (D : List (Int × Int)) (w : World) (hp : 2 ≤ p) (hp2 : p ≤ 10007) (hDl : D.length ≤ 100) (hDw : ∀ e ∈ D, 0 ≤ e.2 ∧ e.2 < p)
    (hparts : ∀ w', Below w.heap.size w w' → Calls Try.prog 150 #[.agg #[.int .i64 p, .slice a n c0, .slice b m d]] w' fun e w'' => ∃ g c, e = .returned (.slice (some ⟨g, 0, none⟩) D.length c) ∧ w'.heap.size ≤ g ∧ PR w'' g D ∧ Below w'.heap.size w' w'') :
    Calls Try.prog 56 #[.int .i64 p, .iface 73 (.agg #[.int .i64 p, .slice a n c0, .slice b m d])] w (ResU w p (putsR p [] D)) := by
  have hb0 := bl1 w (.cells #[.int .i64 0, .slice none 0 0, .slice none 0 0] 27)
  have HD := hide hDw
  have Hparts := hide hparts
  clear hDw hparts
  go_enter Try.func56, Try.ntmps56
  go_wp2_with fail
  refine (Hparts.out _ hb0).mono ?_
  rintro e w1 ⟨g, c, rfl, hg, hP, t1⟩
  have hB1 := bnext hb0 t1
  have hg1 : w.heap.size < g := by simp at hg; omega
  have r0 : w1.cell? ⟨w.heap.size, 0, none⟩ = some (.int .i64 0) := cell_be t1 (by simp [go_sem])
  have r1 : w1.cell? ⟨w.heap.size, 1, none⟩ = some (.slice none 0 0) := cell_be t1 (by simp [go_sem])
  have r2 : w1.cell? ⟨w.heap.size, 2, none⟩ = some (.slice none 0 0) := cell_be t1 (by simp [go_sem])
  have y0 : w1.frozen? ⟨w.heap.size, 0, none⟩ = false := (t1.frozen (by simp)).trans (by simp [go_sem])
  have y1 : w1.frozen? ⟨w.heap.size, 1, none⟩ = false := (t1.frozen (by simp)).trans (by simp [go_sem])
  have y2 : w1.frozen? ⟨w.heap.size, 2, none⟩ = false := (t1.frozen (by simp)).trans (by simp [go_sem])
  clear hb0 t1 hg Hparts
  go_wp2_with fail
  refine (sortW_any g c D _ hP (by omega)).mono ?_
  rintro e w2 ⟨rfl, L, hPL, hperm, hsor, tt⟩
  have hlen : L.length = D.length := hperm.length_eq
  have hB2 := below_touch hB1 tt (by omega) hB1.size
  replace y0 := tt.frozen r0 y0 (.inl (by omega))
  replace y1 := tt.frozen r1 y1 (.inl (by omega))
  replace y2 := tt.frozen r2 y2 (.inl (by omega))
  replace r0 := tt.cell r0 (.inl (by omega))
  replace r1 := tt.cell r1 (.inl (by omega))
  replace r2 := tt.cell r2 (.inl (by omega))
  have HDL := hide (fun e (he : e ∈ L) => HD.out e (hperm.mem_iff.1 he))
  have HRes := hide (show appT p L L.length = putsR p [] D by rw [appT_all]; exact appK_puts p hsor hperm)
  have HA := hide (fun k (hk : k ≤ L.length) => appT_are hp HDL.out k hk)
  have hLl : L.length ≤ 100 := by omega
  rw [← hlen]
  clear hlen
  have hgl := hPL.lt
  obtain ⟨w3, hw3⟩ : ∃ w3, w3 = w2.alloc (.cells #[.int .i64 p, .slice none 0 0, .slice none 0 0] 27) := ⟨_, rfl⟩
  have t3 : Below w2.heap.size w2 w3 := by rw [hw3]; exact bl1 w2 _
  have q0 : w3.cell? ⟨w2.heap.size, 0, none⟩ = some (.int .i64 p) := by rw [hw3]; simp [go_sem]
  have q1 : w3.cell? ⟨w2.heap.size, 1, none⟩ = some (.slice none 0 0) := by rw [hw3]; simp [go_sem]
  have q2 : w3.cell? ⟨w2.heap.size, 2, none⟩ = some (.slice none 0 0) := by rw [hw3]; simp [go_sem]
  have x1 : w3.frozen? ⟨w2.heap.size, 1, none⟩ = false := by rw [hw3]; simp [go_sem]
  have x2 : w3.frozen? ⟨w2.heap.size, 2, none⟩ = false := by rw [hw3]; simp [go_sem]
  have z3 : w3.heap.size = w2.heap.size + 1 := by rw [hw3]; simp
  have zw := hB2.size
  obtain ⟨q, hq⟩ : ∃ q, w2.heap.size = q := ⟨_, rfl⟩
  have t3q : Below q w2 w3 := by rw [← hq]; exact t3
  have hB3 := hB2.trans (t3q.mono (show w.heap.size ≤ q by omega))
  have hP3 := hide (hPL.below t3)
  rw [hq] at q0 q1 q2 x1 x2 z3 zw hgl
  have hR3 := hide (And.intro (cell_be t3 r0) (And.intro (cell_be t3 r1) (And.intro (cell_be t3 r2) (And.intro ((t3.frozen (World.block_lt_of_cell? _ _ r0)).trans y0) (And.intro ((t3.frozen (World.block_lt_of_cell? _ _ r1)).trans y1) ((t3.frozen (World.block_lt_of_cell? _ _ r2)).trans y2))))))
  have hQ0 := hide (And.intro q0 (And.intro q1 (And.intro q2 (And.intro x1 x2))))
  have hI0 := hide (Below.refl q w3)
  have hO0 := hide (Own.nil (q + 1) w3)
  have hz0 : q + 1 ≤ w3.heap.size := by omega
  have hBw := hide hB3
  clear hP HD hPL hperm hsor tt hB1 hB2 t3 t3q q0 q1 q2 x1 x2 r0 r1 r2 y0 y1 y2 hB3
  go_upto_region 4 with fail
  rw [← hw3]
  clear hw3 hq z3
  go_wp2
  go_loopw [18] (fun iv wr => ∃ (k m : Nat) (na : Option Addr) (nc : Nat) (wa : Option Addr) (wc : Nat), k ≤ L.length ∧ m ≤ k ∧ iv = .int .i64 k ∧ Hid ((appT p L k).length = m) ∧ Hid (wr.cell? ⟨q, 0, none⟩ = some (.int .i64 p) ∧ wr.cell? ⟨q, 1, none⟩ = some (.slice na m nc) ∧ wr.cell? ⟨q, 2, none⟩ = some (.slice wa m wc) ∧ wr.frozen? ⟨q, 1, none⟩ = false ∧ wr.frozen? ⟨q, 2, none⟩ = false) ∧
    Hid (Own (q + 1) wr na nc (nodesR (appT p L k))) ∧ Hid (Own (q + 1) wr wa wc (wtsR (appT p L k))) ∧ Hid (∀ b, blk na = some b → blk wa ≠ some b) ∧ Hid (Below q w3 wr) ∧ q + 1 ≤ wr.heap.size) (fun iv _ => L.length - (intOf iv).toNat)
  case atStart => exact ⟨0, 0, none, 0, none, 0, Nat.zero_le _, Nat.le_refl _, rfl, hide (by rw [appT_zero]; rfl), hQ0, hide (by rw [appT_zero]; exact hO0.out), hide (by rw [appT_zero]; exact hO0.out), hide (fun b hb => by cases hb), hI0, hz0⟩
  case round =>
    obtain ⟨k, m, na, nc, wa, wcc, hk, hmk, rfl, hM, hQ, hN, hW, hdis, hI, hsz⟩ := hrel
    clear hQ0 hI0 hO0 hz0
    by_cases hlt : k < L.length
    · have hlt' : (k : Int) < (L.length : Int) := by omega
      have hk0 : (0 : Int) ≤ (k : Int) := by omega
      obtain ⟨p0, p1, p2, f1, f2⟩ := hQ.out
      have e0 : wr.cell? ⟨g, k * 2, none⟩ = some (.int .i64 (L.getD k (0, 0)).1) := (hI.out.cell (by simpa using hgl)).trans (hP3.out.c0 k hlt)
      have e1 : wr.cell? ⟨g, k * 2 + 1, none⟩ = some (.int .i64 (L.getD k (0, 0)).2) := (hI.out.cell (by simpa using hgl)).trans (hP3.out.c1 k hlt)
      have rV := HDL.out (L.getD k (0, 0)) (by rw [List.getD, List.getElem?_eq_getElem hlt]; exact List.getElem_mem _)
      have hsuc := hide (appT_succ p L k hlt)
      have hAk := hide (HA.out k (by omega))
      obtain ⟨X, hX⟩ : ∃ X, (L.getD k (0, 0)).1 = X := ⟨_, rfl⟩
      obtain ⟨V, hV⟩ : ∃ V, (L.getD k (0, 0)).2 = V := ⟨_, rfl⟩
      rw [hX] at e0
      rw [hV] at e1 rV
      rw [hX, hV] at hsuc
      obtain ⟨R, hR⟩ : ∃ R, appT p L k = R := ⟨_, rfl⟩
      rw [hR] at hM hN hW hsuc hAk
      have hNl : (nodesR R).length = m := by rw [nodesR_len]; exact hM.out
      have hWl : (wtsR R).length = m := by rw [wtsR_len]; exact hM.out
      have hN0 := hide (ownLt hN.out)
      have hW0 := hide (ownLt hW.out)
      obtain ⟨z, hz⟩ : ∃ z, (m : Int) - 1 = z := ⟨_, rfl⟩
      have vz : IntKind.i64.wrap ((m : Int) - 1) = z := by rw [hz]; exact IntWalk.i64_in _ (by omega)
      have Hz := hide hz
      clear hX hV hR hz
      have hbE := bl1 wr (.cells #[.int .i64 X, .int .i64 V] 101)
      have a0 := cell_al p0 (.cells #[.int .i64 X, .int .i64 V] 101)
      have a1 := cell_al p1 (.cells #[.int .i64 X, .int .i64 V] 101)
      have a2 := cell_al p2 (.cells #[.int .i64 X, .int .i64 V] 101)
      have hEx : (wr.alloc (.cells #[.int .i64 X, .int .i64 V] 101)).heap.size = wr.heap.size + 1 := by simp
      have b0 : (wr.alloc (.cells #[.int .i64 X, .int .i64 V] 101)).cell? ⟨wr.heap.size, 0, none⟩ = some (.int .i64 X) := by simp [go_sem]
      have b1 : (wr.alloc (.cells #[.int .i64 X, .int .i64 V] 101)).cell? ⟨wr.heap.size, 1, none⟩ = some (.int .i64 V) := by simp [go_sem]
      have g1 := frz_al p1 f1 (.cells #[.int .i64 X, .int .i64 V] 101)
      have g2 := frz_al p2 f2 (.cells #[.int .i64 X, .int .i64 V] 101)
      have hNE := hide (hN.out.below hbE)
      have hWE := hide (hW.out.below hbE)
      have hIE := hide (hI.out.trans (hbE.mono (show q ≤ wr.heap.size by omega)))
      clear p0 p1 p2 f1 f2 hQ hN hW hI hbE
      by_cases hold : m ≠ 0 ∧ (nodesR R).getD (m - 1) 0 = X
      · obtain ⟨hm0, hlast⟩ := hold
        have hap := appR_old p R X V (by rw [hM.out]; exact hm0) (by rw [hM.out]; exact hlast)
        rw [hM.out] at hap
        have hz0 : (0 : Int) ≤ z := by have := Hz.out; omega
        have hzm : z < (m : Int) := by have := Hz.out; omega
        have hzn : z.toNat = m - 1 := by have := Hz.out; omega
        obtain ⟨bn, hbn⟩ : ∃ bn, na = some ⟨bn, 0, none⟩ := by
          obtain ⟨b', e, _⟩ := hNE.out.blkG (by rw [hNl]; exact hm0)
          exact ⟨b', e⟩
        obtain ⟨bw, hbw⟩ : ∃ bw, wa = some ⟨bw, 0, none⟩ := by
          obtain ⟨b', e, _⟩ := hWE.out.blkG (by rw [hWl]; exact hm0)
          exact ⟨b', e⟩
        subst hbn hbw
        have cN := Own.cellG hNE.out (m - 1) (by rw [hNl]; omega)
        have cW := Own.cellG hWE.out (m - 1) (by rw [hWl]; omega)
        have fW := Own.freeG hWE.out (m - 1)
        rw [hlast] at cN
        have rU := getD_rng hAk.out hp (m - 1)
        have hgeW := own_blk_ge hWE.out bw rfl
        have hneNW : bn ≠ bw := fun e => hdis.out bn rfl (by rw [e]; rfl)
        obtain ⟨U, hU⟩ : ∃ U, (wtsR R).getD (m - 1) 0 = U := ⟨_, rfl⟩
        rw [hU] at cW rU hap
        obtain ⟨S, hS⟩ : ∃ S, (U + V) % p = S := ⟨_, rfl⟩
        rw [hS] at hap
        have HS : Hid ((U + 1 * V) % p = S) := hide (by rw [Int.one_mul]; exact hS)
        have hap1 := hide (show nodesR (appT p L (k + 1)) = nodesR R by rw [hsuc.out]; exact hap.1)
        have hap2 := hide (show wtsR (appT p L (k + 1)) = (wtsR R).set (m - 1) S by rw [hsuc.out]; exact hap.2.1)
        have hap3 := hide (show (appT p L (k + 1)).length = m by rw [hsuc.out, hap.2.2])
        clear hap hlast hU hS hsuc
        go_upto_region 8 with fail
        go_quiet (fail)
        obtain ⟨w5, hw5⟩ : ∃ w5 : World, w5 = (wr.alloc (.cells #[.int .i64 X, .int .i64 V] 101)).drewN nq := ⟨_, rfl⟩
        have t5 : Below (wr.heap.size + 1) (wr.alloc (.cells #[.int .i64 X, .int .i64 V] 101)) w5 := by rw [hw5]; exact below_drewN (Below.refl _ _) _
        rw [← hw5]
        rw [← hEx] at t5
        clear hw5
        have hBd := (Below.refl w5.heap.size w5).drew
        have t6 := bnext t5 hBd
        have F : ∀ w', Below (wr.alloc (.cells #[.int .i64 X, .int .i64 V] 101)).heap.size (wr.alloc (.cells #[.int .i64 X, .int .i64 V] 101)) w' → w'.cell? ⟨q, 2, none⟩ = some (.slice (some ⟨bw, 0, none⟩) m wcc) ∧ w'.cell? ⟨bw, m - 1, none⟩ = some (.int .i64 U) ∧ w'.cell? ⟨wr.heap.size, 1, none⟩ = some (.int .i64 V) := fun w' h => ⟨cell_be h a2, cell_be h cW, cell_be h b1⟩
        have zq := hIE.out.size
        have cW5 := cell_be t5 cW
        have fW5 := (t5.frozen (World.block_lt_of_cell? _ _ cW)).trans fW
        have hNn := Own.otherG (hNE.out.below t5) (show blk (some ⟨bn, 0, none⟩) ≠ some bw from fun e => hneNW (Option.some.inj e)) (j := m - 1) (.int .i64 S)
        have hWn := Own.setG (hWE.out.below t5) (m - 1) S
        rw [← hap1.out] at hNn
        rw [← hap2.out] at hWn
        have hNF := hide (hNn.below (Below.refl _ _).drew)
        have hWF := hide (hWn.below (Below.refl _ _).drew)
        have hQF := hide (And.intro (cell_set2 (cell_be t5 a0) (show bw ≠ q by omega) (.int .i64 S) (a := ⟨bw, m - 1, none⟩)) (And.intro (cell_set2 (cell_be t5 a1) (show bw ≠ q by omega) (.int .i64 S) (a := ⟨bw, m - 1, none⟩)) (cell_set2 (cell_be t5 a2) (show bw ≠ q by omega) (.int .i64 S) (a := ⟨bw, m - 1, none⟩))))
        have hF1 : (w5.setCell ⟨bw, m - 1, none⟩ (.int .i64 S)).frozen? ⟨q, 1, none⟩ = false := by
          have := (t5.frozen (World.block_lt_of_cell? _ _ a1)).trans g1
          simpa using this
        have hF2 : (w5.setCell ⟨bw, m - 1, none⟩ (.int .i64 S)).frozen? ⟨q, 2, none⟩ = false := by
          have := (t5.frozen (World.block_lt_of_cell? _ _ a2)).trans g2
          simpa using this
        have hIF := hide (((hIE.out.trans (t5.mono (show q ≤ (wr.alloc (.cells #[.int .i64 X, .int .i64 V] 101)).heap.size by omega))).setCell (p := ⟨bw, m - 1, none⟩) (by simp; omega) (.int .i64 S)).drew)
        have hzF : q + 1 ≤ (w5.setCell ⟨bw, m - 1, none⟩ (.int .i64 S)).drew.heap.size := by have := t5.size; simp at this ⊢; omega
        clear hNn hWn
        go_upto_region 9 with fail
        refine region_E (fun w' => w'.cell? ⟨q, 2, none⟩ = some (.slice (some ⟨bw, 0, none⟩) m wcc) ∧ w'.cell? ⟨bw, m - 1, none⟩ = some (.int .i64 U) ∧ w'.cell? ⟨wr.heap.size, 1, none⟩ = some (.int .i64 V)) 13 (by kernel_rfl) (F _ t6) ?_
        intro hS
        refine anyE_takeL 0 rfl (by kernel_rfl) (fun _ _ _ h => h) hS (by rfl) (v := ?_) ?_ ?_
        rotate_left
        · intro w' hSw; (try dsimp only at hSw); go_simp; (try with_reducible rfl)
        try simp only [Act.put, List.setIfInBounds_toArray, List.set_cons_zero, List.set_cons_succ]
        refine anyE_takeL 1 rfl (by kernel_rfl) (fun _ _ _ h => h) hS (by rfl) (v := ?_) ?_ ?_
        rotate_left
        · intro w' hSw; (try dsimp only at hSw); go_simp; (try with_reducible rfl)
        try simp only [Act.put, List.setIfInBounds_toArray, List.set_cons_zero, List.set_cons_succ]
        refine anyE_takeL 2 rfl (by kernel_rfl) (fun _ _ _ h => h) hS (by rfl) (v := ?_) ?_ ?_
        rotate_left
        · intro w' hSw; (try dsimp only at hSw); go_simp; (try with_reducible rfl)
        try simp only [Act.put, List.setIfInBounds_toArray, List.set_cons_zero, List.set_cons_succ]
        refine anyE_takeL 3 rfl (by kernel_rfl) (fun _ _ _ h => h) hS (by rfl) (v := ?_) ?_ ?_
        rotate_left
        · intro w' hSw; (try dsimp only at hSw); go_simp; (try with_reducible rfl)
        try simp only [Act.put, List.setIfInBounds_toArray, List.set_cons_zero, List.set_cons_succ]
        refine anyE_takeL 4 rfl (by kernel_rfl) (fun _ _ _ h => h) hS (by rfl) (v := ?_) ?_ ?_
        rotate_left
        · intro w' hSw; (try dsimp only at hSw); go_simp; (try with_reducible rfl)
        try simp only [Act.put, List.setIfInBounds_toArray, List.set_cons_zero, List.set_cons_succ]
        refine anyE_takeL 5 rfl (by kernel_rfl) (fun _ _ _ h => h) hS (by rfl) (v := ?_) ?_ ?_
        rotate_left
        · intro w' hSw; (try dsimp only at hSw); go_simp; (try with_reducible rfl)
        try simp only [Act.put, List.setIfInBounds_toArray, List.set_cons_zero, List.set_cons_succ]
        refine anyE_takeL 6 rfl (by kernel_rfl) (fun _ _ _ h => h) hS (by rfl) (v := ?_) ?_ ?_
        rotate_left
        · intro w' hSw; (try dsimp only at hSw); go_simp; (try with_reducible rfl)
        try simp only [Act.put, List.setIfInBounds_toArray, List.set_cons_zero, List.set_cons_succ]
        refine anyE_takeL 7 rfl (by kernel_rfl) (fun _ _ _ h => h) hS (by rfl) (v := ?_) ?_ ?_
        rotate_left
        · intro w' hSw; (try dsimp only at hSw); go_simp; (try with_reducible rfl)
        try simp only [Act.put, List.setIfInBounds_toArray, List.set_cons_zero, List.set_cons_succ]
        refine anyE_takeL 8 rfl (by kernel_rfl) (fun _ _ _ h => h) hS (by rfl) (v := ?_) ?_ ?_
        rotate_left
        · intro w' hSw; (try dsimp only at hSw); go_simp; (try with_reducible rfl)
        try simp only [Act.put, List.setIfInBounds_toArray, List.set_cons_zero, List.set_cons_succ]
        refine anyE_takeL 9 rfl (by kernel_rfl) (fun _ _ _ h => h) hS (by rfl) (v := ?_) ?_ ?_
        rotate_left
        · intro w' hSw; (try dsimp only at hSw); go_simp; (try with_reducible rfl)
        try simp only [Act.put, List.setIfInBounds_toArray, List.set_cons_zero, List.set_cons_succ]
        refine anyE_takeL 10 rfl (by kernel_rfl) (fun _ _ _ h => h) hS (by rfl) (v := ?_) ?_ ?_
        rotate_left
        · intro w' hSw; (try dsimp only at hSw); go_simp; (try with_reducible rfl)
        try simp only [Act.put, List.setIfInBounds_toArray, List.set_cons_zero, List.set_cons_succ]
        refine anyE_oneL 11 (by kernel_rfl) rfl (fun K' hK' => ?_)
        go_simp
        refine (addNumber_any p U 1 V _ hp hp2 rU.1 rU.2 (by omega) (by omega) rV.1 rV.2).mono ?_
        rintro e u2 ⟨rfl, rfl⟩
        rw [HS.out]
        dsimp only
        refine hK'.out _ _ hS ?_
        clear hK' K'
        try simp only [Act.put, List.setIfInBounds_toArray, List.set_cons_zero, List.set_cons_succ]
        refine anyE_oneL 12 (by kernel_rfl) rfl (fun K' hK' => ?_)
        go_simp
        refine hK'.out _ _ hS ?_
        clear hK' K' hS F
        try simp only [Act.put, List.setIfInBounds_toArray, List.set_cons_zero, List.set_cons_succ]
        refine anyE_lastL (by kernel_rfl) rfl (by kernel_rfl) (fun K' hK' => ?_)
        go_simp
        refine hK'.out _ _ ?_
        clear hK' K'
        try simp only [Act.put, List.setIfInBounds_toArray, List.set_cons_zero, List.set_cons_succ]
        clear cW5 fW5 cN cW fW a0 a1 a2 b0 b1 g1 g2 t5 hBd t6 hNE hWE hIE
        go_wp2
        go_roundw
        case rel => exact ⟨k + 1, m, _, _, _, _, by omega, by omega, by go_num, hap3, hide ⟨hQF.out.1, hQF.out.2.1, hQF.out.2.2, hF1, hF2⟩, hNF, hWF, hdis, hIF, hzF⟩
        case measure => simp [intOf]; omega
      · have hnew : m = 0 ∨ (nodesR R).getD (m - 1) 0 ≠ X := by
          by_cases q0 : m = 0
          · exact .inl q0
          · exact .inr fun e => hold ⟨q0, e⟩
        have hap := appR_new p R X V (by rw [hM.out]; exact hnew)
        have hap1 := hide (show nodesR (appT p L (k + 1)) = nodesR R ++ [X] by rw [hsuc.out, hap]; simp [nodesR])
        have hap2 := hide (show wtsR (appT p L (k + 1)) = wtsR R ++ [V] by rw [hsuc.out, hap]; simp [wtsR])
        have hap3 := hide (show (appT p L (k + 1)).length = m + 1 by rw [hsuc.out, hap]; simp [hM.out])
        clear hap hold hsuc
        obtain ⟨w5, hw5, t5⟩ : ∃ w5 : World, True ∧ Below (wr.alloc (.cells #[.int .i64 X, .int .i64 V] 101)).heap.size (wr.alloc (.cells #[.int .i64 X, .int .i64 V] 101)) w5 := ⟨_, trivial, Below.refl _ _⟩
        clear hw5
        go_upto_region 8 with fail
        go_cut [37] (fun bv wx => bv = .bool false ∧ Hid (Below (wr.alloc (.cells #[.int .i64 X, .int .i64 V] 101)).heap.size (wr.alloc (.cells #[.int .i64 X, .int .i64 V] 101)) wx))
        case first =>
          by_cases hm0 : m = 0
          · have hzz : z = -1 := by have := Hz.out; omega
            have hd0 : decide ((0 : Int) ≤ z) = false := by rw [hzz]; decide
            clear hzz
            go_quiet (fail)
            go_wp2_with fail
            go_meet
            exact ⟨rfl, hide (below_drewN (Below.refl _ _) _)⟩
          · have hz0 : (0 : Int) ≤ z := by have := Hz.out; omega
            have hzm : z < (m : Int) := by have := Hz.out; omega
            have hzn : z.toNat = m - 1 := by have := Hz.out; omega
            obtain ⟨bn, hbn⟩ : ∃ bn, na = some ⟨bn, 0, none⟩ := by
              obtain ⟨b', e, _⟩ := hNE.out.blkG (by rw [hNl]; exact hm0)
              exact ⟨b', e⟩
            subst hbn
            have cN := Own.cellG hNE.out (m - 1) (by rw [hNl]; omega)
            have hne : (nodesR R).getD (m - 1) 0 ≠ X := by
              rcases hnew with h | h
              · exact absurd h hm0
              · exact h
            obtain ⟨Y, hY⟩ : ∃ Y, (nodesR R).getD (m - 1) 0 = Y := ⟨_, rfl⟩
            rw [hY] at cN hne
            have hdY : (Y == X) = false := by simpa using hne
            have hdY2 : decide (Y = X) = false := by simpa using hne
            clear hY hnew
            go_quiet (fail)
            go_wp2_with fail
            go_meet
            exact ⟨rfl, hide (below_drewN (Below.refl _ _) _)⟩
        case rest =>
        obtain ⟨rfl, hBc⟩ := hcut
        clear w5 t5
        obtain ⟨w5, hw5⟩ : ∃ w5, w5 = wc := ⟨wc, rfl⟩
        subst hw5
        have t5 := hBc.out
        have z5 := t5.size
        rw [hEx] at z5
        have zq := hIE.out.size
        replace a0 := cell_be t5 a0
        replace g1 := (t5.frozen (World.block_lt_of_cell? _ _ a1)).trans g1
        replace g2 := (t5.frozen (World.block_lt_of_cell? _ _ a2)).trans g2
        replace a1 := cell_be t5 a1
        replace a2 := cell_be t5 a2
        replace b0 := cell_be t5 b0
        replace b1 := cell_be t5 b1
        have hN5 := hide (hNE.out.below t5)
        have hW5 := hide (hWE.out.below t5)
        have hI5 := hide (hIE.out.trans (t5.mono (show q ≤ (wr.alloc (.cells #[.int .i64 X, .int .i64 V] 101)).heap.size by omega)))
        clear hBc hNE hWE hIE hnew t5
        -- the node
        have lx := bl1 w5 (.cells #[.int .i64 X] 2)
        have hcl : (w5.alloc (.cells #[.int .i64 X] 2)).cell? ⟨w5.heap.size, 0, none⟩ = some (.int .i64 X) := by simp [go_sem]
        have s1a := cell_al a1 (.cells #[.int .i64 X] 2)
        have sfa := frz_al a1 g1 (.cells #[.int .i64 X] 2)
        have hNa := hide (hN5.out.below lx)
        have hneq : blk na ≠ some q := fun e => by have := own_blk_ge hNa.out _ e; omega
        have hnlt : ∀ b, blk na = some b → b < w5.heap.size := fun b hb => ownLt hN5.out b hb
        have hwlt : ∀ b, blk wa = some b → b < w5.heap.size := fun b hb => ownLt hW5.out b hb
        go_upto_region 11 with (at_builtin; refine wp_app1 rfl _ _ rfl (q + 1) na m nc (nodesR R) rfl hNl.symm hNa.out ⟨w5.heap.size, 0, none⟩ 1 X rfl hcl (by omega) (by simp; omega) ?_; intro ad cap w7 hown hgr hloc; have s1' := cell_ne hgr s1a hneq; have sf' := frz_ne hgr s1a sfa hneq)
        have gr7 := hgr.size
        simp at gr7
        have hL1 : (nodesR R ++ [X]).length = m + 1 := by simp [hNl]
        have hq0 := cell_ne hgr (cell_al a0 (.cells #[.int .i64 X] 2)) hneq
        have hq2 := cell_ne hgr (cell_al a2 (.cells #[.int .i64 X] 2)) hneq
        have hg2 := frz_ne hgr (cell_al a2 (.cells #[.int .i64 X] 2)) (frz_al a2 g2 (.cells #[.int .i64 X] 2)) hneq
        have hEn : blk na ≠ some wr.heap.size := fun e => by
          have := hN0.out _ e
          omega
        have hb1 := cell_ne hgr (cell_al b1 (.cells #[.int .i64 X] 2)) hEn
        have hW7 := hide (Own.keep (hW5.out.below lx) hgr (fun b hb e => hdis.out b e hb))
        have hN7 := hide hown
        have hI7 := hide (((hI5.out.trans (lx.mono (show q ≤ w5.heap.size by omega))).grown hgr (by simp; omega) (fun b hb => by have := own_blk_ge hNa.out b hb; omega)))
        have hgq := own_blk_ge hown
        have had : ∀ b, blk ad = some b → blk wa ≠ some b := fun b hb hw => by
          rcases hloc with h | h
          · exact hdis.out b (by rw [← h]; exact hb) hw
          · rw [h] at hb
            have := hwlt b hw
            simp at hb
            omega
        clear hNa hN5 hW5 hI5 hcl lx s1a sfa hown hloc hgr a0 a1 a2 b0 b1 g1 g2
        obtain ⟨w8, hw8⟩ : ∃ w8, w8 = w7.setCell ⟨q, 1, none⟩ (.slice ad (m + 1) cap) := ⟨_, rfl⟩
        have c0 := cell_set2' hq0 (show (1 : Nat) ≠ 0 by omega) (.slice ad (m + 1) cap)
        have c1 := World.cell?_setCell_same _ _ (.slice ad (m + 1) cap) s1'
        have c2 := cell_set2' hq2 (show (1 : Nat) ≠ 2 by omega) (.slice ad (m + 1) cap)
        have d1 : (w7.setCell ⟨q, 1, none⟩ (.slice ad (m + 1) cap)).frozen? ⟨q, 1, none⟩ = false := by simpa using sf'
        have d2 : (w7.setCell ⟨q, 1, none⟩ (.slice ad (m + 1) cap)).frozen? ⟨q, 2, none⟩ = false := by simpa using hg2
        have cb := cell_set2 hb1 (show q ≠ wr.heap.size by omega) (.slice ad (m + 1) cap) (a := ⟨q, 1, none⟩)
        have hN8 := hide (Own.otherG hN7.out (show blk ad ≠ some q from fun e => by have := hgq _ e; omega) (j := 1) (.slice ad (m + 1) cap))
        have hW8 := hide (Own.otherG hW7.out (show blk wa ≠ some q from fun e => by have := own_blk_ge hW7.out _ e; omega) (j := 1) (.slice ad (m + 1) cap))
        have hI8 := hide (hI7.out.setCell (p := ⟨q, 1, none⟩) (by simp) (.slice ad (m + 1) cap))
        have z8 : (w7.setCell ⟨q, 1, none⟩ (.slice ad (m + 1) cap)).heap.size ≤ w7.heap.size := by simp
        have z8' : w7.heap.size ≤ (w7.setCell ⟨q, 1, none⟩ (.slice ad (m + 1) cap)).heap.size := by simp
        (try rw [hL1])
        rw [← hw8]
        rw [← hw8] at c0 c1 c2 d1 d2 cb hN8 hW8 hI8 z8 z8'
        clear hw8 hq0 hq2 hg2 s1' sf' hb1 hN7 hW7 hI7
        have lx := bl1 w8 (.cells #[.int .i64 V] 2)
        have hcl : (w8.alloc (.cells #[.int .i64 V] 2)).cell? ⟨w8.heap.size, 0, none⟩ = some (.int .i64 V) := by simp [go_sem]
        have s1a := cell_al c2 (.cells #[.int .i64 V] 2)
        have sfa := frz_al c2 d2 (.cells #[.int .i64 V] 2)
        have hWa := hide (hW8.out.below lx)
        have hneq := fun e : blk wa = some q => show False by have := own_blk_ge hWa.out _ e; omega
        go_upto_region 12 with (at_builtin; refine wp_app1 rfl _ _ rfl (q + 1) wa m wcc (wtsR R) rfl hWl.symm hWa.out ⟨w8.heap.size, 0, none⟩ 1 V rfl hcl (by omega) (by simp; omega) ?_; intro ad2 cap2 w9 hown hgr hloc; have s1' := cell_ne hgr s1a hneq; have sf' := frz_ne hgr s1a sfa hneq)
        have hL2 : (wtsR R ++ [V]).length = m + 1 := by simp [hWl]
        have gr9 := hgr.size
        simp at gr9
        have e0' := cell_ne hgr (cell_al c0 (.cells #[.int .i64 V] 2)) hneq
        have e1' := cell_ne hgr (cell_al c1 (.cells #[.int .i64 V] 2)) hneq
        have h1' := frz_ne hgr (cell_al c1 (.cells #[.int .i64 V] 2)) (frz_al c1 d1 (.cells #[.int .i64 V] 2)) hneq
        have hN9 := hide (Own.keep (hN8.out.below lx) hgr (fun b hb e => had b hb e))
        have hgq2 := own_blk_ge hown
        have hI9 := hide (((hI8.out.trans (lx.mono (show q ≤ w8.heap.size by omega))).grown hgr (by simp; omega) (fun b hb => by have := own_blk_ge hWa.out b hb; omega)))
        have had2 : ∀ b, blk ad = some b → blk ad2 ≠ some b := fun b hb hw => by
          rcases hloc with h | h
          · exact had b hb (by rw [← h]; exact hw)
          · rw [h] at hw
            have := ownLt hN8.out b hb
            simp at hw
            omega
        have hQF := hide (And.intro (cell_set2' e0' (show (2 : Nat) ≠ 0 by omega) (.slice ad2 (m + 1) cap2)) (And.intro (cell_set2' e1' (show (2 : Nat) ≠ 1 by omega) (.slice ad2 (m + 1) cap2)) (World.cell?_setCell_same _ _ (.slice ad2 (m + 1) cap2) s1')))
        have k1 : (w9.setCell ⟨q, 2, none⟩ (.slice ad2 (m + 1) cap2)).frozen? ⟨q, 1, none⟩ = false := by simpa using h1'
        have k2 : (w9.setCell ⟨q, 2, none⟩ (.slice ad2 (m + 1) cap2)).frozen? ⟨q, 2, none⟩ = false := by simpa using sf'
        have hNF := hide (Own.otherG hN9.out (show blk ad ≠ some q from fun e => by have := hgq _ e; omega) (j := 2) (.slice ad2 (m + 1) cap2))
        have hWF := hide (Own.otherG hown (show blk ad2 ≠ some q from fun e => by have := hgq2 _ e; omega) (j := 2) (.slice ad2 (m + 1) cap2))
        rw [← hap1.out] at hNF
        rw [← hap2.out] at hWF
        have hIF := hide (hI9.out.setCell (p := ⟨q, 2, none⟩) (by simp) (.slice ad2 (m + 1) cap2))
        have hzF : q + 1 ≤ (w9.setCell ⟨q, 2, none⟩ (.slice ad2 (m + 1) cap2)).heap.size := by simp; omega
        (try rw [hL2])
        clear e0' e1' h1' s1' sf' c0 c1 c2 d1 d2 cb hown hgr hWa lx hcl s1a sfa hN8 hW8 hI8 hN9 hI9 hloc
        go_wp2
        go_roundw
        case rel => exact ⟨k + 1, m + 1, _, _, _, _, by omega, by omega, by go_num, hap3, hide ⟨hQF.out.1, hQF.out.2.1, hQF.out.2.2, k1, k2⟩, hNF, hWF, hide had2, hIF, hzF⟩
        case measure => simp [intOf]; omega
    · have hkn : Hid (k = L.length) := hide (by omega)
      have hge : ¬ (k : Int) < (L.length : Int) := by omega
      obtain ⟨p0, p1, p2, f1, f2⟩ := hQ.out
      obtain ⟨r0, r1, r2, y0, y1, y2⟩ := hR3.out
      have hw0 : w.heap.size < q := by omega
      have hlw3 : ∀ o v, w3.cell? ⟨w.heap.size, o, none⟩ = some v → wr.cell? ⟨w.heap.size, o, none⟩ = some v := fun o v h => (hI.out.cell (by simpa using hw0)).trans h
      have yf := fun o => hI.out.frozen (show (⟨w.heap.size, o, none⟩ : Addr).block < q from hw0)
      have hfin := hide (show appT p L k = putsR p [] D by rw [hkn.out]; exact HRes.out)
      have hlF := hide (show m = (putsR p [] D).length by rw [← hfin.out]; exact hM.out.symm)
      have hBF := hBw.out.trans (hI.out.mono (show w.heap.size ≤ q by omega))
      rw [hfin.out] at hN hW
      have hJ : JZ (q + 1) wr.heap.size wr na m nc (nodesR (putsR p [] D)) wa m wcc (wtsR (putsR p [] D)) := by
        have l1 : (nodesR (putsR p [] D)).length = m := by rw [nodesR_len]; exact hlF.out.symm
        have l2 : (wtsR (putsR p [] D)).length = m := by rw [wtsR_len]; exact hlF.out.symm
        have o1 := OZ.of hN.out l1.symm
        have o2 := OZ.of hW.out l2.symm
        exact JZ_of o1 o2 hdis.out
      have HJ := hide hJ
      replace r0 := hlw3 _ _ r0
      replace r1 := hlw3 _ _ r1
      replace r2 := hlw3 _ _ r2
      replace y0 := (yf 0).trans y0
      replace y1 := (yf 1).trans y1
      replace y2 := (yf 2).trans y2
      clear hlw3 yf f1 f2 hJ hN hW hdis
      go_wp2
      refine bodyPost_ret (v := jac p na m nc wa m wcc) (by simp [results, Try.results56, go_sem, r0, r1, r2]) rfl ?_
      have j2 := ((HJ.out.setLow (x := ⟨w.heap.size, 0, none⟩) (by simp; omega) (.int .i64 p)).setLow (x := ⟨w.heap.size, 1, none⟩) (by simp; omega) (.slice na m nc)).setLow (x := ⟨w.heap.size, 2, none⟩) (by simp; omega) (.slice wa m wcc)
      refine ⟨na, nc, wa, wcc, by rw [← hlF.out], ?_, ((hBF.setCell (by simp) _).setCell (by simp) _).setCell (by simp) _⟩
      rw [← hlF.out]
      simpa using j2.mono (lo' := w.heap.size) (by omega) (Nat.le_refl _)
end Go.Proofs.Ytcadiepghhnbeaa
