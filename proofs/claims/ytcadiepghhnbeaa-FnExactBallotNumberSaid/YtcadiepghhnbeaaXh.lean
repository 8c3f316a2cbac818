/- Contracts: l09Counts (model). -/
import Derived.Test.YtcadiepghhnbeaaXe
import Derived.Deep.QuietTactic
namespace Go.Proofs.Ytcadiepghhnbeaa
open Go.RowKit
set_option linter.unusedVariables false
set_option linter.unusedSimpArgs false

theorem addAt_nil {p : Int} {row : List Int} (h : rngL p row) (t : Nat) : addAt p row t 0 = row := by
  unfold addAt
  have := h t
  rw [Int.add_zero, Int.emod_eq_of_lt this.1 this.2]
  refine ext_tab (by simp) (fun j hj => ?_)
  rw [getD_setI]
  split
  · rename_i e; rw [e.1]
  · rfl
/-- no sum on the way reaches p -/
theorem cnt_mid {p : Int} {A B v row : List Int} (hA : bitL A) (hB : bitL B) (hv : nnL v) (hn : nnL row) (h : Nat) (hb : totL row + 3 * v.getD h 0 < p) :
    row.getD h 0 + A.getD h 0 * v.getD h 0 < p ∧ (h ≠ 0 → (addAt p row h (A.getD h 0 * v.getD h 0)).getD (h - 1) 0 + v.getD h 0 < p) ∧
    (rndD p B v (addAt p row h (A.getD h 0 * v.getD h 0)) h).getD (h + 1) 0 + v.getD h 0 < p := by
  have hv0 := hv h
  have a1 : 0 ≤ A.getD h 0 * v.getD h 0 ∧ A.getD h 0 * v.getD h 0 ≤ v.getD h 0 := by rcases hA h with e | e <;> rw [e] <;> omega
  have b1 : 0 ≤ B.getD h 0 * v.getD h 0 ∧ B.getD h 0 * v.getD h 0 ≤ v.getD h 0 := by rcases hB h with e | e <;> rw [e] <;> omega
  obtain ⟨_, x1, x2, x3⟩ := addAt_small (p := p) hn h a1.1 (by omega)
  have d : nnL (rndD p B v (addAt p row h (A.getD h 0 * v.getD h 0)) h) ∧ totL (rndD p B v (addAt p row h (A.getD h 0 * v.getD h 0)) h) ≤ totL row + 2 * v.getD h 0 := by
    unfold rndD
    split
    · exact ⟨x1, by omega⟩
    · obtain ⟨_, y1, y2, _⟩ := addAt_small (p := p) x1 (h - 1) b1.1 (by omega)
      exact ⟨y1, by omega⟩
  have c := totL_at _ (h + 1) d.1
  have c2 := totL_at _ (h - 1) x1
  exact ⟨x3, fun _ => by omega, by omega⟩
/-- what the rounds keep: the old row, the new one -/
structure CntI (w wr : World) (g gN : Nat) (v row : List Int) : Prop where
  old : RowI wr g v
  new : RowI wr gN row
  bel : Below w.heap.size w wr
  lg : w.heap.size ≤ g
  lN : w.heap.size ≤ gN
  ne : g ≠ gN
theorem CntI.below {w wr w' : World} {g gN : Nat} {v row : List Int} (h : CntI w wr g gN v row) (t : Below wr.heap.size wr w') : CntI w w' g gN v row :=
  ⟨h.old.next t, h.new.next t, h.bel.trans (t.mono h.bel.size), h.lg, h.lN, h.ne⟩
theorem CntI.put {w wr : World} {g gN : Nat} {v row : List Int} (h : CntI w wr g gN v row) (j : Nat) (x : Int) : CntI w (wr.setCell ⟨gN, j, none⟩ (.int .i64 x)) g gN v (row.set j x) :=
  ⟨h.old.other (fun e => h.ne e.symm) _, h.new.set j x, h.bel.setCell h.lN _, h.lg, h.lN, h.ne⟩
def lvl (b : Bool) : Int := if b then 0 else 1
theorem lvl_bit (b : Bool) : lvl b = 0 ∨ lvl b = 1 := by cases b <;> simp [lvl]
set_option maxRecDepth 100000 in
set_option maxHeartbeats 12800000 in
theorem l09Counts_any (N i M : Nat) (lb : Bool) (w : World) (hN : N ≤ 24) (hi : i ≤ 1000) (hM : M ≤ 1000) :
    Calls Try.prog 92 #[.int .i64 N, .int .i64 i, .int .i64 M, .bool lb] w fun e w' => ∃ a', e = .returned (.slice a' (M + 1) (M + 1)) ∧ Own w.heap.size w' a' (M + 1) (rowP cntP (cntL (M + 1) (lvl lb)) (cntL (M + 1) 1) (M + 1) i N) ∧ Below w.heap.size w w' := by
  have q0 : (0 : Int) ≤ (i : Int) := by omega
  obtain ⟨m, hm⟩ : ∃ m, m = M + 1 := ⟨_, rfl⟩
  have vm : IntKind.i64.wrap ((M : Int) + 1) = (M : Int) + 1 := IntWalk.i64_in _ (by omega)
  have HA := hide (cntL_bit (M + 1) (lvl lb) (lvl_bit lb))
  have HB := hide (cntL_bit (M + 1) 1 (.inr rfl))
  rw [← hm] at HA HB ⊢
  have Hm := hide hm
  have HA0 := hide (fun h (hh : h < m) => show (cntL m (lvl lb)).getD h 0 = lvl lb by rw [cntL_at, if_pos hh])
  have HB0 := hide (fun h (hh : h < m) => show (cntL m 1).getD h 0 = 1 by rw [cntL_at, if_pos hh])
  obtain ⟨A, hAA⟩ : ∃ A, cntL m (lvl lb) = A := ⟨_, rfl⟩
  obtain ⟨B, hBB⟩ : ∃ B, cntL m 1 = B := ⟨_, rfl⟩
  rw [hAA] at HA HA0 ⊢
  rw [hBB] at HB HB0 ⊢
  have hmM2 : M < m := by omega
  have hm1 : m ≤ 1001 := by omega
  clear hm hAA hBB
  go_enter Try.func92, Try.ntmps92
  go_upto_if 17 with (at_make; refine wp_make rfl _ _ rfl _ _ m rfl rfl (by have := Hm.out; omega) (by have := Hm.out; omega) (by omega) ?_; intro w1 hrow hB1 hsz; have hrow2 := hide hrow.out)
  go_cut [] (fun wx => Hid (RowI wx w.heap.size (rowP cntP A B m i 0)) ∧ Hid (Below w.heap.size w wx) ∧ w.heap.size < wx.heap.size)
  case first =>
    by_cases him : i < m
    · have him' : (i : Int) < (m : Int) := by omega
      have him2 : (i : Int) ≤ (M : Int) := by have := Hm.out; omega
      have e1 := hrow2.out.cell i (by rw [List.length_replicate]; exact him)
      rw [zeroD] at e1
      have fr := hrow2.out.free i
      have Z1 := hide (show RowI (w1.setCell ⟨w.heap.size, i, none⟩ (.int .i64 1)) w.heap.size (rowP cntP A B m i 0) from hrow2.out.set i 1)
      have Z3 := hide (hB1.setCell (p := ⟨w.heap.size, i, none⟩) (Nat.le_refl _) (.int .i64 1))
      have Z4 : w.heap.size < (w1.setCell ⟨w.heap.size, i, none⟩ (.int .i64 1)).heap.size := by simpa using hsz
      go_wp2
      go_meet
      exact ⟨Z1, Z3, Z4⟩
    · have him2 : ¬ (i : Int) ≤ (M : Int) := by have := Hm.out; omega
      have Z1 := hide (show RowI w1 w.heap.size (rowP cntP A B m i 0) from by
        rw [rowP, List.set_eq_of_length_le (by simp; omega)]
        exact hrow2.out)
      have Z3 := hide hB1
      go_wp2
      go_meet
      exact ⟨Z1, Z3, hsz⟩
  case rest =>
    obtain ⟨Z1, Z3, Z4⟩ := hcut
    obtain ⟨wy, hwy⟩ : ∃ w6, w6 = wc := ⟨wc, rfl⟩
    subst hwy
    clear hrow2 hrow hsz hB1
    go_wp2_with fail
    go_loopw [0, 9] (fun nv ov wr => ∃ (t g : Nat), t ≤ N ∧ nv = .int .i64 ((N - t : Nat) : Int) ∧ ov = .slice (some ⟨g, 0, none⟩) m m ∧ Hid (RowI wr g (rowP cntP A B m i t)) ∧ Hid (Below w.heap.size w wr) ∧ w.heap.size ≤ g ∧ w.heap.size < wr.heap.size) (fun nv _ _ => (intOf nv).toNat)
    case atStart => exact ⟨0, w.heap.size, by omega, rfl, rfl, Z1, Z3, by omega, by omega⟩
    case round =>
      obtain ⟨t, g, ht, rfl, rfl, hR, hW, hg, hz⟩ := hrel
      clear Z1 Z3 Z4
      by_cases hlt : t < N
      · have hpos : (0 : Int) < ((N - t : Nat) : Int) := by omega
        have hne : ¬ N - t = 0 := by omega
        have Hgl := hide hR.out.lt
        go_upto_region 7 with (at_make; refine wp_make rfl _ _ rfl _ _ m rfl rfl (by have := Hm.out; omega) (by have := Hm.out; omega) (by omega) ?_; intro w2 hrow hb hsz)
        have hI : CntI w w2 g wr.heap.size (rowP cntP A B m i t) (rndsP cntP A B (rowP cntP A B m i t) 0) :=
          ⟨hR.out.next hb, by have := hrow.out; rwa [rndsP, rowP_len], hW.out.trans (hb.mono hW.out.size), hg, by omega, by have := Hgl.out; omega⟩
        have HI := hide hI
        obtain ⟨gN, hgN⟩ : ∃ gN, gN = wr.heap.size := ⟨_, rfl⟩
        rw [← hgN] at HI ⊢
        have hz2 : w.heap.size < w2.heap.size := by omega
        have Hvl := hide (rowP_len cntP A B m i t)
        have Hvs := hide (row_small (p := cntP) HA.out HB.out m i (by decide) t (by omega))
        have Hvr := hide (rowP_rng (p := cntP) (by decide) A B m i t)
        have HNx := hide (show rowP cntP A B m i (t + 1) = rndsP cntP A B (rowP cntP A B m i t) m by rw [rowP, sprP, rowP_len])
        have Htt := hide (show 3 * totL (rowP cntP A B m i t) < cntP by
          have h3 : (3 : Int) ^ t ≤ 3 ^ 23 := by
            have : (3 : Nat) ^ t ≤ 3 ^ 23 := Nat.pow_le_pow_right (by omega) (by omega)
            exact_mod_cast this
          have h4 : (3 : Int) ^ 23 = 94143178827 := by decide
          have := Hvs.out.2
          show 3 * totL (rowP cntP A B m i t) < 1099511627776
          omega)
        obtain ⟨v, hv⟩ : ∃ v, rowP cntP A B m i t = v := ⟨_, rfl⟩
        rw [hv] at HI Hvl Hvr HNx Hvs Htt
        clear hI hrow hb hsz hR hW Hgl hv hgN
        go_wp2_with fail
        go_loopw [11] (fun hv wx => ∃ h : Nat, h ≤ m ∧ hv = .int .i64 h ∧ Hid (CntI w wx g gN v (rndsP cntP A B v h)) ∧ w.heap.size < wx.heap.size) (fun hv _ => m - (intOf hv).toNat)
        case atStart => exact ⟨0, by omega, rfl, HI, hz2⟩
        case round =>
          obtain ⟨h, hh, rfl, HIx, hzx⟩ := hrel
          clear HI hz2
          by_cases hhm : h < m
          · have hhm' : (h : Int) < (m : Int) := by omega
            have hhM : (h : Int) ≤ (M : Int) := by have := Hm.out; omega
            have hh0 : (0 : Int) ≤ (h : Int) := by omega
            have rX := Hvr.out h
            have Hsm := hide (rnds_small (p := cntP) HA.out HB.out Hvs.out.1 Htt.out h (by rw [Hvl.out]; exact hh))
            have Hbd := hide (show totL (rndsP cntP A B v h) + 3 * v.getD h 0 < cntP by
              have q := totN_le Hvs.out.1 (h + 1) v.length (by rw [Hvl.out]; exact hhm)
              rw [totN_all, totN] at q
              have := Hsm.out.2
              have := Htt.out
              omega)
            have Hmid := hide (cnt_mid (p := cntP) HA.out HB.out Hvs.out.1 Hsm.out.1 h Hbd.out)
            have Hrr := hide (rndsP_rng (p := cntP) (by decide) A B v h)
            have Hrl := hide (show (rndsP cntP A B v h).length = m by rw [rndsP_len, Hvl.out])
            have HNr := hide (show rndsP cntP A B v (h + 1) = addAt cntP (rndD cntP B v (addAt cntP (rndsP cntP A B v h) h (A.getD h 0 * v.getD h 0)) h) (h + 1) (v.getD h 0) by rw [rndsP, rndP_LDU])
            obtain ⟨row, hrow⟩ : ∃ row, rndsP cntP A B v h = row := ⟨_, rfl⟩
            rw [hrow] at HIx Hrr Hrl HNr Hmid
            have HD0 := hide (fun (e : h = 0) (r : List Int) => show rndD cntP B v r h = r by unfold rndD; rw [if_pos e])
            have HD1 := hide (fun (e : h ≠ 0) (r : List Int) => show rndD cntP B v r h = addAt cntP r (h - 1) (v.getD h 0) by unfold rndD; rw [if_neg e, HB0.out h hhm, Int.one_mul])
            rw [HA0.out h hhm] at HNr Hmid
            obtain ⟨X, hX⟩ : ∃ X, v.getD h 0 = X := ⟨_, rfl⟩
            rw [hX] at rX HNr Hmid HD1
            have HX := hide hX
            clear hX hrow Hsm Hbd
            by_cases hd : h = 0
            · have Hd := hide hd
              clear hd
              by_cases hu : h + 1 < m
              · cases lb
                · have HN2 := hide (show rndsP cntP A B v (h + 1) = addAt cntP (rndD cntP B v (addAt cntP row h X) h) (h + 1) X by have q := HNr.out; rwa [show lvl false = 1 from rfl, Int.one_mul] at q)
                  have Hm2 := hide (show row.getD h 0 + X < cntP ∧ (h ≠ 0 → (addAt cntP row h X).getD (h - 1) 0 + X < cntP) ∧ (rndD cntP B v (addAt cntP row h X) h).getD (h + 1) 0 + X < cntP by have q := Hmid.out; rwa [show lvl false = 1 from rfl, Int.one_mul] at q)
                  clear Hmid HNr
                  have zc := HIx.out.new.cell h (by rw [Hrl.out]; omega)
                  have yc := HIx.out.new.free h
                  have rc := Hrr.out h
                  have bc : (row).getD h 0 + X < cntP := Hm2.out.1
                  obtain ⟨R, hR⟩ : ∃ R, (row).getD h 0 = R := ⟨_, rfl⟩
                  rw [hR] at zc rc bc
                  have HR := hide hR
                  have xc := HIx.out.old.cell h (by rw [Hvl.out]; exact hhm)
                  rw [HX.out] at xc
                  have w1 : IntKind.i64.wrap (R + X) = R + X := IntWalk.i64_in _ (by unfold cntP at bc; omega)
                  have hbd := (Below.refl wr.heap.size wr).drew
                  have w3 := hide (show (R + X) % cntP = R + X from Int.emod_eq_of_lt (by omega) bc)
                  clear hR bc
                  go_upto_region 11 with fail
                  refine region_E (fun w' => w'.cell? ⟨gN, h, none⟩ = some (.int .i64 R) ∧ w'.cell? ⟨g, h, none⟩ = some (.int .i64 X)) 12 (by kernel_rfl) ⟨cell_be hbd zc, cell_be hbd xc⟩ ?_
                  intro hS
                  refine anyE_takeL 0 rfl (by kernel_rfl) (fun _ _ _ h => h) hS (by rfl) (v := ?_) ?_ ?_
                  rotate_left
                  · intro w' hSw; (try dsimp only at hSw); go_simp; (try with_reducible rfl)
                  try simp only [Act.put, List.setIfInBounds_toArray, List.set_cons_zero, List.set_cons_succ]
                  refine anyE_takeL 1 rfl (by kernel_rfl) (fun _ _ _ h => h) hS (by rfl) (v := ?_) ?_ ?_
                  rotate_left
                  · intro w' hSw; (try dsimp only at hSw); go_simp; (try with_reducible rfl)
                  try simp only [Act.put, List.setIfInBounds_toArray, List.set_cons_zero, List.set_cons_succ]
                  refine anyE_takeL 2 rfl (by kernel_rfl) (fun _ _ _ h => h) hS (by rfl) (v := ?_) ?_ ?_
                  rotate_left
                  · intro w' hSw; (try dsimp only at hSw); go_simp; (try with_reducible rfl)
                  try simp only [Act.put, List.setIfInBounds_toArray, List.set_cons_zero, List.set_cons_succ]
                  refine anyE_takeL 3 rfl (by kernel_rfl) (fun _ _ _ h => h) hS (by rfl) (v := ?_) ?_ ?_
                  rotate_left
                  · intro w' hSw; (try dsimp only at hSw); go_simp; (try with_reducible rfl)
                  try simp only [Act.put, List.setIfInBounds_toArray, List.set_cons_zero, List.set_cons_succ]
                  refine anyE_takeL 4 rfl (by kernel_rfl) (fun _ _ _ h => h) hS (by rfl) (v := ?_) ?_ ?_
                  rotate_left
                  · intro w' hSw; (try dsimp only at hSw); go_simp; (try with_reducible rfl)
                  try simp only [Act.put, List.setIfInBounds_toArray, List.set_cons_zero, List.set_cons_succ]
                  refine anyE_takeL 5 rfl (by kernel_rfl) (fun _ _ _ h => h) hS (by rfl) (v := ?_) ?_ ?_
                  rotate_left
                  · intro w' hSw; (try dsimp only at hSw); go_simp; (try with_reducible rfl)
                  try simp only [Act.put, List.setIfInBounds_toArray, List.set_cons_zero, List.set_cons_succ]
                  refine anyE_takeL 6 rfl (by kernel_rfl) (fun _ _ _ h => h) hS (by rfl) (v := ?_) ?_ ?_
                  rotate_left
                  · intro w' hSw; (try dsimp only at hSw); go_simp; (try with_reducible rfl)
                  try simp only [Act.put, List.setIfInBounds_toArray, List.set_cons_zero, List.set_cons_succ]
                  refine anyE_takeL 7 rfl (by kernel_rfl) (fun _ _ _ h => h) hS (by rfl) (v := ?_) ?_ ?_
                  rotate_left
                  · intro w' hSw; (try dsimp only at hSw); go_simp; (try with_reducible rfl)
                  try simp only [Act.put, List.setIfInBounds_toArray, List.set_cons_zero, List.set_cons_succ]
                  refine anyE_takeL 8 rfl (by kernel_rfl) (fun _ _ _ h => h) hS (by rfl) (v := ?_) ?_ ?_
                  rotate_left
                  · intro w' hSw; (try dsimp only at hSw); go_simp; (try with_reducible rfl)
                  try simp only [Act.put, List.setIfInBounds_toArray, List.set_cons_zero, List.set_cons_succ]
                  refine anyE_takeL 9 rfl (by kernel_rfl) (fun _ _ _ h => h) hS (by rfl) (v := ?_) ?_ ?_
                  rotate_left
                  · intro w' hSw; (try dsimp only at hSw); go_simp; (try with_reducible rfl)
                  try simp only [Act.put, List.setIfInBounds_toArray, List.set_cons_zero, List.set_cons_succ]
                  refine anyE_takeL 10 rfl (by kernel_rfl) (fun _ _ _ h => h) hS (by rfl) (v := ?_) ?_ ?_
                  rotate_left
                  · intro w' hSw; (try dsimp only at hSw); go_simp; (try with_reducible rfl)
                  try simp only [Act.put, List.setIfInBounds_toArray, List.set_cons_zero, List.set_cons_succ]
                  refine anyE_takeL 11 rfl (by kernel_rfl) (fun _ _ _ h => h) hS (by rfl) (v := ?_) ?_ ?_
                  rotate_left
                  · intro w' hSw; (try dsimp only at hSw); go_simp; (try with_reducible rfl)
                  try simp only [Act.put, List.setIfInBounds_toArray, List.set_cons_zero, List.set_cons_succ]
                  replace yc := fr_be hbd zc yc
                  replace zc := cell_be hbd zc
                  have HIn := (HIx.out.put h (R + X)).below (Below.refl _ _).drew
                  rw [show (row).set h (R + X) = addAt cntP row h X from by rw [← w3.out]; exact ad_at cntP _ _ _ R HR.out] at HIn
                  have HIm := hide HIn
                  have hzd : w.heap.size < (wr.setCell ⟨gN, h, none⟩ (.int .i64 (R + X))).drew.heap.size := by simp; omega
                  refine anyE_lastL (by kernel_rfl) rfl (by kernel_rfl) (fun K' hK' => ?_)
                  go_simp
                  refine hK'.out _ _ ?_
                  clear hK' K' hS HIn zc yc rc xc w1 w3 hbd HIx HR
                  try simp only [Act.put, List.setIfInBounds_toArray, List.set_cons_zero, List.set_cons_succ]
                  obtain ⟨wa, hwn⟩ : ∃ wn, wn = (wr.setCell ⟨gN, h, none⟩ (.int .i64 (R + X))).drew := ⟨_, rfl⟩
                  rw [← hwn] at HIm hzd ⊢
                  have HIx := HIm
                  replace Hrr := hide (rngL_add (p := cntP) (by decide) Hrr.out h X)
                  replace Hrl := hide (show (addAt cntP row h X).length = m by rw [addAt_len, Hrl.out])
                  clear HIm hwn hzx
                  have hzx := hzd
                  clear hzd
                  have d1 : ¬ (0 : Int) < (h : Int) := by have := Hd.out; omega
                  rw [HD0.out Hd.out] at HN2 Hm2
                  have u1 : IntKind.i64.wrap ((h : Int) + 1) = (h : Int) + 1 := IntWalk.i64_in _ (by omega)
                  have u2 : (h : Int) < (M : Int) := by have := Hm.out; omega
                  have u3 : (0 : Int) ≤ (h : Int) + 1 := by omega
                  have u4 : ((h : Int) + 1).toNat = h + 1 := by omega
                  have u5 : (h : Int) + 1 < (m : Int) := by omega
                  have zc := HIx.out.new.cell (h + 1) (by rw [Hrl.out]; omega)
                  have yc := HIx.out.new.free (h + 1)
                  have rc := Hrr.out (h + 1)
                  have bc : (addAt cntP row h X).getD (h + 1) 0 + X < cntP := Hm2.out.2.2
                  obtain ⟨R, hR⟩ : ∃ R, (addAt cntP row h X).getD (h + 1) 0 = R := ⟨_, rfl⟩
                  rw [hR] at zc rc bc
                  have HR := hide hR
                  have xc := HIx.out.old.cell h (by rw [Hvl.out]; exact hhm)
                  rw [HX.out] at xc
                  have w1 : IntKind.i64.wrap (R + X) = R + X := IntWalk.i64_in _ (by unfold cntP at bc; omega)
                  have hbd := (Below.refl wa.heap.size wa).drew
                  have w3 := hide (show (R + X) % cntP = R + X from Int.emod_eq_of_lt (by omega) bc)
                  clear hR bc
                  go_upto_region 15 with fail
                  refine region_E (fun w' => w'.cell? ⟨gN, (h + 1), none⟩ = some (.int .i64 R) ∧ w'.cell? ⟨g, h, none⟩ = some (.int .i64 X)) 14 (by kernel_rfl) ⟨cell_be hbd zc, cell_be hbd xc⟩ ?_
                  intro hS
                  refine anyE_takeL 0 rfl (by kernel_rfl) (fun _ _ _ h => h) hS (by rfl) (v := ?_) ?_ ?_
                  rotate_left
                  · intro w' hSw; (try dsimp only at hSw); go_simp; (try with_reducible rfl)
                  try simp only [Act.put, List.setIfInBounds_toArray, List.set_cons_zero, List.set_cons_succ]
                  refine anyE_takeL 1 rfl (by kernel_rfl) (fun _ _ _ h => h) hS (by rfl) (v := ?_) ?_ ?_
                  rotate_left
                  · intro w' hSw; (try dsimp only at hSw); go_simp; (try with_reducible rfl)
                  try simp only [Act.put, List.setIfInBounds_toArray, List.set_cons_zero, List.set_cons_succ]
                  refine anyE_takeL 2 rfl (by kernel_rfl) (fun _ _ _ h => h) hS (by rfl) (v := ?_) ?_ ?_
                  rotate_left
                  · intro w' hSw; (try dsimp only at hSw); go_simp; (try with_reducible rfl)
                  try simp only [Act.put, List.setIfInBounds_toArray, List.set_cons_zero, List.set_cons_succ]
                  refine anyE_takeL 3 rfl (by kernel_rfl) (fun _ _ _ h => h) hS (by rfl) (v := ?_) ?_ ?_
                  rotate_left
                  · intro w' hSw; (try dsimp only at hSw); go_simp; (try with_reducible rfl)
                  try simp only [Act.put, List.setIfInBounds_toArray, List.set_cons_zero, List.set_cons_succ]
                  refine anyE_takeL 4 rfl (by kernel_rfl) (fun _ _ _ h => h) hS (by rfl) (v := ?_) ?_ ?_
                  rotate_left
                  · intro w' hSw; (try dsimp only at hSw); go_simp; (try with_reducible rfl)
                  try simp only [Act.put, List.setIfInBounds_toArray, List.set_cons_zero, List.set_cons_succ]
                  refine anyE_takeL 5 rfl (by kernel_rfl) (fun _ _ _ h => h) hS (by rfl) (v := ?_) ?_ ?_
                  rotate_left
                  · intro w' hSw; (try dsimp only at hSw); go_simp; (try with_reducible rfl)
                  try simp only [Act.put, List.setIfInBounds_toArray, List.set_cons_zero, List.set_cons_succ]
                  refine anyE_takeL 6 rfl (by kernel_rfl) (fun _ _ _ h => h) hS (by rfl) (v := ?_) ?_ ?_
                  rotate_left
                  · intro w' hSw; (try dsimp only at hSw); go_simp; (try with_reducible rfl)
                  try simp only [Act.put, List.setIfInBounds_toArray, List.set_cons_zero, List.set_cons_succ]
                  refine anyE_takeL 7 rfl (by kernel_rfl) (fun _ _ _ h => h) hS (by rfl) (v := ?_) ?_ ?_
                  rotate_left
                  · intro w' hSw; (try dsimp only at hSw); go_simp; (try with_reducible rfl)
                  try simp only [Act.put, List.setIfInBounds_toArray, List.set_cons_zero, List.set_cons_succ]
                  refine anyE_takeL 8 rfl (by kernel_rfl) (fun _ _ _ h => h) hS (by rfl) (v := ?_) ?_ ?_
                  rotate_left
                  · intro w' hSw; (try dsimp only at hSw); go_simp; (try with_reducible rfl)
                  try simp only [Act.put, List.setIfInBounds_toArray, List.set_cons_zero, List.set_cons_succ]
                  refine anyE_takeL 9 rfl (by kernel_rfl) (fun _ _ _ h => h) hS (by rfl) (v := ?_) ?_ ?_
                  rotate_left
                  · intro w' hSw; (try dsimp only at hSw); go_simp; (try with_reducible rfl)
                  try simp only [Act.put, List.setIfInBounds_toArray, List.set_cons_zero, List.set_cons_succ]
                  refine anyE_takeL 10 rfl (by kernel_rfl) (fun _ _ _ h => h) hS (by rfl) (v := ?_) ?_ ?_
                  rotate_left
                  · intro w' hSw; (try dsimp only at hSw); go_simp; (try with_reducible rfl)
                  try simp only [Act.put, List.setIfInBounds_toArray, List.set_cons_zero, List.set_cons_succ]
                  refine anyE_takeL 11 rfl (by kernel_rfl) (fun _ _ _ h => h) hS (by rfl) (v := ?_) ?_ ?_
                  rotate_left
                  · intro w' hSw; (try dsimp only at hSw); go_simp; (try with_reducible rfl)
                  try simp only [Act.put, List.setIfInBounds_toArray, List.set_cons_zero, List.set_cons_succ]
                  refine anyE_takeL 12 rfl (by kernel_rfl) (fun _ _ _ h => h) hS (by rfl) (v := ?_) ?_ ?_
                  rotate_left
                  · intro w' hSw; (try dsimp only at hSw); go_simp; (try with_reducible rfl)
                  try simp only [Act.put, List.setIfInBounds_toArray, List.set_cons_zero, List.set_cons_succ]
                  refine anyE_takeL 13 rfl (by kernel_rfl) (fun _ _ _ h => h) hS (by rfl) (v := ?_) ?_ ?_
                  rotate_left
                  · intro w' hSw; (try dsimp only at hSw); go_simp; (try with_reducible rfl)
                  try simp only [Act.put, List.setIfInBounds_toArray, List.set_cons_zero, List.set_cons_succ]
                  replace yc := fr_be hbd zc yc
                  replace zc := cell_be hbd zc
                  have HIn := (HIx.out.put (h + 1) (R + X)).below (Below.refl _ _).drew
                  rw [show (addAt cntP row h X).set (h + 1) (R + X) = addAt cntP (addAt cntP row h X) (h + 1) X from by rw [← w3.out]; exact ad_at cntP _ _ _ R HR.out] at HIn
                  have HIm := hide HIn
                  have hzd : w.heap.size < (wa.setCell ⟨gN, (h + 1), none⟩ (.int .i64 (R + X))).drew.heap.size := by simp; omega
                  refine anyE_lastL (by kernel_rfl) rfl (by kernel_rfl) (fun K' hK' => ?_)
                  go_simp
                  refine hK'.out _ _ ?_
                  clear hK' K' hS HIn zc yc rc xc w1 w3 hbd HIx HR
                  try simp only [Act.put, List.setIfInBounds_toArray, List.set_cons_zero, List.set_cons_succ]
                  obtain ⟨wd, hwn⟩ : ∃ wn, wn = (wa.setCell ⟨gN, (h + 1), none⟩ (.int .i64 (R + X))).drew := ⟨_, rfl⟩
                  rw [← hwn] at HIm hzd ⊢
                  have HIx := HIm
                  replace Hrr := hide (rngL_add (p := cntP) (by decide) Hrr.out (h + 1) X)
                  replace Hrl := hide (show (addAt cntP (addAt cntP row h X) (h + 1) X).length = m by rw [addAt_len, Hrl.out])
                  clear HIm hwn hzx
                  have hzx := hzd
                  clear hzd
                  clear u2 u3 u4 u5
                  have HIz := hide (show CntI w wd g gN v (rndsP cntP A B v (h + 1)) by
                    rw [HN2.out]
                    exact HIx.out)
                  clear HIx Hrr Hrl HN2 Hm2
                  go_wp2
                  go_roundw
                  case rel => exact ⟨h + 1, by omega, by go_num, HIz, hzx⟩
                  case measure => simp [intOf]; omega
                · have HN2 := hide (show rndsP cntP A B v (h + 1) = addAt cntP (rndD cntP B v row h) (h + 1) X by have q := HNr.out; rwa [show lvl true = 0 from rfl, Int.zero_mul, addAt_nil Hrr.out] at q)
                  have Hm2 := hide (show row.getD h 0 + 0 * X < cntP ∧ (h ≠ 0 → row.getD (h - 1) 0 + X < cntP) ∧ (rndD cntP B v row h).getD (h + 1) 0 + X < cntP by have q := Hmid.out; rwa [show lvl true = 0 from rfl, show addAt cntP row h (0 * X) = row by rw [Int.zero_mul]; exact addAt_nil Hrr.out h] at q)
                  clear Hmid HNr
                  have d1 : ¬ (0 : Int) < (h : Int) := by have := Hd.out; omega
                  rw [HD0.out Hd.out] at HN2 Hm2
                  have u1 : IntKind.i64.wrap ((h : Int) + 1) = (h : Int) + 1 := IntWalk.i64_in _ (by omega)
                  have u2 : (h : Int) < (M : Int) := by have := Hm.out; omega
                  have u3 : (0 : Int) ≤ (h : Int) + 1 := by omega
                  have u4 : ((h : Int) + 1).toNat = h + 1 := by omega
                  have u5 : (h : Int) + 1 < (m : Int) := by omega
                  have zc := HIx.out.new.cell (h + 1) (by rw [Hrl.out]; omega)
                  have yc := HIx.out.new.free (h + 1)
                  have rc := Hrr.out (h + 1)
                  have bc : (row).getD (h + 1) 0 + X < cntP := Hm2.out.2.2
                  obtain ⟨R, hR⟩ : ∃ R, (row).getD (h + 1) 0 = R := ⟨_, rfl⟩
                  rw [hR] at zc rc bc
                  have HR := hide hR
                  have xc := HIx.out.old.cell h (by rw [Hvl.out]; exact hhm)
                  rw [HX.out] at xc
                  have w1 : IntKind.i64.wrap (R + X) = R + X := IntWalk.i64_in _ (by unfold cntP at bc; omega)
                  have hbd := (Below.refl wr.heap.size wr).drew
                  have w3 := hide (show (R + X) % cntP = R + X from Int.emod_eq_of_lt (by omega) bc)
                  clear hR bc
                  go_upto_region 15 with fail
                  refine region_E (fun w' => w'.cell? ⟨gN, (h + 1), none⟩ = some (.int .i64 R) ∧ w'.cell? ⟨g, h, none⟩ = some (.int .i64 X)) 14 (by kernel_rfl) ⟨cell_be hbd zc, cell_be hbd xc⟩ ?_
                  intro hS
                  refine anyE_takeL 0 rfl (by kernel_rfl) (fun _ _ _ h => h) hS (by rfl) (v := ?_) ?_ ?_
                  rotate_left
                  · intro w' hSw; (try dsimp only at hSw); go_simp; (try with_reducible rfl)
                  try simp only [Act.put, List.setIfInBounds_toArray, List.set_cons_zero, List.set_cons_succ]
                  refine anyE_takeL 1 rfl (by kernel_rfl) (fun _ _ _ h => h) hS (by rfl) (v := ?_) ?_ ?_
                  rotate_left
                  · intro w' hSw; (try dsimp only at hSw); go_simp; (try with_reducible rfl)
                  try simp only [Act.put, List.setIfInBounds_toArray, List.set_cons_zero, List.set_cons_succ]
                  refine anyE_takeL 2 rfl (by kernel_rfl) (fun _ _ _ h => h) hS (by rfl) (v := ?_) ?_ ?_
                  rotate_left
                  · intro w' hSw; (try dsimp only at hSw); go_simp; (try with_reducible rfl)
                  try simp only [Act.put, List.setIfInBounds_toArray, List.set_cons_zero, List.set_cons_succ]
                  refine anyE_takeL 3 rfl (by kernel_rfl) (fun _ _ _ h => h) hS (by rfl) (v := ?_) ?_ ?_
                  rotate_left
                  · intro w' hSw; (try dsimp only at hSw); go_simp; (try with_reducible rfl)
                  try simp only [Act.put, List.setIfInBounds_toArray, List.set_cons_zero, List.set_cons_succ]
                  refine anyE_takeL 4 rfl (by kernel_rfl) (fun _ _ _ h => h) hS (by rfl) (v := ?_) ?_ ?_
                  rotate_left
                  · intro w' hSw; (try dsimp only at hSw); go_simp; (try with_reducible rfl)
                  try simp only [Act.put, List.setIfInBounds_toArray, List.set_cons_zero, List.set_cons_succ]
                  refine anyE_takeL 5 rfl (by kernel_rfl) (fun _ _ _ h => h) hS (by rfl) (v := ?_) ?_ ?_
                  rotate_left
                  · intro w' hSw; (try dsimp only at hSw); go_simp; (try with_reducible rfl)
                  try simp only [Act.put, List.setIfInBounds_toArray, List.set_cons_zero, List.set_cons_succ]
                  refine anyE_takeL 6 rfl (by kernel_rfl) (fun _ _ _ h => h) hS (by rfl) (v := ?_) ?_ ?_
                  rotate_left
                  · intro w' hSw; (try dsimp only at hSw); go_simp; (try with_reducible rfl)
                  try simp only [Act.put, List.setIfInBounds_toArray, List.set_cons_zero, List.set_cons_succ]
                  refine anyE_takeL 7 rfl (by kernel_rfl) (fun _ _ _ h => h) hS (by rfl) (v := ?_) ?_ ?_
                  rotate_left
                  · intro w' hSw; (try dsimp only at hSw); go_simp; (try with_reducible rfl)
                  try simp only [Act.put, List.setIfInBounds_toArray, List.set_cons_zero, List.set_cons_succ]
                  refine anyE_takeL 8 rfl (by kernel_rfl) (fun _ _ _ h => h) hS (by rfl) (v := ?_) ?_ ?_
                  rotate_left
                  · intro w' hSw; (try dsimp only at hSw); go_simp; (try with_reducible rfl)
                  try simp only [Act.put, List.setIfInBounds_toArray, List.set_cons_zero, List.set_cons_succ]
                  refine anyE_takeL 9 rfl (by kernel_rfl) (fun _ _ _ h => h) hS (by rfl) (v := ?_) ?_ ?_
                  rotate_left
                  · intro w' hSw; (try dsimp only at hSw); go_simp; (try with_reducible rfl)
                  try simp only [Act.put, List.setIfInBounds_toArray, List.set_cons_zero, List.set_cons_succ]
                  refine anyE_takeL 10 rfl (by kernel_rfl) (fun _ _ _ h => h) hS (by rfl) (v := ?_) ?_ ?_
                  rotate_left
                  · intro w' hSw; (try dsimp only at hSw); go_simp; (try with_reducible rfl)
                  try simp only [Act.put, List.setIfInBounds_toArray, List.set_cons_zero, List.set_cons_succ]
                  refine anyE_takeL 11 rfl (by kernel_rfl) (fun _ _ _ h => h) hS (by rfl) (v := ?_) ?_ ?_
                  rotate_left
                  · intro w' hSw; (try dsimp only at hSw); go_simp; (try with_reducible rfl)
                  try simp only [Act.put, List.setIfInBounds_toArray, List.set_cons_zero, List.set_cons_succ]
                  refine anyE_takeL 12 rfl (by kernel_rfl) (fun _ _ _ h => h) hS (by rfl) (v := ?_) ?_ ?_
                  rotate_left
                  · intro w' hSw; (try dsimp only at hSw); go_simp; (try with_reducible rfl)
                  try simp only [Act.put, List.setIfInBounds_toArray, List.set_cons_zero, List.set_cons_succ]
                  refine anyE_takeL 13 rfl (by kernel_rfl) (fun _ _ _ h => h) hS (by rfl) (v := ?_) ?_ ?_
                  rotate_left
                  · intro w' hSw; (try dsimp only at hSw); go_simp; (try with_reducible rfl)
                  try simp only [Act.put, List.setIfInBounds_toArray, List.set_cons_zero, List.set_cons_succ]
                  replace yc := fr_be hbd zc yc
                  replace zc := cell_be hbd zc
                  have HIn := (HIx.out.put (h + 1) (R + X)).below (Below.refl _ _).drew
                  rw [show (row).set (h + 1) (R + X) = addAt cntP (row) (h + 1) X from by rw [← w3.out]; exact ad_at cntP _ _ _ R HR.out] at HIn
                  have HIm := hide HIn
                  have hzd : w.heap.size < (wr.setCell ⟨gN, (h + 1), none⟩ (.int .i64 (R + X))).drew.heap.size := by simp; omega
                  refine anyE_lastL (by kernel_rfl) rfl (by kernel_rfl) (fun K' hK' => ?_)
                  go_simp
                  refine hK'.out _ _ ?_
                  clear hK' K' hS HIn zc yc rc xc w1 w3 hbd HIx HR
                  try simp only [Act.put, List.setIfInBounds_toArray, List.set_cons_zero, List.set_cons_succ]
                  obtain ⟨wd, hwn⟩ : ∃ wn, wn = (wr.setCell ⟨gN, (h + 1), none⟩ (.int .i64 (R + X))).drew := ⟨_, rfl⟩
                  rw [← hwn] at HIm hzd ⊢
                  have HIx := HIm
                  replace Hrr := hide (rngL_add (p := cntP) (by decide) Hrr.out (h + 1) X)
                  replace Hrl := hide (show (addAt cntP (row) (h + 1) X).length = m by rw [addAt_len, Hrl.out])
                  clear HIm hwn hzx
                  have hzx := hzd
                  clear hzd
                  clear u2 u3 u4 u5
                  have HIz := hide (show CntI w wd g gN v (rndsP cntP A B v (h + 1)) by
                    rw [HN2.out]
                    exact HIx.out)
                  clear HIx Hrr Hrl HN2 Hm2
                  go_wp2
                  go_roundw
                  case rel => exact ⟨h + 1, by omega, by go_num, HIz, hzx⟩
                  case measure => simp [intOf]; omega
              · cases lb
                · have HN2 := hide (show rndsP cntP A B v (h + 1) = addAt cntP (rndD cntP B v (addAt cntP row h X) h) (h + 1) X by have q := HNr.out; rwa [show lvl false = 1 from rfl, Int.one_mul] at q)
                  have Hm2 := hide (show row.getD h 0 + X < cntP ∧ (h ≠ 0 → (addAt cntP row h X).getD (h - 1) 0 + X < cntP) ∧ (rndD cntP B v (addAt cntP row h X) h).getD (h + 1) 0 + X < cntP by have q := Hmid.out; rwa [show lvl false = 1 from rfl, Int.one_mul] at q)
                  clear Hmid HNr
                  have zc := HIx.out.new.cell h (by rw [Hrl.out]; omega)
                  have yc := HIx.out.new.free h
                  have rc := Hrr.out h
                  have bc : (row).getD h 0 + X < cntP := Hm2.out.1
                  obtain ⟨R, hR⟩ : ∃ R, (row).getD h 0 = R := ⟨_, rfl⟩
                  rw [hR] at zc rc bc
                  have HR := hide hR
                  have xc := HIx.out.old.cell h (by rw [Hvl.out]; exact hhm)
                  rw [HX.out] at xc
                  have w1 : IntKind.i64.wrap (R + X) = R + X := IntWalk.i64_in _ (by unfold cntP at bc; omega)
                  have hbd := (Below.refl wr.heap.size wr).drew
                  have w3 := hide (show (R + X) % cntP = R + X from Int.emod_eq_of_lt (by omega) bc)
                  clear hR bc
                  go_upto_region 11 with fail
                  refine region_E (fun w' => w'.cell? ⟨gN, h, none⟩ = some (.int .i64 R) ∧ w'.cell? ⟨g, h, none⟩ = some (.int .i64 X)) 12 (by kernel_rfl) ⟨cell_be hbd zc, cell_be hbd xc⟩ ?_
                  intro hS
                  refine anyE_takeL 0 rfl (by kernel_rfl) (fun _ _ _ h => h) hS (by rfl) (v := ?_) ?_ ?_
                  rotate_left
                  · intro w' hSw; (try dsimp only at hSw); go_simp; (try with_reducible rfl)
                  try simp only [Act.put, List.setIfInBounds_toArray, List.set_cons_zero, List.set_cons_succ]
                  refine anyE_takeL 1 rfl (by kernel_rfl) (fun _ _ _ h => h) hS (by rfl) (v := ?_) ?_ ?_
                  rotate_left
                  · intro w' hSw; (try dsimp only at hSw); go_simp; (try with_reducible rfl)
                  try simp only [Act.put, List.setIfInBounds_toArray, List.set_cons_zero, List.set_cons_succ]
                  refine anyE_takeL 2 rfl (by kernel_rfl) (fun _ _ _ h => h) hS (by rfl) (v := ?_) ?_ ?_
                  rotate_left
                  · intro w' hSw; (try dsimp only at hSw); go_simp; (try with_reducible rfl)
                  try simp only [Act.put, List.setIfInBounds_toArray, List.set_cons_zero, List.set_cons_succ]
                  refine anyE_takeL 3 rfl (by kernel_rfl) (fun _ _ _ h => h) hS (by rfl) (v := ?_) ?_ ?_
                  rotate_left
                  · intro w' hSw; (try dsimp only at hSw); go_simp; (try with_reducible rfl)
                  try simp only [Act.put, List.setIfInBounds_toArray, List.set_cons_zero, List.set_cons_succ]
                  refine anyE_takeL 4 rfl (by kernel_rfl) (fun _ _ _ h => h) hS (by rfl) (v := ?_) ?_ ?_
                  rotate_left
                  · intro w' hSw; (try dsimp only at hSw); go_simp; (try with_reducible rfl)
                  try simp only [Act.put, List.setIfInBounds_toArray, List.set_cons_zero, List.set_cons_succ]
                  refine anyE_takeL 5 rfl (by kernel_rfl) (fun _ _ _ h => h) hS (by rfl) (v := ?_) ?_ ?_
                  rotate_left
                  · intro w' hSw; (try dsimp only at hSw); go_simp; (try with_reducible rfl)
                  try simp only [Act.put, List.setIfInBounds_toArray, List.set_cons_zero, List.set_cons_succ]
                  refine anyE_takeL 6 rfl (by kernel_rfl) (fun _ _ _ h => h) hS (by rfl) (v := ?_) ?_ ?_
                  rotate_left
                  · intro w' hSw; (try dsimp only at hSw); go_simp; (try with_reducible rfl)
                  try simp only [Act.put, List.setIfInBounds_toArray, List.set_cons_zero, List.set_cons_succ]
                  refine anyE_takeL 7 rfl (by kernel_rfl) (fun _ _ _ h => h) hS (by rfl) (v := ?_) ?_ ?_
                  rotate_left
                  · intro w' hSw; (try dsimp only at hSw); go_simp; (try with_reducible rfl)
                  try simp only [Act.put, List.setIfInBounds_toArray, List.set_cons_zero, List.set_cons_succ]
                  refine anyE_takeL 8 rfl (by kernel_rfl) (fun _ _ _ h => h) hS (by rfl) (v := ?_) ?_ ?_
                  rotate_left
                  · intro w' hSw; (try dsimp only at hSw); go_simp; (try with_reducible rfl)
                  try simp only [Act.put, List.setIfInBounds_toArray, List.set_cons_zero, List.set_cons_succ]
                  refine anyE_takeL 9 rfl (by kernel_rfl) (fun _ _ _ h => h) hS (by rfl) (v := ?_) ?_ ?_
                  rotate_left
                  · intro w' hSw; (try dsimp only at hSw); go_simp; (try with_reducible rfl)
                  try simp only [Act.put, List.setIfInBounds_toArray, List.set_cons_zero, List.set_cons_succ]
                  refine anyE_takeL 10 rfl (by kernel_rfl) (fun _ _ _ h => h) hS (by rfl) (v := ?_) ?_ ?_
                  rotate_left
                  · intro w' hSw; (try dsimp only at hSw); go_simp; (try with_reducible rfl)
                  try simp only [Act.put, List.setIfInBounds_toArray, List.set_cons_zero, List.set_cons_succ]
                  refine anyE_takeL 11 rfl (by kernel_rfl) (fun _ _ _ h => h) hS (by rfl) (v := ?_) ?_ ?_
                  rotate_left
                  · intro w' hSw; (try dsimp only at hSw); go_simp; (try with_reducible rfl)
                  try simp only [Act.put, List.setIfInBounds_toArray, List.set_cons_zero, List.set_cons_succ]
                  replace yc := fr_be hbd zc yc
                  replace zc := cell_be hbd zc
                  have HIn := (HIx.out.put h (R + X)).below (Below.refl _ _).drew
                  rw [show (row).set h (R + X) = addAt cntP row h X from by rw [← w3.out]; exact ad_at cntP _ _ _ R HR.out] at HIn
                  have HIm := hide HIn
                  have hzd : w.heap.size < (wr.setCell ⟨gN, h, none⟩ (.int .i64 (R + X))).drew.heap.size := by simp; omega
                  refine anyE_lastL (by kernel_rfl) rfl (by kernel_rfl) (fun K' hK' => ?_)
                  go_simp
                  refine hK'.out _ _ ?_
                  clear hK' K' hS HIn zc yc rc xc w1 w3 hbd HIx HR
                  try simp only [Act.put, List.setIfInBounds_toArray, List.set_cons_zero, List.set_cons_succ]
                  obtain ⟨wa, hwn⟩ : ∃ wn, wn = (wr.setCell ⟨gN, h, none⟩ (.int .i64 (R + X))).drew := ⟨_, rfl⟩
                  rw [← hwn] at HIm hzd ⊢
                  have HIx := HIm
                  replace Hrr := hide (rngL_add (p := cntP) (by decide) Hrr.out h X)
                  replace Hrl := hide (show (addAt cntP row h X).length = m by rw [addAt_len, Hrl.out])
                  clear HIm hwn hzx
                  have hzx := hzd
                  clear hzd
                  have d1 : ¬ (0 : Int) < (h : Int) := by have := Hd.out; omega
                  rw [HD0.out Hd.out] at HN2 Hm2
                  have u2 : ¬ (h : Int) < (M : Int) := by have := Hm.out; omega
                  have HIz := hide (show CntI w wa g gN v (rndsP cntP A B v (h + 1)) by
                    rw [HN2.out]
                    rw [addAt_out cntP _ (h + 1) X (by rw [Hrl.out]; omega)]
                    exact HIx.out)
                  clear HIx Hrr Hrl HN2 Hm2
                  go_wp2
                  go_roundw
                  case rel => exact ⟨h + 1, by omega, by go_num, HIz, hzx⟩
                  case measure => simp [intOf]; omega
                · have HN2 := hide (show rndsP cntP A B v (h + 1) = addAt cntP (rndD cntP B v row h) (h + 1) X by have q := HNr.out; rwa [show lvl true = 0 from rfl, Int.zero_mul, addAt_nil Hrr.out] at q)
                  have Hm2 := hide (show row.getD h 0 + 0 * X < cntP ∧ (h ≠ 0 → row.getD (h - 1) 0 + X < cntP) ∧ (rndD cntP B v row h).getD (h + 1) 0 + X < cntP by have q := Hmid.out; rwa [show lvl true = 0 from rfl, show addAt cntP row h (0 * X) = row by rw [Int.zero_mul]; exact addAt_nil Hrr.out h] at q)
                  clear Hmid HNr
                  have d1 : ¬ (0 : Int) < (h : Int) := by have := Hd.out; omega
                  rw [HD0.out Hd.out] at HN2 Hm2
                  have u2 : ¬ (h : Int) < (M : Int) := by have := Hm.out; omega
                  have HIz := hide (show CntI w wr g gN v (rndsP cntP A B v (h + 1)) by
                    rw [HN2.out]
                    rw [addAt_out cntP _ (h + 1) X (by rw [Hrl.out]; omega)]
                    exact HIx.out)
                  clear HIx Hrr Hrl HN2 Hm2
                  go_wp2
                  go_roundw
                  case rel => exact ⟨h + 1, by omega, by go_num, HIz, hzx⟩
                  case measure => simp [intOf]; omega
            · have Hd := hide hd
              clear hd
              by_cases hu : h + 1 < m
              · cases lb
                · have HN2 := hide (show rndsP cntP A B v (h + 1) = addAt cntP (rndD cntP B v (addAt cntP row h X) h) (h + 1) X by have q := HNr.out; rwa [show lvl false = 1 from rfl, Int.one_mul] at q)
                  have Hm2 := hide (show row.getD h 0 + X < cntP ∧ (h ≠ 0 → (addAt cntP row h X).getD (h - 1) 0 + X < cntP) ∧ (rndD cntP B v (addAt cntP row h X) h).getD (h + 1) 0 + X < cntP by have q := Hmid.out; rwa [show lvl false = 1 from rfl, Int.one_mul] at q)
                  clear Hmid HNr
                  have zc := HIx.out.new.cell h (by rw [Hrl.out]; omega)
                  have yc := HIx.out.new.free h
                  have rc := Hrr.out h
                  have bc : (row).getD h 0 + X < cntP := Hm2.out.1
                  obtain ⟨R, hR⟩ : ∃ R, (row).getD h 0 = R := ⟨_, rfl⟩
                  rw [hR] at zc rc bc
                  have HR := hide hR
                  have xc := HIx.out.old.cell h (by rw [Hvl.out]; exact hhm)
                  rw [HX.out] at xc
                  have w1 : IntKind.i64.wrap (R + X) = R + X := IntWalk.i64_in _ (by unfold cntP at bc; omega)
                  have hbd := (Below.refl wr.heap.size wr).drew
                  have w3 := hide (show (R + X) % cntP = R + X from Int.emod_eq_of_lt (by omega) bc)
                  clear hR bc
                  go_upto_region 11 with fail
                  refine region_E (fun w' => w'.cell? ⟨gN, h, none⟩ = some (.int .i64 R) ∧ w'.cell? ⟨g, h, none⟩ = some (.int .i64 X)) 12 (by kernel_rfl) ⟨cell_be hbd zc, cell_be hbd xc⟩ ?_
                  intro hS
                  refine anyE_takeL 0 rfl (by kernel_rfl) (fun _ _ _ h => h) hS (by rfl) (v := ?_) ?_ ?_
                  rotate_left
                  · intro w' hSw; (try dsimp only at hSw); go_simp; (try with_reducible rfl)
                  try simp only [Act.put, List.setIfInBounds_toArray, List.set_cons_zero, List.set_cons_succ]
                  refine anyE_takeL 1 rfl (by kernel_rfl) (fun _ _ _ h => h) hS (by rfl) (v := ?_) ?_ ?_
                  rotate_left
                  · intro w' hSw; (try dsimp only at hSw); go_simp; (try with_reducible rfl)
                  try simp only [Act.put, List.setIfInBounds_toArray, List.set_cons_zero, List.set_cons_succ]
                  refine anyE_takeL 2 rfl (by kernel_rfl) (fun _ _ _ h => h) hS (by rfl) (v := ?_) ?_ ?_
                  rotate_left
                  · intro w' hSw; (try dsimp only at hSw); go_simp; (try with_reducible rfl)
                  try simp only [Act.put, List.setIfInBounds_toArray, List.set_cons_zero, List.set_cons_succ]
                  refine anyE_takeL 3 rfl (by kernel_rfl) (fun _ _ _ h => h) hS (by rfl) (v := ?_) ?_ ?_
                  rotate_left
                  · intro w' hSw; (try dsimp only at hSw); go_simp; (try with_reducible rfl)
                  try simp only [Act.put, List.setIfInBounds_toArray, List.set_cons_zero, List.set_cons_succ]
                  refine anyE_takeL 4 rfl (by kernel_rfl) (fun _ _ _ h => h) hS (by rfl) (v := ?_) ?_ ?_
                  rotate_left
                  · intro w' hSw; (try dsimp only at hSw); go_simp; (try with_reducible rfl)
                  try simp only [Act.put, List.setIfInBounds_toArray, List.set_cons_zero, List.set_cons_succ]
                  refine anyE_takeL 5 rfl (by kernel_rfl) (fun _ _ _ h => h) hS (by rfl) (v := ?_) ?_ ?_
                  rotate_left
                  · intro w' hSw; (try dsimp only at hSw); go_simp; (try with_reducible rfl)
                  try simp only [Act.put, List.setIfInBounds_toArray, List.set_cons_zero, List.set_cons_succ]
                  refine anyE_takeL 6 rfl (by kernel_rfl) (fun _ _ _ h => h) hS (by rfl) (v := ?_) ?_ ?_
                  rotate_left
                  · intro w' hSw; (try dsimp only at hSw); go_simp; (try with_reducible rfl)
                  try simp only [Act.put, List.setIfInBounds_toArray, List.set_cons_zero, List.set_cons_succ]
                  refine anyE_takeL 7 rfl (by kernel_rfl) (fun _ _ _ h => h) hS (by rfl) (v := ?_) ?_ ?_
                  rotate_left
                  · intro w' hSw; (try dsimp only at hSw); go_simp; (try with_reducible rfl)
                  try simp only [Act.put, List.setIfInBounds_toArray, List.set_cons_zero, List.set_cons_succ]
                  refine anyE_takeL 8 rfl (by kernel_rfl) (fun _ _ _ h => h) hS (by rfl) (v := ?_) ?_ ?_
                  rotate_left
                  · intro w' hSw; (try dsimp only at hSw); go_simp; (try with_reducible rfl)
                  try simp only [Act.put, List.setIfInBounds_toArray, List.set_cons_zero, List.set_cons_succ]
                  refine anyE_takeL 9 rfl (by kernel_rfl) (fun _ _ _ h => h) hS (by rfl) (v := ?_) ?_ ?_
                  rotate_left
                  · intro w' hSw; (try dsimp only at hSw); go_simp; (try with_reducible rfl)
                  try simp only [Act.put, List.setIfInBounds_toArray, List.set_cons_zero, List.set_cons_succ]
                  refine anyE_takeL 10 rfl (by kernel_rfl) (fun _ _ _ h => h) hS (by rfl) (v := ?_) ?_ ?_
                  rotate_left
                  · intro w' hSw; (try dsimp only at hSw); go_simp; (try with_reducible rfl)
                  try simp only [Act.put, List.setIfInBounds_toArray, List.set_cons_zero, List.set_cons_succ]
                  refine anyE_takeL 11 rfl (by kernel_rfl) (fun _ _ _ h => h) hS (by rfl) (v := ?_) ?_ ?_
                  rotate_left
                  · intro w' hSw; (try dsimp only at hSw); go_simp; (try with_reducible rfl)
                  try simp only [Act.put, List.setIfInBounds_toArray, List.set_cons_zero, List.set_cons_succ]
                  replace yc := fr_be hbd zc yc
                  replace zc := cell_be hbd zc
                  have HIn := (HIx.out.put h (R + X)).below (Below.refl _ _).drew
                  rw [show (row).set h (R + X) = addAt cntP row h X from by rw [← w3.out]; exact ad_at cntP _ _ _ R HR.out] at HIn
                  have HIm := hide HIn
                  have hzd : w.heap.size < (wr.setCell ⟨gN, h, none⟩ (.int .i64 (R + X))).drew.heap.size := by simp; omega
                  refine anyE_lastL (by kernel_rfl) rfl (by kernel_rfl) (fun K' hK' => ?_)
                  go_simp
                  refine hK'.out _ _ ?_
                  clear hK' K' hS HIn zc yc rc xc w1 w3 hbd HIx HR
                  try simp only [Act.put, List.setIfInBounds_toArray, List.set_cons_zero, List.set_cons_succ]
                  obtain ⟨wa, hwn⟩ : ∃ wn, wn = (wr.setCell ⟨gN, h, none⟩ (.int .i64 (R + X))).drew := ⟨_, rfl⟩
                  rw [← hwn] at HIm hzd ⊢
                  have HIx := HIm
                  replace Hrr := hide (rngL_add (p := cntP) (by decide) Hrr.out h X)
                  replace Hrl := hide (show (addAt cntP row h X).length = m by rw [addAt_len, Hrl.out])
                  clear HIm hwn hzx
                  have hzx := hzd
                  clear hzd
                  have d1 : (0 : Int) < (h : Int) := by have := Hd.out; omega
                  have d2 : 1 ≤ (h : Int) := by omega
                  have d3 : (0 : Int) ≤ (h : Int) - 1 := by omega
                  have d4 : (h : Int) - 1 < (m : Int) := by omega
                  have d5 : ((h : Int) - 1).toNat = h - 1 := by omega
                  have d6 : IntKind.i64.wrap ((h : Int) - 1) = (h : Int) - 1 := IntWalk.i64_in _ (by omega)
                  rw [HD1.out Hd.out] at HN2 Hm2
                  have zc := HIx.out.new.cell (h - 1) (by rw [Hrl.out]; omega)
                  have yc := HIx.out.new.free (h - 1)
                  have rc := Hrr.out (h - 1)
                  have bc : (addAt cntP row h X).getD (h - 1) 0 + X < cntP := Hm2.out.2.1 Hd.out
                  obtain ⟨R, hR⟩ : ∃ R, (addAt cntP row h X).getD (h - 1) 0 = R := ⟨_, rfl⟩
                  rw [hR] at zc rc bc
                  have HR := hide hR
                  have xc := HIx.out.old.cell h (by rw [Hvl.out]; exact hhm)
                  rw [HX.out] at xc
                  have w1 : IntKind.i64.wrap (R + X) = R + X := IntWalk.i64_in _ (by unfold cntP at bc; omega)
                  have hbd := (Below.refl wa.heap.size wa).drew
                  have w3 := hide (show (R + X) % cntP = R + X from Int.emod_eq_of_lt (by omega) bc)
                  clear hR bc
                  go_upto_region 13 with fail
                  refine region_E (fun w' => w'.cell? ⟨gN, (h - 1), none⟩ = some (.int .i64 R) ∧ w'.cell? ⟨g, h, none⟩ = some (.int .i64 X)) 14 (by kernel_rfl) ⟨cell_be hbd zc, cell_be hbd xc⟩ ?_
                  intro hS
                  refine anyE_takeL 0 rfl (by kernel_rfl) (fun _ _ _ h => h) hS (by rfl) (v := ?_) ?_ ?_
                  rotate_left
                  · intro w' hSw; (try dsimp only at hSw); go_simp; (try with_reducible rfl)
                  try simp only [Act.put, List.setIfInBounds_toArray, List.set_cons_zero, List.set_cons_succ]
                  refine anyE_takeL 1 rfl (by kernel_rfl) (fun _ _ _ h => h) hS (by rfl) (v := ?_) ?_ ?_
                  rotate_left
                  · intro w' hSw; (try dsimp only at hSw); go_simp; (try with_reducible rfl)
                  try simp only [Act.put, List.setIfInBounds_toArray, List.set_cons_zero, List.set_cons_succ]
                  refine anyE_takeL 2 rfl (by kernel_rfl) (fun _ _ _ h => h) hS (by rfl) (v := ?_) ?_ ?_
                  rotate_left
                  · intro w' hSw; (try dsimp only at hSw); go_simp; (try with_reducible rfl)
                  try simp only [Act.put, List.setIfInBounds_toArray, List.set_cons_zero, List.set_cons_succ]
                  refine anyE_takeL 3 rfl (by kernel_rfl) (fun _ _ _ h => h) hS (by rfl) (v := ?_) ?_ ?_
                  rotate_left
                  · intro w' hSw; (try dsimp only at hSw); go_simp; (try with_reducible rfl)
                  try simp only [Act.put, List.setIfInBounds_toArray, List.set_cons_zero, List.set_cons_succ]
                  refine anyE_takeL 4 rfl (by kernel_rfl) (fun _ _ _ h => h) hS (by rfl) (v := ?_) ?_ ?_
                  rotate_left
                  · intro w' hSw; (try dsimp only at hSw); go_simp; (try with_reducible rfl)
                  try simp only [Act.put, List.setIfInBounds_toArray, List.set_cons_zero, List.set_cons_succ]
                  refine anyE_takeL 5 rfl (by kernel_rfl) (fun _ _ _ h => h) hS (by rfl) (v := ?_) ?_ ?_
                  rotate_left
                  · intro w' hSw; (try dsimp only at hSw); go_simp; (try with_reducible rfl)
                  try simp only [Act.put, List.setIfInBounds_toArray, List.set_cons_zero, List.set_cons_succ]
                  refine anyE_takeL 6 rfl (by kernel_rfl) (fun _ _ _ h => h) hS (by rfl) (v := ?_) ?_ ?_
                  rotate_left
                  · intro w' hSw; (try dsimp only at hSw); go_simp; (try with_reducible rfl)
                  try simp only [Act.put, List.setIfInBounds_toArray, List.set_cons_zero, List.set_cons_succ]
                  refine anyE_takeL 7 rfl (by kernel_rfl) (fun _ _ _ h => h) hS (by rfl) (v := ?_) ?_ ?_
                  rotate_left
                  · intro w' hSw; (try dsimp only at hSw); go_simp; (try with_reducible rfl)
                  try simp only [Act.put, List.setIfInBounds_toArray, List.set_cons_zero, List.set_cons_succ]
                  refine anyE_takeL 8 rfl (by kernel_rfl) (fun _ _ _ h => h) hS (by rfl) (v := ?_) ?_ ?_
                  rotate_left
                  · intro w' hSw; (try dsimp only at hSw); go_simp; (try with_reducible rfl)
                  try simp only [Act.put, List.setIfInBounds_toArray, List.set_cons_zero, List.set_cons_succ]
                  refine anyE_takeL 9 rfl (by kernel_rfl) (fun _ _ _ h => h) hS (by rfl) (v := ?_) ?_ ?_
                  rotate_left
                  · intro w' hSw; (try dsimp only at hSw); go_simp; (try with_reducible rfl)
                  try simp only [Act.put, List.setIfInBounds_toArray, List.set_cons_zero, List.set_cons_succ]
                  refine anyE_takeL 10 rfl (by kernel_rfl) (fun _ _ _ h => h) hS (by rfl) (v := ?_) ?_ ?_
                  rotate_left
                  · intro w' hSw; (try dsimp only at hSw); go_simp; (try with_reducible rfl)
                  try simp only [Act.put, List.setIfInBounds_toArray, List.set_cons_zero, List.set_cons_succ]
                  refine anyE_takeL 11 rfl (by kernel_rfl) (fun _ _ _ h => h) hS (by rfl) (v := ?_) ?_ ?_
                  rotate_left
                  · intro w' hSw; (try dsimp only at hSw); go_simp; (try with_reducible rfl)
                  try simp only [Act.put, List.setIfInBounds_toArray, List.set_cons_zero, List.set_cons_succ]
                  refine anyE_takeL 12 rfl (by kernel_rfl) (fun _ _ _ h => h) hS (by rfl) (v := ?_) ?_ ?_
                  rotate_left
                  · intro w' hSw; (try dsimp only at hSw); go_simp; (try with_reducible rfl)
                  try simp only [Act.put, List.setIfInBounds_toArray, List.set_cons_zero, List.set_cons_succ]
                  refine anyE_takeL 13 rfl (by kernel_rfl) (fun _ _ _ h => h) hS (by rfl) (v := ?_) ?_ ?_
                  rotate_left
                  · intro w' hSw; (try dsimp only at hSw); go_simp; (try with_reducible rfl)
                  try simp only [Act.put, List.setIfInBounds_toArray, List.set_cons_zero, List.set_cons_succ]
                  replace yc := fr_be hbd zc yc
                  replace zc := cell_be hbd zc
                  have HIn := (HIx.out.put (h - 1) (R + X)).below (Below.refl _ _).drew
                  rw [show (addAt cntP row h X).set (h - 1) (R + X) = addAt cntP (addAt cntP row h X) (h - 1) X from by rw [← w3.out]; exact ad_at cntP _ _ _ R HR.out] at HIn
                  have HIm := hide HIn
                  have hzd : w.heap.size < (wa.setCell ⟨gN, (h - 1), none⟩ (.int .i64 (R + X))).drew.heap.size := by simp; omega
                  refine anyE_lastL (by kernel_rfl) rfl (by kernel_rfl) (fun K' hK' => ?_)
                  go_simp
                  refine hK'.out _ _ ?_
                  clear hK' K' hS HIn zc yc rc xc w1 w3 hbd HIx HR
                  try simp only [Act.put, List.setIfInBounds_toArray, List.set_cons_zero, List.set_cons_succ]
                  obtain ⟨wb, hwn⟩ : ∃ wn, wn = (wa.setCell ⟨gN, (h - 1), none⟩ (.int .i64 (R + X))).drew := ⟨_, rfl⟩
                  rw [← hwn] at HIm hzd ⊢
                  have HIx := HIm
                  replace Hrr := hide (rngL_add (p := cntP) (by decide) Hrr.out (h - 1) X)
                  replace Hrl := hide (show (addAt cntP (addAt cntP row h X) (h - 1) X).length = m by rw [addAt_len, Hrl.out])
                  clear HIm hwn hzx
                  have hzx := hzd
                  clear hzd
                  clear d1 d2 d3 d4 d5 d6
                  have u1 : IntKind.i64.wrap ((h : Int) + 1) = (h : Int) + 1 := IntWalk.i64_in _ (by omega)
                  have u2 : (h : Int) < (M : Int) := by have := Hm.out; omega
                  have u3 : (0 : Int) ≤ (h : Int) + 1 := by omega
                  have u4 : ((h : Int) + 1).toNat = h + 1 := by omega
                  have u5 : (h : Int) + 1 < (m : Int) := by omega
                  have zc := HIx.out.new.cell (h + 1) (by rw [Hrl.out]; omega)
                  have yc := HIx.out.new.free (h + 1)
                  have rc := Hrr.out (h + 1)
                  have bc : (addAt cntP (addAt cntP row h X) (h - 1) X).getD (h + 1) 0 + X < cntP := Hm2.out.2.2
                  obtain ⟨R, hR⟩ : ∃ R, (addAt cntP (addAt cntP row h X) (h - 1) X).getD (h + 1) 0 = R := ⟨_, rfl⟩
                  rw [hR] at zc rc bc
                  have HR := hide hR
                  have xc := HIx.out.old.cell h (by rw [Hvl.out]; exact hhm)
                  rw [HX.out] at xc
                  have w1 : IntKind.i64.wrap (R + X) = R + X := IntWalk.i64_in _ (by unfold cntP at bc; omega)
                  have hbd := (Below.refl wb.heap.size wb).drew
                  have w3 := hide (show (R + X) % cntP = R + X from Int.emod_eq_of_lt (by omega) bc)
                  clear hR bc
                  go_upto_region 15 with fail
                  refine region_E (fun w' => w'.cell? ⟨gN, (h + 1), none⟩ = some (.int .i64 R) ∧ w'.cell? ⟨g, h, none⟩ = some (.int .i64 X)) 14 (by kernel_rfl) ⟨cell_be hbd zc, cell_be hbd xc⟩ ?_
                  intro hS
                  refine anyE_takeL 0 rfl (by kernel_rfl) (fun _ _ _ h => h) hS (by rfl) (v := ?_) ?_ ?_
                  rotate_left
                  · intro w' hSw; (try dsimp only at hSw); go_simp; (try with_reducible rfl)
                  try simp only [Act.put, List.setIfInBounds_toArray, List.set_cons_zero, List.set_cons_succ]
                  refine anyE_takeL 1 rfl (by kernel_rfl) (fun _ _ _ h => h) hS (by rfl) (v := ?_) ?_ ?_
                  rotate_left
                  · intro w' hSw; (try dsimp only at hSw); go_simp; (try with_reducible rfl)
                  try simp only [Act.put, List.setIfInBounds_toArray, List.set_cons_zero, List.set_cons_succ]
                  refine anyE_takeL 2 rfl (by kernel_rfl) (fun _ _ _ h => h) hS (by rfl) (v := ?_) ?_ ?_
                  rotate_left
                  · intro w' hSw; (try dsimp only at hSw); go_simp; (try with_reducible rfl)
                  try simp only [Act.put, List.setIfInBounds_toArray, List.set_cons_zero, List.set_cons_succ]
                  refine anyE_takeL 3 rfl (by kernel_rfl) (fun _ _ _ h => h) hS (by rfl) (v := ?_) ?_ ?_
                  rotate_left
                  · intro w' hSw; (try dsimp only at hSw); go_simp; (try with_reducible rfl)
                  try simp only [Act.put, List.setIfInBounds_toArray, List.set_cons_zero, List.set_cons_succ]
                  refine anyE_takeL 4 rfl (by kernel_rfl) (fun _ _ _ h => h) hS (by rfl) (v := ?_) ?_ ?_
                  rotate_left
                  · intro w' hSw; (try dsimp only at hSw); go_simp; (try with_reducible rfl)
                  try simp only [Act.put, List.setIfInBounds_toArray, List.set_cons_zero, List.set_cons_succ]
                  refine anyE_takeL 5 rfl (by kernel_rfl) (fun _ _ _ h => h) hS (by rfl) (v := ?_) ?_ ?_
                  rotate_left
                  · intro w' hSw; (try dsimp only at hSw); go_simp; (try with_reducible rfl)
                  try simp only [Act.put, List.setIfInBounds_toArray, List.set_cons_zero, List.set_cons_succ]
                  refine anyE_takeL 6 rfl (by kernel_rfl) (fun _ _ _ h => h) hS (by rfl) (v := ?_) ?_ ?_
                  rotate_left
                  · intro w' hSw; (try dsimp only at hSw); go_simp; (try with_reducible rfl)
                  try simp only [Act.put, List.setIfInBounds_toArray, List.set_cons_zero, List.set_cons_succ]
                  refine anyE_takeL 7 rfl (by kernel_rfl) (fun _ _ _ h => h) hS (by rfl) (v := ?_) ?_ ?_
                  rotate_left
                  · intro w' hSw; (try dsimp only at hSw); go_simp; (try with_reducible rfl)
                  try simp only [Act.put, List.setIfInBounds_toArray, List.set_cons_zero, List.set_cons_succ]
                  refine anyE_takeL 8 rfl (by kernel_rfl) (fun _ _ _ h => h) hS (by rfl) (v := ?_) ?_ ?_
                  rotate_left
                  · intro w' hSw; (try dsimp only at hSw); go_simp; (try with_reducible rfl)
                  try simp only [Act.put, List.setIfInBounds_toArray, List.set_cons_zero, List.set_cons_succ]
                  refine anyE_takeL 9 rfl (by kernel_rfl) (fun _ _ _ h => h) hS (by rfl) (v := ?_) ?_ ?_
                  rotate_left
                  · intro w' hSw; (try dsimp only at hSw); go_simp; (try with_reducible rfl)
                  try simp only [Act.put, List.setIfInBounds_toArray, List.set_cons_zero, List.set_cons_succ]
                  refine anyE_takeL 10 rfl (by kernel_rfl) (fun _ _ _ h => h) hS (by rfl) (v := ?_) ?_ ?_
                  rotate_left
                  · intro w' hSw; (try dsimp only at hSw); go_simp; (try with_reducible rfl)
                  try simp only [Act.put, List.setIfInBounds_toArray, List.set_cons_zero, List.set_cons_succ]
                  refine anyE_takeL 11 rfl (by kernel_rfl) (fun _ _ _ h => h) hS (by rfl) (v := ?_) ?_ ?_
                  rotate_left
                  · intro w' hSw; (try dsimp only at hSw); go_simp; (try with_reducible rfl)
                  try simp only [Act.put, List.setIfInBounds_toArray, List.set_cons_zero, List.set_cons_succ]
                  refine anyE_takeL 12 rfl (by kernel_rfl) (fun _ _ _ h => h) hS (by rfl) (v := ?_) ?_ ?_
                  rotate_left
                  · intro w' hSw; (try dsimp only at hSw); go_simp; (try with_reducible rfl)
                  try simp only [Act.put, List.setIfInBounds_toArray, List.set_cons_zero, List.set_cons_succ]
                  refine anyE_takeL 13 rfl (by kernel_rfl) (fun _ _ _ h => h) hS (by rfl) (v := ?_) ?_ ?_
                  rotate_left
                  · intro w' hSw; (try dsimp only at hSw); go_simp; (try with_reducible rfl)
                  try simp only [Act.put, List.setIfInBounds_toArray, List.set_cons_zero, List.set_cons_succ]
                  replace yc := fr_be hbd zc yc
                  replace zc := cell_be hbd zc
                  have HIn := (HIx.out.put (h + 1) (R + X)).below (Below.refl _ _).drew
                  rw [show (addAt cntP (addAt cntP row h X) (h - 1) X).set (h + 1) (R + X) = addAt cntP (addAt cntP (addAt cntP row h X) (h - 1) X) (h + 1) X from by rw [← w3.out]; exact ad_at cntP _ _ _ R HR.out] at HIn
                  have HIm := hide HIn
                  have hzd : w.heap.size < (wb.setCell ⟨gN, (h + 1), none⟩ (.int .i64 (R + X))).drew.heap.size := by simp; omega
                  refine anyE_lastL (by kernel_rfl) rfl (by kernel_rfl) (fun K' hK' => ?_)
                  go_simp
                  refine hK'.out _ _ ?_
                  clear hK' K' hS HIn zc yc rc xc w1 w3 hbd HIx HR
                  try simp only [Act.put, List.setIfInBounds_toArray, List.set_cons_zero, List.set_cons_succ]
                  obtain ⟨wd, hwn⟩ : ∃ wn, wn = (wb.setCell ⟨gN, (h + 1), none⟩ (.int .i64 (R + X))).drew := ⟨_, rfl⟩
                  rw [← hwn] at HIm hzd ⊢
                  have HIx := HIm
                  replace Hrr := hide (rngL_add (p := cntP) (by decide) Hrr.out (h + 1) X)
                  replace Hrl := hide (show (addAt cntP (addAt cntP (addAt cntP row h X) (h - 1) X) (h + 1) X).length = m by rw [addAt_len, Hrl.out])
                  clear HIm hwn hzx
                  have hzx := hzd
                  clear hzd
                  clear u2 u3 u4 u5
                  have HIz := hide (show CntI w wd g gN v (rndsP cntP A B v (h + 1)) by
                    rw [HN2.out]
                    exact HIx.out)
                  clear HIx Hrr Hrl HN2 Hm2
                  go_wp2
                  go_roundw
                  case rel => exact ⟨h + 1, by omega, by go_num, HIz, hzx⟩
                  case measure => simp [intOf]; omega
                · have HN2 := hide (show rndsP cntP A B v (h + 1) = addAt cntP (rndD cntP B v row h) (h + 1) X by have q := HNr.out; rwa [show lvl true = 0 from rfl, Int.zero_mul, addAt_nil Hrr.out] at q)
                  have Hm2 := hide (show row.getD h 0 + 0 * X < cntP ∧ (h ≠ 0 → row.getD (h - 1) 0 + X < cntP) ∧ (rndD cntP B v row h).getD (h + 1) 0 + X < cntP by have q := Hmid.out; rwa [show lvl true = 0 from rfl, show addAt cntP row h (0 * X) = row by rw [Int.zero_mul]; exact addAt_nil Hrr.out h] at q)
                  clear Hmid HNr
                  have d1 : (0 : Int) < (h : Int) := by have := Hd.out; omega
                  have d2 : 1 ≤ (h : Int) := by omega
                  have d3 : (0 : Int) ≤ (h : Int) - 1 := by omega
                  have d4 : (h : Int) - 1 < (m : Int) := by omega
                  have d5 : ((h : Int) - 1).toNat = h - 1 := by omega
                  have d6 : IntKind.i64.wrap ((h : Int) - 1) = (h : Int) - 1 := IntWalk.i64_in _ (by omega)
                  rw [HD1.out Hd.out] at HN2 Hm2
                  have zc := HIx.out.new.cell (h - 1) (by rw [Hrl.out]; omega)
                  have yc := HIx.out.new.free (h - 1)
                  have rc := Hrr.out (h - 1)
                  have bc : (row).getD (h - 1) 0 + X < cntP := Hm2.out.2.1 Hd.out
                  obtain ⟨R, hR⟩ : ∃ R, (row).getD (h - 1) 0 = R := ⟨_, rfl⟩
                  rw [hR] at zc rc bc
                  have HR := hide hR
                  have xc := HIx.out.old.cell h (by rw [Hvl.out]; exact hhm)
                  rw [HX.out] at xc
                  have w1 : IntKind.i64.wrap (R + X) = R + X := IntWalk.i64_in _ (by unfold cntP at bc; omega)
                  have hbd := (Below.refl wr.heap.size wr).drew
                  have w3 := hide (show (R + X) % cntP = R + X from Int.emod_eq_of_lt (by omega) bc)
                  clear hR bc
                  go_upto_region 13 with fail
                  refine region_E (fun w' => w'.cell? ⟨gN, (h - 1), none⟩ = some (.int .i64 R) ∧ w'.cell? ⟨g, h, none⟩ = some (.int .i64 X)) 14 (by kernel_rfl) ⟨cell_be hbd zc, cell_be hbd xc⟩ ?_
                  intro hS
                  refine anyE_takeL 0 rfl (by kernel_rfl) (fun _ _ _ h => h) hS (by rfl) (v := ?_) ?_ ?_
                  rotate_left
                  · intro w' hSw; (try dsimp only at hSw); go_simp; (try with_reducible rfl)
                  try simp only [Act.put, List.setIfInBounds_toArray, List.set_cons_zero, List.set_cons_succ]
                  refine anyE_takeL 1 rfl (by kernel_rfl) (fun _ _ _ h => h) hS (by rfl) (v := ?_) ?_ ?_
                  rotate_left
                  · intro w' hSw; (try dsimp only at hSw); go_simp; (try with_reducible rfl)
                  try simp only [Act.put, List.setIfInBounds_toArray, List.set_cons_zero, List.set_cons_succ]
                  refine anyE_takeL 2 rfl (by kernel_rfl) (fun _ _ _ h => h) hS (by rfl) (v := ?_) ?_ ?_
                  rotate_left
                  · intro w' hSw; (try dsimp only at hSw); go_simp; (try with_reducible rfl)
                  try simp only [Act.put, List.setIfInBounds_toArray, List.set_cons_zero, List.set_cons_succ]
                  refine anyE_takeL 3 rfl (by kernel_rfl) (fun _ _ _ h => h) hS (by rfl) (v := ?_) ?_ ?_
                  rotate_left
                  · intro w' hSw; (try dsimp only at hSw); go_simp; (try with_reducible rfl)
                  try simp only [Act.put, List.setIfInBounds_toArray, List.set_cons_zero, List.set_cons_succ]
                  refine anyE_takeL 4 rfl (by kernel_rfl) (fun _ _ _ h => h) hS (by rfl) (v := ?_) ?_ ?_
                  rotate_left
                  · intro w' hSw; (try dsimp only at hSw); go_simp; (try with_reducible rfl)
                  try simp only [Act.put, List.setIfInBounds_toArray, List.set_cons_zero, List.set_cons_succ]
                  refine anyE_takeL 5 rfl (by kernel_rfl) (fun _ _ _ h => h) hS (by rfl) (v := ?_) ?_ ?_
                  rotate_left
                  · intro w' hSw; (try dsimp only at hSw); go_simp; (try with_reducible rfl)
                  try simp only [Act.put, List.setIfInBounds_toArray, List.set_cons_zero, List.set_cons_succ]
                  refine anyE_takeL 6 rfl (by kernel_rfl) (fun _ _ _ h => h) hS (by rfl) (v := ?_) ?_ ?_
                  rotate_left
                  · intro w' hSw; (try dsimp only at hSw); go_simp; (try with_reducible rfl)
                  try simp only [Act.put, List.setIfInBounds_toArray, List.set_cons_zero, List.set_cons_succ]
                  refine anyE_takeL 7 rfl (by kernel_rfl) (fun _ _ _ h => h) hS (by rfl) (v := ?_) ?_ ?_
                  rotate_left
                  · intro w' hSw; (try dsimp only at hSw); go_simp; (try with_reducible rfl)
                  try simp only [Act.put, List.setIfInBounds_toArray, List.set_cons_zero, List.set_cons_succ]
                  refine anyE_takeL 8 rfl (by kernel_rfl) (fun _ _ _ h => h) hS (by rfl) (v := ?_) ?_ ?_
                  rotate_left
                  · intro w' hSw; (try dsimp only at hSw); go_simp; (try with_reducible rfl)
                  try simp only [Act.put, List.setIfInBounds_toArray, List.set_cons_zero, List.set_cons_succ]
                  refine anyE_takeL 9 rfl (by kernel_rfl) (fun _ _ _ h => h) hS (by rfl) (v := ?_) ?_ ?_
                  rotate_left
                  · intro w' hSw; (try dsimp only at hSw); go_simp; (try with_reducible rfl)
                  try simp only [Act.put, List.setIfInBounds_toArray, List.set_cons_zero, List.set_cons_succ]
                  refine anyE_takeL 10 rfl (by kernel_rfl) (fun _ _ _ h => h) hS (by rfl) (v := ?_) ?_ ?_
                  rotate_left
                  · intro w' hSw; (try dsimp only at hSw); go_simp; (try with_reducible rfl)
                  try simp only [Act.put, List.setIfInBounds_toArray, List.set_cons_zero, List.set_cons_succ]
                  refine anyE_takeL 11 rfl (by kernel_rfl) (fun _ _ _ h => h) hS (by rfl) (v := ?_) ?_ ?_
                  rotate_left
                  · intro w' hSw; (try dsimp only at hSw); go_simp; (try with_reducible rfl)
                  try simp only [Act.put, List.setIfInBounds_toArray, List.set_cons_zero, List.set_cons_succ]
                  refine anyE_takeL 12 rfl (by kernel_rfl) (fun _ _ _ h => h) hS (by rfl) (v := ?_) ?_ ?_
                  rotate_left
                  · intro w' hSw; (try dsimp only at hSw); go_simp; (try with_reducible rfl)
                  try simp only [Act.put, List.setIfInBounds_toArray, List.set_cons_zero, List.set_cons_succ]
                  refine anyE_takeL 13 rfl (by kernel_rfl) (fun _ _ _ h => h) hS (by rfl) (v := ?_) ?_ ?_
                  rotate_left
                  · intro w' hSw; (try dsimp only at hSw); go_simp; (try with_reducible rfl)
                  try simp only [Act.put, List.setIfInBounds_toArray, List.set_cons_zero, List.set_cons_succ]
                  replace yc := fr_be hbd zc yc
                  replace zc := cell_be hbd zc
                  have HIn := (HIx.out.put (h - 1) (R + X)).below (Below.refl _ _).drew
                  rw [show (row).set (h - 1) (R + X) = addAt cntP (row) (h - 1) X from by rw [← w3.out]; exact ad_at cntP _ _ _ R HR.out] at HIn
                  have HIm := hide HIn
                  have hzd : w.heap.size < (wr.setCell ⟨gN, (h - 1), none⟩ (.int .i64 (R + X))).drew.heap.size := by simp; omega
                  refine anyE_lastL (by kernel_rfl) rfl (by kernel_rfl) (fun K' hK' => ?_)
                  go_simp
                  refine hK'.out _ _ ?_
                  clear hK' K' hS HIn zc yc rc xc w1 w3 hbd HIx HR
                  try simp only [Act.put, List.setIfInBounds_toArray, List.set_cons_zero, List.set_cons_succ]
                  obtain ⟨wb, hwn⟩ : ∃ wn, wn = (wr.setCell ⟨gN, (h - 1), none⟩ (.int .i64 (R + X))).drew := ⟨_, rfl⟩
                  rw [← hwn] at HIm hzd ⊢
                  have HIx := HIm
                  replace Hrr := hide (rngL_add (p := cntP) (by decide) Hrr.out (h - 1) X)
                  replace Hrl := hide (show (addAt cntP (row) (h - 1) X).length = m by rw [addAt_len, Hrl.out])
                  clear HIm hwn hzx
                  have hzx := hzd
                  clear hzd
                  clear d1 d2 d3 d4 d5 d6
                  have u1 : IntKind.i64.wrap ((h : Int) + 1) = (h : Int) + 1 := IntWalk.i64_in _ (by omega)
                  have u2 : (h : Int) < (M : Int) := by have := Hm.out; omega
                  have u3 : (0 : Int) ≤ (h : Int) + 1 := by omega
                  have u4 : ((h : Int) + 1).toNat = h + 1 := by omega
                  have u5 : (h : Int) + 1 < (m : Int) := by omega
                  have zc := HIx.out.new.cell (h + 1) (by rw [Hrl.out]; omega)
                  have yc := HIx.out.new.free (h + 1)
                  have rc := Hrr.out (h + 1)
                  have bc : (addAt cntP (row) (h - 1) X).getD (h + 1) 0 + X < cntP := Hm2.out.2.2
                  obtain ⟨R, hR⟩ : ∃ R, (addAt cntP (row) (h - 1) X).getD (h + 1) 0 = R := ⟨_, rfl⟩
                  rw [hR] at zc rc bc
                  have HR := hide hR
                  have xc := HIx.out.old.cell h (by rw [Hvl.out]; exact hhm)
                  rw [HX.out] at xc
                  have w1 : IntKind.i64.wrap (R + X) = R + X := IntWalk.i64_in _ (by unfold cntP at bc; omega)
                  have hbd := (Below.refl wb.heap.size wb).drew
                  have w3 := hide (show (R + X) % cntP = R + X from Int.emod_eq_of_lt (by omega) bc)
                  clear hR bc
                  go_upto_region 15 with fail
                  refine region_E (fun w' => w'.cell? ⟨gN, (h + 1), none⟩ = some (.int .i64 R) ∧ w'.cell? ⟨g, h, none⟩ = some (.int .i64 X)) 14 (by kernel_rfl) ⟨cell_be hbd zc, cell_be hbd xc⟩ ?_
                  intro hS
                  refine anyE_takeL 0 rfl (by kernel_rfl) (fun _ _ _ h => h) hS (by rfl) (v := ?_) ?_ ?_
                  rotate_left
                  · intro w' hSw; (try dsimp only at hSw); go_simp; (try with_reducible rfl)
                  try simp only [Act.put, List.setIfInBounds_toArray, List.set_cons_zero, List.set_cons_succ]
                  refine anyE_takeL 1 rfl (by kernel_rfl) (fun _ _ _ h => h) hS (by rfl) (v := ?_) ?_ ?_
                  rotate_left
                  · intro w' hSw; (try dsimp only at hSw); go_simp; (try with_reducible rfl)
                  try simp only [Act.put, List.setIfInBounds_toArray, List.set_cons_zero, List.set_cons_succ]
                  refine anyE_takeL 2 rfl (by kernel_rfl) (fun _ _ _ h => h) hS (by rfl) (v := ?_) ?_ ?_
                  rotate_left
                  · intro w' hSw; (try dsimp only at hSw); go_simp; (try with_reducible rfl)
                  try simp only [Act.put, List.setIfInBounds_toArray, List.set_cons_zero, List.set_cons_succ]
                  refine anyE_takeL 3 rfl (by kernel_rfl) (fun _ _ _ h => h) hS (by rfl) (v := ?_) ?_ ?_
                  rotate_left
                  · intro w' hSw; (try dsimp only at hSw); go_simp; (try with_reducible rfl)
                  try simp only [Act.put, List.setIfInBounds_toArray, List.set_cons_zero, List.set_cons_succ]
                  refine anyE_takeL 4 rfl (by kernel_rfl) (fun _ _ _ h => h) hS (by rfl) (v := ?_) ?_ ?_
                  rotate_left
                  · intro w' hSw; (try dsimp only at hSw); go_simp; (try with_reducible rfl)
                  try simp only [Act.put, List.setIfInBounds_toArray, List.set_cons_zero, List.set_cons_succ]
                  refine anyE_takeL 5 rfl (by kernel_rfl) (fun _ _ _ h => h) hS (by rfl) (v := ?_) ?_ ?_
                  rotate_left
                  · intro w' hSw; (try dsimp only at hSw); go_simp; (try with_reducible rfl)
                  try simp only [Act.put, List.setIfInBounds_toArray, List.set_cons_zero, List.set_cons_succ]
                  refine anyE_takeL 6 rfl (by kernel_rfl) (fun _ _ _ h => h) hS (by rfl) (v := ?_) ?_ ?_
                  rotate_left
                  · intro w' hSw; (try dsimp only at hSw); go_simp; (try with_reducible rfl)
                  try simp only [Act.put, List.setIfInBounds_toArray, List.set_cons_zero, List.set_cons_succ]
                  refine anyE_takeL 7 rfl (by kernel_rfl) (fun _ _ _ h => h) hS (by rfl) (v := ?_) ?_ ?_
                  rotate_left
                  · intro w' hSw; (try dsimp only at hSw); go_simp; (try with_reducible rfl)
                  try simp only [Act.put, List.setIfInBounds_toArray, List.set_cons_zero, List.set_cons_succ]
                  refine anyE_takeL 8 rfl (by kernel_rfl) (fun _ _ _ h => h) hS (by rfl) (v := ?_) ?_ ?_
                  rotate_left
                  · intro w' hSw; (try dsimp only at hSw); go_simp; (try with_reducible rfl)
                  try simp only [Act.put, List.setIfInBounds_toArray, List.set_cons_zero, List.set_cons_succ]
                  refine anyE_takeL 9 rfl (by kernel_rfl) (fun _ _ _ h => h) hS (by rfl) (v := ?_) ?_ ?_
                  rotate_left
                  · intro w' hSw; (try dsimp only at hSw); go_simp; (try with_reducible rfl)
                  try simp only [Act.put, List.setIfInBounds_toArray, List.set_cons_zero, List.set_cons_succ]
                  refine anyE_takeL 10 rfl (by kernel_rfl) (fun _ _ _ h => h) hS (by rfl) (v := ?_) ?_ ?_
                  rotate_left
                  · intro w' hSw; (try dsimp only at hSw); go_simp; (try with_reducible rfl)
                  try simp only [Act.put, List.setIfInBounds_toArray, List.set_cons_zero, List.set_cons_succ]
                  refine anyE_takeL 11 rfl (by kernel_rfl) (fun _ _ _ h => h) hS (by rfl) (v := ?_) ?_ ?_
                  rotate_left
                  · intro w' hSw; (try dsimp only at hSw); go_simp; (try with_reducible rfl)
                  try simp only [Act.put, List.setIfInBounds_toArray, List.set_cons_zero, List.set_cons_succ]
                  refine anyE_takeL 12 rfl (by kernel_rfl) (fun _ _ _ h => h) hS (by rfl) (v := ?_) ?_ ?_
                  rotate_left
                  · intro w' hSw; (try dsimp only at hSw); go_simp; (try with_reducible rfl)
                  try simp only [Act.put, List.setIfInBounds_toArray, List.set_cons_zero, List.set_cons_succ]
                  refine anyE_takeL 13 rfl (by kernel_rfl) (fun _ _ _ h => h) hS (by rfl) (v := ?_) ?_ ?_
                  rotate_left
                  · intro w' hSw; (try dsimp only at hSw); go_simp; (try with_reducible rfl)
                  try simp only [Act.put, List.setIfInBounds_toArray, List.set_cons_zero, List.set_cons_succ]
                  replace yc := fr_be hbd zc yc
                  replace zc := cell_be hbd zc
                  have HIn := (HIx.out.put (h + 1) (R + X)).below (Below.refl _ _).drew
                  rw [show (addAt cntP (row) (h - 1) X).set (h + 1) (R + X) = addAt cntP (addAt cntP (row) (h - 1) X) (h + 1) X from by rw [← w3.out]; exact ad_at cntP _ _ _ R HR.out] at HIn
                  have HIm := hide HIn
                  have hzd : w.heap.size < (wb.setCell ⟨gN, (h + 1), none⟩ (.int .i64 (R + X))).drew.heap.size := by simp; omega
                  refine anyE_lastL (by kernel_rfl) rfl (by kernel_rfl) (fun K' hK' => ?_)
                  go_simp
                  refine hK'.out _ _ ?_
                  clear hK' K' hS HIn zc yc rc xc w1 w3 hbd HIx HR
                  try simp only [Act.put, List.setIfInBounds_toArray, List.set_cons_zero, List.set_cons_succ]
                  obtain ⟨wd, hwn⟩ : ∃ wn, wn = (wb.setCell ⟨gN, (h + 1), none⟩ (.int .i64 (R + X))).drew := ⟨_, rfl⟩
                  rw [← hwn] at HIm hzd ⊢
                  have HIx := HIm
                  replace Hrr := hide (rngL_add (p := cntP) (by decide) Hrr.out (h + 1) X)
                  replace Hrl := hide (show (addAt cntP (addAt cntP (row) (h - 1) X) (h + 1) X).length = m by rw [addAt_len, Hrl.out])
                  clear HIm hwn hzx
                  have hzx := hzd
                  clear hzd
                  clear u2 u3 u4 u5
                  have HIz := hide (show CntI w wd g gN v (rndsP cntP A B v (h + 1)) by
                    rw [HN2.out]
                    exact HIx.out)
                  clear HIx Hrr Hrl HN2 Hm2
                  go_wp2
                  go_roundw
                  case rel => exact ⟨h + 1, by omega, by go_num, HIz, hzx⟩
                  case measure => simp [intOf]; omega
              · cases lb
                · have HN2 := hide (show rndsP cntP A B v (h + 1) = addAt cntP (rndD cntP B v (addAt cntP row h X) h) (h + 1) X by have q := HNr.out; rwa [show lvl false = 1 from rfl, Int.one_mul] at q)
                  have Hm2 := hide (show row.getD h 0 + X < cntP ∧ (h ≠ 0 → (addAt cntP row h X).getD (h - 1) 0 + X < cntP) ∧ (rndD cntP B v (addAt cntP row h X) h).getD (h + 1) 0 + X < cntP by have q := Hmid.out; rwa [show lvl false = 1 from rfl, Int.one_mul] at q)
                  clear Hmid HNr
                  have zc := HIx.out.new.cell h (by rw [Hrl.out]; omega)
                  have yc := HIx.out.new.free h
                  have rc := Hrr.out h
                  have bc : (row).getD h 0 + X < cntP := Hm2.out.1
                  obtain ⟨R, hR⟩ : ∃ R, (row).getD h 0 = R := ⟨_, rfl⟩
                  rw [hR] at zc rc bc
                  have HR := hide hR
                  have xc := HIx.out.old.cell h (by rw [Hvl.out]; exact hhm)
                  rw [HX.out] at xc
                  have w1 : IntKind.i64.wrap (R + X) = R + X := IntWalk.i64_in _ (by unfold cntP at bc; omega)
                  have hbd := (Below.refl wr.heap.size wr).drew
                  have w3 := hide (show (R + X) % cntP = R + X from Int.emod_eq_of_lt (by omega) bc)
                  clear hR bc
                  go_upto_region 11 with fail
                  refine region_E (fun w' => w'.cell? ⟨gN, h, none⟩ = some (.int .i64 R) ∧ w'.cell? ⟨g, h, none⟩ = some (.int .i64 X)) 12 (by kernel_rfl) ⟨cell_be hbd zc, cell_be hbd xc⟩ ?_
                  intro hS
                  refine anyE_takeL 0 rfl (by kernel_rfl) (fun _ _ _ h => h) hS (by rfl) (v := ?_) ?_ ?_
                  rotate_left
                  · intro w' hSw; (try dsimp only at hSw); go_simp; (try with_reducible rfl)
                  try simp only [Act.put, List.setIfInBounds_toArray, List.set_cons_zero, List.set_cons_succ]
                  refine anyE_takeL 1 rfl (by kernel_rfl) (fun _ _ _ h => h) hS (by rfl) (v := ?_) ?_ ?_
                  rotate_left
                  · intro w' hSw; (try dsimp only at hSw); go_simp; (try with_reducible rfl)
                  try simp only [Act.put, List.setIfInBounds_toArray, List.set_cons_zero, List.set_cons_succ]
                  refine anyE_takeL 2 rfl (by kernel_rfl) (fun _ _ _ h => h) hS (by rfl) (v := ?_) ?_ ?_
                  rotate_left
                  · intro w' hSw; (try dsimp only at hSw); go_simp; (try with_reducible rfl)
                  try simp only [Act.put, List.setIfInBounds_toArray, List.set_cons_zero, List.set_cons_succ]
                  refine anyE_takeL 3 rfl (by kernel_rfl) (fun _ _ _ h => h) hS (by rfl) (v := ?_) ?_ ?_
                  rotate_left
                  · intro w' hSw; (try dsimp only at hSw); go_simp; (try with_reducible rfl)
                  try simp only [Act.put, List.setIfInBounds_toArray, List.set_cons_zero, List.set_cons_succ]
                  refine anyE_takeL 4 rfl (by kernel_rfl) (fun _ _ _ h => h) hS (by rfl) (v := ?_) ?_ ?_
                  rotate_left
                  · intro w' hSw; (try dsimp only at hSw); go_simp; (try with_reducible rfl)
                  try simp only [Act.put, List.setIfInBounds_toArray, List.set_cons_zero, List.set_cons_succ]
                  refine anyE_takeL 5 rfl (by kernel_rfl) (fun _ _ _ h => h) hS (by rfl) (v := ?_) ?_ ?_
                  rotate_left
                  · intro w' hSw; (try dsimp only at hSw); go_simp; (try with_reducible rfl)
                  try simp only [Act.put, List.setIfInBounds_toArray, List.set_cons_zero, List.set_cons_succ]
                  refine anyE_takeL 6 rfl (by kernel_rfl) (fun _ _ _ h => h) hS (by rfl) (v := ?_) ?_ ?_
                  rotate_left
                  · intro w' hSw; (try dsimp only at hSw); go_simp; (try with_reducible rfl)
                  try simp only [Act.put, List.setIfInBounds_toArray, List.set_cons_zero, List.set_cons_succ]
                  refine anyE_takeL 7 rfl (by kernel_rfl) (fun _ _ _ h => h) hS (by rfl) (v := ?_) ?_ ?_
                  rotate_left
                  · intro w' hSw; (try dsimp only at hSw); go_simp; (try with_reducible rfl)
                  try simp only [Act.put, List.setIfInBounds_toArray, List.set_cons_zero, List.set_cons_succ]
                  refine anyE_takeL 8 rfl (by kernel_rfl) (fun _ _ _ h => h) hS (by rfl) (v := ?_) ?_ ?_
                  rotate_left
                  · intro w' hSw; (try dsimp only at hSw); go_simp; (try with_reducible rfl)
                  try simp only [Act.put, List.setIfInBounds_toArray, List.set_cons_zero, List.set_cons_succ]
                  refine anyE_takeL 9 rfl (by kernel_rfl) (fun _ _ _ h => h) hS (by rfl) (v := ?_) ?_ ?_
                  rotate_left
                  · intro w' hSw; (try dsimp only at hSw); go_simp; (try with_reducible rfl)
                  try simp only [Act.put, List.setIfInBounds_toArray, List.set_cons_zero, List.set_cons_succ]
                  refine anyE_takeL 10 rfl (by kernel_rfl) (fun _ _ _ h => h) hS (by rfl) (v := ?_) ?_ ?_
                  rotate_left
                  · intro w' hSw; (try dsimp only at hSw); go_simp; (try with_reducible rfl)
                  try simp only [Act.put, List.setIfInBounds_toArray, List.set_cons_zero, List.set_cons_succ]
                  refine anyE_takeL 11 rfl (by kernel_rfl) (fun _ _ _ h => h) hS (by rfl) (v := ?_) ?_ ?_
                  rotate_left
                  · intro w' hSw; (try dsimp only at hSw); go_simp; (try with_reducible rfl)
                  try simp only [Act.put, List.setIfInBounds_toArray, List.set_cons_zero, List.set_cons_succ]
                  replace yc := fr_be hbd zc yc
                  replace zc := cell_be hbd zc
                  have HIn := (HIx.out.put h (R + X)).below (Below.refl _ _).drew
                  rw [show (row).set h (R + X) = addAt cntP row h X from by rw [← w3.out]; exact ad_at cntP _ _ _ R HR.out] at HIn
                  have HIm := hide HIn
                  have hzd : w.heap.size < (wr.setCell ⟨gN, h, none⟩ (.int .i64 (R + X))).drew.heap.size := by simp; omega
                  refine anyE_lastL (by kernel_rfl) rfl (by kernel_rfl) (fun K' hK' => ?_)
                  go_simp
                  refine hK'.out _ _ ?_
                  clear hK' K' hS HIn zc yc rc xc w1 w3 hbd HIx HR
                  try simp only [Act.put, List.setIfInBounds_toArray, List.set_cons_zero, List.set_cons_succ]
                  obtain ⟨wa, hwn⟩ : ∃ wn, wn = (wr.setCell ⟨gN, h, none⟩ (.int .i64 (R + X))).drew := ⟨_, rfl⟩
                  rw [← hwn] at HIm hzd ⊢
                  have HIx := HIm
                  replace Hrr := hide (rngL_add (p := cntP) (by decide) Hrr.out h X)
                  replace Hrl := hide (show (addAt cntP row h X).length = m by rw [addAt_len, Hrl.out])
                  clear HIm hwn hzx
                  have hzx := hzd
                  clear hzd
                  have d1 : (0 : Int) < (h : Int) := by have := Hd.out; omega
                  have d2 : 1 ≤ (h : Int) := by omega
                  have d3 : (0 : Int) ≤ (h : Int) - 1 := by omega
                  have d4 : (h : Int) - 1 < (m : Int) := by omega
                  have d5 : ((h : Int) - 1).toNat = h - 1 := by omega
                  have d6 : IntKind.i64.wrap ((h : Int) - 1) = (h : Int) - 1 := IntWalk.i64_in _ (by omega)
                  rw [HD1.out Hd.out] at HN2 Hm2
                  have zc := HIx.out.new.cell (h - 1) (by rw [Hrl.out]; omega)
                  have yc := HIx.out.new.free (h - 1)
                  have rc := Hrr.out (h - 1)
                  have bc : (addAt cntP row h X).getD (h - 1) 0 + X < cntP := Hm2.out.2.1 Hd.out
                  obtain ⟨R, hR⟩ : ∃ R, (addAt cntP row h X).getD (h - 1) 0 = R := ⟨_, rfl⟩
                  rw [hR] at zc rc bc
                  have HR := hide hR
                  have xc := HIx.out.old.cell h (by rw [Hvl.out]; exact hhm)
                  rw [HX.out] at xc
                  have w1 : IntKind.i64.wrap (R + X) = R + X := IntWalk.i64_in _ (by unfold cntP at bc; omega)
                  have hbd := (Below.refl wa.heap.size wa).drew
                  have w3 := hide (show (R + X) % cntP = R + X from Int.emod_eq_of_lt (by omega) bc)
                  clear hR bc
                  go_upto_region 13 with fail
                  refine region_E (fun w' => w'.cell? ⟨gN, (h - 1), none⟩ = some (.int .i64 R) ∧ w'.cell? ⟨g, h, none⟩ = some (.int .i64 X)) 14 (by kernel_rfl) ⟨cell_be hbd zc, cell_be hbd xc⟩ ?_
                  intro hS
                  refine anyE_takeL 0 rfl (by kernel_rfl) (fun _ _ _ h => h) hS (by rfl) (v := ?_) ?_ ?_
                  rotate_left
                  · intro w' hSw; (try dsimp only at hSw); go_simp; (try with_reducible rfl)
                  try simp only [Act.put, List.setIfInBounds_toArray, List.set_cons_zero, List.set_cons_succ]
                  refine anyE_takeL 1 rfl (by kernel_rfl) (fun _ _ _ h => h) hS (by rfl) (v := ?_) ?_ ?_
                  rotate_left
                  · intro w' hSw; (try dsimp only at hSw); go_simp; (try with_reducible rfl)
                  try simp only [Act.put, List.setIfInBounds_toArray, List.set_cons_zero, List.set_cons_succ]
                  refine anyE_takeL 2 rfl (by kernel_rfl) (fun _ _ _ h => h) hS (by rfl) (v := ?_) ?_ ?_
                  rotate_left
                  · intro w' hSw; (try dsimp only at hSw); go_simp; (try with_reducible rfl)
                  try simp only [Act.put, List.setIfInBounds_toArray, List.set_cons_zero, List.set_cons_succ]
                  refine anyE_takeL 3 rfl (by kernel_rfl) (fun _ _ _ h => h) hS (by rfl) (v := ?_) ?_ ?_
                  rotate_left
                  · intro w' hSw; (try dsimp only at hSw); go_simp; (try with_reducible rfl)
                  try simp only [Act.put, List.setIfInBounds_toArray, List.set_cons_zero, List.set_cons_succ]
                  refine anyE_takeL 4 rfl (by kernel_rfl) (fun _ _ _ h => h) hS (by rfl) (v := ?_) ?_ ?_
                  rotate_left
                  · intro w' hSw; (try dsimp only at hSw); go_simp; (try with_reducible rfl)
                  try simp only [Act.put, List.setIfInBounds_toArray, List.set_cons_zero, List.set_cons_succ]
                  refine anyE_takeL 5 rfl (by kernel_rfl) (fun _ _ _ h => h) hS (by rfl) (v := ?_) ?_ ?_
                  rotate_left
                  · intro w' hSw; (try dsimp only at hSw); go_simp; (try with_reducible rfl)
                  try simp only [Act.put, List.setIfInBounds_toArray, List.set_cons_zero, List.set_cons_succ]
                  refine anyE_takeL 6 rfl (by kernel_rfl) (fun _ _ _ h => h) hS (by rfl) (v := ?_) ?_ ?_
                  rotate_left
                  · intro w' hSw; (try dsimp only at hSw); go_simp; (try with_reducible rfl)
                  try simp only [Act.put, List.setIfInBounds_toArray, List.set_cons_zero, List.set_cons_succ]
                  refine anyE_takeL 7 rfl (by kernel_rfl) (fun _ _ _ h => h) hS (by rfl) (v := ?_) ?_ ?_
                  rotate_left
                  · intro w' hSw; (try dsimp only at hSw); go_simp; (try with_reducible rfl)
                  try simp only [Act.put, List.setIfInBounds_toArray, List.set_cons_zero, List.set_cons_succ]
                  refine anyE_takeL 8 rfl (by kernel_rfl) (fun _ _ _ h => h) hS (by rfl) (v := ?_) ?_ ?_
                  rotate_left
                  · intro w' hSw; (try dsimp only at hSw); go_simp; (try with_reducible rfl)
                  try simp only [Act.put, List.setIfInBounds_toArray, List.set_cons_zero, List.set_cons_succ]
                  refine anyE_takeL 9 rfl (by kernel_rfl) (fun _ _ _ h => h) hS (by rfl) (v := ?_) ?_ ?_
                  rotate_left
                  · intro w' hSw; (try dsimp only at hSw); go_simp; (try with_reducible rfl)
                  try simp only [Act.put, List.setIfInBounds_toArray, List.set_cons_zero, List.set_cons_succ]
                  refine anyE_takeL 10 rfl (by kernel_rfl) (fun _ _ _ h => h) hS (by rfl) (v := ?_) ?_ ?_
                  rotate_left
                  · intro w' hSw; (try dsimp only at hSw); go_simp; (try with_reducible rfl)
                  try simp only [Act.put, List.setIfInBounds_toArray, List.set_cons_zero, List.set_cons_succ]
                  refine anyE_takeL 11 rfl (by kernel_rfl) (fun _ _ _ h => h) hS (by rfl) (v := ?_) ?_ ?_
                  rotate_left
                  · intro w' hSw; (try dsimp only at hSw); go_simp; (try with_reducible rfl)
                  try simp only [Act.put, List.setIfInBounds_toArray, List.set_cons_zero, List.set_cons_succ]
                  refine anyE_takeL 12 rfl (by kernel_rfl) (fun _ _ _ h => h) hS (by rfl) (v := ?_) ?_ ?_
                  rotate_left
                  · intro w' hSw; (try dsimp only at hSw); go_simp; (try with_reducible rfl)
                  try simp only [Act.put, List.setIfInBounds_toArray, List.set_cons_zero, List.set_cons_succ]
                  refine anyE_takeL 13 rfl (by kernel_rfl) (fun _ _ _ h => h) hS (by rfl) (v := ?_) ?_ ?_
                  rotate_left
                  · intro w' hSw; (try dsimp only at hSw); go_simp; (try with_reducible rfl)
                  try simp only [Act.put, List.setIfInBounds_toArray, List.set_cons_zero, List.set_cons_succ]
                  replace yc := fr_be hbd zc yc
                  replace zc := cell_be hbd zc
                  have HIn := (HIx.out.put (h - 1) (R + X)).below (Below.refl _ _).drew
                  rw [show (addAt cntP row h X).set (h - 1) (R + X) = addAt cntP (addAt cntP row h X) (h - 1) X from by rw [← w3.out]; exact ad_at cntP _ _ _ R HR.out] at HIn
                  have HIm := hide HIn
                  have hzd : w.heap.size < (wa.setCell ⟨gN, (h - 1), none⟩ (.int .i64 (R + X))).drew.heap.size := by simp; omega
                  refine anyE_lastL (by kernel_rfl) rfl (by kernel_rfl) (fun K' hK' => ?_)
                  go_simp
                  refine hK'.out _ _ ?_
                  clear hK' K' hS HIn zc yc rc xc w1 w3 hbd HIx HR
                  try simp only [Act.put, List.setIfInBounds_toArray, List.set_cons_zero, List.set_cons_succ]
                  obtain ⟨wb, hwn⟩ : ∃ wn, wn = (wa.setCell ⟨gN, (h - 1), none⟩ (.int .i64 (R + X))).drew := ⟨_, rfl⟩
                  rw [← hwn] at HIm hzd ⊢
                  have HIx := HIm
                  replace Hrr := hide (rngL_add (p := cntP) (by decide) Hrr.out (h - 1) X)
                  replace Hrl := hide (show (addAt cntP (addAt cntP row h X) (h - 1) X).length = m by rw [addAt_len, Hrl.out])
                  clear HIm hwn hzx
                  have hzx := hzd
                  clear hzd
                  clear d1 d2 d3 d4 d5 d6
                  have u2 : ¬ (h : Int) < (M : Int) := by have := Hm.out; omega
                  have HIz := hide (show CntI w wb g gN v (rndsP cntP A B v (h + 1)) by
                    rw [HN2.out]
                    rw [addAt_out cntP _ (h + 1) X (by rw [Hrl.out]; omega)]
                    exact HIx.out)
                  clear HIx Hrr Hrl HN2 Hm2
                  go_wp2
                  go_roundw
                  case rel => exact ⟨h + 1, by omega, by go_num, HIz, hzx⟩
                  case measure => simp [intOf]; omega
                · have HN2 := hide (show rndsP cntP A B v (h + 1) = addAt cntP (rndD cntP B v row h) (h + 1) X by have q := HNr.out; rwa [show lvl true = 0 from rfl, Int.zero_mul, addAt_nil Hrr.out] at q)
                  have Hm2 := hide (show row.getD h 0 + 0 * X < cntP ∧ (h ≠ 0 → row.getD (h - 1) 0 + X < cntP) ∧ (rndD cntP B v row h).getD (h + 1) 0 + X < cntP by have q := Hmid.out; rwa [show lvl true = 0 from rfl, show addAt cntP row h (0 * X) = row by rw [Int.zero_mul]; exact addAt_nil Hrr.out h] at q)
                  clear Hmid HNr
                  have d1 : (0 : Int) < (h : Int) := by have := Hd.out; omega
                  have d2 : 1 ≤ (h : Int) := by omega
                  have d3 : (0 : Int) ≤ (h : Int) - 1 := by omega
                  have d4 : (h : Int) - 1 < (m : Int) := by omega
                  have d5 : ((h : Int) - 1).toNat = h - 1 := by omega
                  have d6 : IntKind.i64.wrap ((h : Int) - 1) = (h : Int) - 1 := IntWalk.i64_in _ (by omega)
                  rw [HD1.out Hd.out] at HN2 Hm2
                  have zc := HIx.out.new.cell (h - 1) (by rw [Hrl.out]; omega)
                  have yc := HIx.out.new.free (h - 1)
                  have rc := Hrr.out (h - 1)
                  have bc : (row).getD (h - 1) 0 + X < cntP := Hm2.out.2.1 Hd.out
                  obtain ⟨R, hR⟩ : ∃ R, (row).getD (h - 1) 0 = R := ⟨_, rfl⟩
                  rw [hR] at zc rc bc
                  have HR := hide hR
                  have xc := HIx.out.old.cell h (by rw [Hvl.out]; exact hhm)
                  rw [HX.out] at xc
                  have w1 : IntKind.i64.wrap (R + X) = R + X := IntWalk.i64_in _ (by unfold cntP at bc; omega)
                  have hbd := (Below.refl wr.heap.size wr).drew
                  have w3 := hide (show (R + X) % cntP = R + X from Int.emod_eq_of_lt (by omega) bc)
                  clear hR bc
                  go_upto_region 13 with fail
                  refine region_E (fun w' => w'.cell? ⟨gN, (h - 1), none⟩ = some (.int .i64 R) ∧ w'.cell? ⟨g, h, none⟩ = some (.int .i64 X)) 14 (by kernel_rfl) ⟨cell_be hbd zc, cell_be hbd xc⟩ ?_
                  intro hS
                  refine anyE_takeL 0 rfl (by kernel_rfl) (fun _ _ _ h => h) hS (by rfl) (v := ?_) ?_ ?_
                  rotate_left
                  · intro w' hSw; (try dsimp only at hSw); go_simp; (try with_reducible rfl)
                  try simp only [Act.put, List.setIfInBounds_toArray, List.set_cons_zero, List.set_cons_succ]
                  refine anyE_takeL 1 rfl (by kernel_rfl) (fun _ _ _ h => h) hS (by rfl) (v := ?_) ?_ ?_
                  rotate_left
                  · intro w' hSw; (try dsimp only at hSw); go_simp; (try with_reducible rfl)
                  try simp only [Act.put, List.setIfInBounds_toArray, List.set_cons_zero, List.set_cons_succ]
                  refine anyE_takeL 2 rfl (by kernel_rfl) (fun _ _ _ h => h) hS (by rfl) (v := ?_) ?_ ?_
                  rotate_left
                  · intro w' hSw; (try dsimp only at hSw); go_simp; (try with_reducible rfl)
                  try simp only [Act.put, List.setIfInBounds_toArray, List.set_cons_zero, List.set_cons_succ]
                  refine anyE_takeL 3 rfl (by kernel_rfl) (fun _ _ _ h => h) hS (by rfl) (v := ?_) ?_ ?_
                  rotate_left
                  · intro w' hSw; (try dsimp only at hSw); go_simp; (try with_reducible rfl)
                  try simp only [Act.put, List.setIfInBounds_toArray, List.set_cons_zero, List.set_cons_succ]
                  refine anyE_takeL 4 rfl (by kernel_rfl) (fun _ _ _ h => h) hS (by rfl) (v := ?_) ?_ ?_
                  rotate_left
                  · intro w' hSw; (try dsimp only at hSw); go_simp; (try with_reducible rfl)
                  try simp only [Act.put, List.setIfInBounds_toArray, List.set_cons_zero, List.set_cons_succ]
                  refine anyE_takeL 5 rfl (by kernel_rfl) (fun _ _ _ h => h) hS (by rfl) (v := ?_) ?_ ?_
                  rotate_left
                  · intro w' hSw; (try dsimp only at hSw); go_simp; (try with_reducible rfl)
                  try simp only [Act.put, List.setIfInBounds_toArray, List.set_cons_zero, List.set_cons_succ]
                  refine anyE_takeL 6 rfl (by kernel_rfl) (fun _ _ _ h => h) hS (by rfl) (v := ?_) ?_ ?_
                  rotate_left
                  · intro w' hSw; (try dsimp only at hSw); go_simp; (try with_reducible rfl)
                  try simp only [Act.put, List.setIfInBounds_toArray, List.set_cons_zero, List.set_cons_succ]
                  refine anyE_takeL 7 rfl (by kernel_rfl) (fun _ _ _ h => h) hS (by rfl) (v := ?_) ?_ ?_
                  rotate_left
                  · intro w' hSw; (try dsimp only at hSw); go_simp; (try with_reducible rfl)
                  try simp only [Act.put, List.setIfInBounds_toArray, List.set_cons_zero, List.set_cons_succ]
                  refine anyE_takeL 8 rfl (by kernel_rfl) (fun _ _ _ h => h) hS (by rfl) (v := ?_) ?_ ?_
                  rotate_left
                  · intro w' hSw; (try dsimp only at hSw); go_simp; (try with_reducible rfl)
                  try simp only [Act.put, List.setIfInBounds_toArray, List.set_cons_zero, List.set_cons_succ]
                  refine anyE_takeL 9 rfl (by kernel_rfl) (fun _ _ _ h => h) hS (by rfl) (v := ?_) ?_ ?_
                  rotate_left
                  · intro w' hSw; (try dsimp only at hSw); go_simp; (try with_reducible rfl)
                  try simp only [Act.put, List.setIfInBounds_toArray, List.set_cons_zero, List.set_cons_succ]
                  refine anyE_takeL 10 rfl (by kernel_rfl) (fun _ _ _ h => h) hS (by rfl) (v := ?_) ?_ ?_
                  rotate_left
                  · intro w' hSw; (try dsimp only at hSw); go_simp; (try with_reducible rfl)
                  try simp only [Act.put, List.setIfInBounds_toArray, List.set_cons_zero, List.set_cons_succ]
                  refine anyE_takeL 11 rfl (by kernel_rfl) (fun _ _ _ h => h) hS (by rfl) (v := ?_) ?_ ?_
                  rotate_left
                  · intro w' hSw; (try dsimp only at hSw); go_simp; (try with_reducible rfl)
                  try simp only [Act.put, List.setIfInBounds_toArray, List.set_cons_zero, List.set_cons_succ]
                  refine anyE_takeL 12 rfl (by kernel_rfl) (fun _ _ _ h => h) hS (by rfl) (v := ?_) ?_ ?_
                  rotate_left
                  · intro w' hSw; (try dsimp only at hSw); go_simp; (try with_reducible rfl)
                  try simp only [Act.put, List.setIfInBounds_toArray, List.set_cons_zero, List.set_cons_succ]
                  refine anyE_takeL 13 rfl (by kernel_rfl) (fun _ _ _ h => h) hS (by rfl) (v := ?_) ?_ ?_
                  rotate_left
                  · intro w' hSw; (try dsimp only at hSw); go_simp; (try with_reducible rfl)
                  try simp only [Act.put, List.setIfInBounds_toArray, List.set_cons_zero, List.set_cons_succ]
                  replace yc := fr_be hbd zc yc
                  replace zc := cell_be hbd zc
                  have HIn := (HIx.out.put (h - 1) (R + X)).below (Below.refl _ _).drew
                  rw [show (row).set (h - 1) (R + X) = addAt cntP (row) (h - 1) X from by rw [← w3.out]; exact ad_at cntP _ _ _ R HR.out] at HIn
                  have HIm := hide HIn
                  have hzd : w.heap.size < (wr.setCell ⟨gN, (h - 1), none⟩ (.int .i64 (R + X))).drew.heap.size := by simp; omega
                  refine anyE_lastL (by kernel_rfl) rfl (by kernel_rfl) (fun K' hK' => ?_)
                  go_simp
                  refine hK'.out _ _ ?_
                  clear hK' K' hS HIn zc yc rc xc w1 w3 hbd HIx HR
                  try simp only [Act.put, List.setIfInBounds_toArray, List.set_cons_zero, List.set_cons_succ]
                  obtain ⟨wb, hwn⟩ : ∃ wn, wn = (wr.setCell ⟨gN, (h - 1), none⟩ (.int .i64 (R + X))).drew := ⟨_, rfl⟩
                  rw [← hwn] at HIm hzd ⊢
                  have HIx := HIm
                  replace Hrr := hide (rngL_add (p := cntP) (by decide) Hrr.out (h - 1) X)
                  replace Hrl := hide (show (addAt cntP (row) (h - 1) X).length = m by rw [addAt_len, Hrl.out])
                  clear HIm hwn hzx
                  have hzx := hzd
                  clear hzd
                  clear d1 d2 d3 d4 d5 d6
                  have u2 : ¬ (h : Int) < (M : Int) := by have := Hm.out; omega
                  have HIz := hide (show CntI w wb g gN v (rndsP cntP A B v (h + 1)) by
                    rw [HN2.out]
                    rw [addAt_out cntP _ (h + 1) X (by rw [Hrl.out]; omega)]
                    exact HIx.out)
                  clear HIx Hrr Hrl HN2 Hm2
                  go_wp2
                  go_roundw
                  case rel => exact ⟨h + 1, by omega, by go_num, HIz, hzx⟩
                  case measure => simp [intOf]; omega
          · have hhe : Hid (h = m) := hide (by omega)
            have hge : ¬ (h : Int) ≤ (M : Int) := by have := Hm.out; omega
            have Y1 := hide (show RowI wr gN (rowP cntP A B m i (t + 1)) by rw [HNx.out, ← hhe.out]; exact HIx.out.new)
            have Y3 := hide HIx.out.bel
            have Y4 := HIx.out.lN
            clear HIx
            go_wp2
            go_roundw
            case rel => exact ⟨t + 1, gN, by omega, (by rw [show ((N - t : Nat) : Int) - 1 = ((N - (t + 1) : Nat) : Int) by omega]), rfl, Y1, Y3, Y4, hzx⟩
            case measure => simp [intOf]; omega
      · have htN : Hid (t = N) := hide (by omega)
        have hge : ¬ (0 : Int) < ((N - t : Nat) : Int) := by omega
        go_wp2
        go_ret
        have z := hR.out
        rw [htN.out] at z
        have o := z.own' (B := w.heap.size) (by omega) (by rw [rowP_len]; unfold maxLen; omega)
        rw [rowP_len] at o
        exact ⟨_, rfl, o, hW.out⟩
end Go.Proofs.Ytcadiepghhnbeaa
