/- Merged texts. -/
import Derived.Test.YthahcnmfaghohaaYTC33
import Derived.Test.YthahcnmfaghohaaYTC32
/- Contracts: l09Given, l09Count, CountPaths, CountLevelPaths, BallotNumber (model). -/
namespace Go.Proofs.Ythahcnmfaghohaa
open Go.RowKit
set_option linter.unusedVariables false
set_option linter.unusedSimpArgs false

theorem are4b (n i k h : Int) : areB 25 [n, i, k, h] = true ↔ (0 ≤ n ∧ n ≤ 24) ∧ (0 ≤ i ∧ i ≤ 24) ∧ (0 ≤ k ∧ k ≤ 24) ∧ (0 ≤ h ∧ h ≤ 24) := by
  refine ⟨are4, fun H => ?_⟩
  simp [areB, okN]
  omega
set_option maxHeartbeats 1600000 in
theorem l09Given_any (n i k h : Int) (w : World) :
    Calls Try.prog 34 #[.int .i64 n, .int .i64 i, .int .i64 k, .int .i64 h] w fun e w' => e = .returned (.bool (areB 25 [n, i, k, h])) ∧ w = w' := by
  by_cases h1 : 0 ≤ n ∧ n ≤ 24
  rotate_left
  · have H := hide (show areB 25 [n, i, k, h] = false by rw [Bool.eq_false_iff]; intro e; exact h1 (are4 e).1)
    have H1 := hide h1
    clear h1
    go_enter Try.func34, Try.ntmps34
    go_wp2_with (go_at_call 31; refine (l01In_no _ _ _ _ H1.out).mono ?_; rintro e w1 ⟨rfl, rfl⟩)
    go_ret
    exact ⟨ret_bool H.out.symm, rfl⟩
  by_cases h2 : 0 ≤ i ∧ i ≤ 24
  rotate_left
  · have H := hide (show areB 25 [n, i, k, h] = false by rw [Bool.eq_false_iff]; intro e; exact h2 (are4 e).2.1)
    have H1 := hide h1
    have H2 := hide h2
    clear h1 h2
    go_enter Try.func34, Try.ntmps34
    go_wp2_with fail
    refine (l01In_yes _ _ _ _ H1.out.1 H1.out.2).mono ?_
    rintro e w1 ⟨rfl, rfl⟩
    go_wp2_with fail
    refine (l01In_no _ _ _ _ H2.out).mono ?_
    rintro e w1 ⟨rfl, rfl⟩
    go_wp2
    go_ret
    exact ⟨ret_bool H.out.symm, rfl⟩
  by_cases h3 : 0 ≤ k ∧ k ≤ 24
  rotate_left
  · have H := hide (show areB 25 [n, i, k, h] = false by rw [Bool.eq_false_iff]; intro e; exact h3 (are4 e).2.2.1)
    have H1 := hide h1
    have H2 := hide h2
    have H3 := hide h3
    clear h1 h2 h3
    go_enter Try.func34, Try.ntmps34
    go_wp2_with fail
    refine (l01In_yes _ _ _ _ H1.out.1 H1.out.2).mono ?_
    rintro e w1 ⟨rfl, rfl⟩
    go_wp2_with fail
    refine (l01In_yes _ _ _ _ H2.out.1 H2.out.2).mono ?_
    rintro e w1 ⟨rfl, rfl⟩
    go_wp2_with fail
    refine (l01In_no _ _ _ _ H3.out).mono ?_
    rintro e w1 ⟨rfl, rfl⟩
    go_wp2
    go_ret
    exact ⟨ret_bool H.out.symm, rfl⟩
  have H1 := hide h1
  have H2 := hide h2
  have H3 := hide h3
  by_cases h4 : 0 ≤ h ∧ h ≤ 24
  · have H := hide (show areB 25 [n, i, k, h] = true from (are4b n i k h).2 ⟨h1, h2, h3, h4⟩)
    have H4 := hide h4
    clear h1 h2 h3 h4
    go_enter Try.func34, Try.ntmps34
    go_wp2_with fail
    refine (l01In_yes _ _ _ _ H1.out.1 H1.out.2).mono ?_
    rintro e w1 ⟨rfl, rfl⟩
    go_wp2_with fail
    refine (l01In_yes _ _ _ _ H2.out.1 H2.out.2).mono ?_
    rintro e w1 ⟨rfl, rfl⟩
    go_wp2_with fail
    refine (l01In_yes _ _ _ _ H3.out.1 H3.out.2).mono ?_
    rintro e w1 ⟨rfl, rfl⟩
    go_wp2_with fail
    refine (l01In_yes _ _ _ _ H4.out.1 H4.out.2).mono ?_
    rintro e w1 ⟨rfl, rfl⟩
    go_wp2
    go_ret
    exact ⟨ret_bool H.out.symm, rfl⟩
  · have H := hide (show areB 25 [n, i, k, h] = false by rw [Bool.eq_false_iff]; intro e; exact h4 (are4 e).2.2.2)
    have H4 := hide h4
    clear h1 h2 h3 h4
    go_enter Try.func34, Try.ntmps34
    go_wp2_with fail
    refine (l01In_yes _ _ _ _ H1.out.1 H1.out.2).mono ?_
    rintro e w1 ⟨rfl, rfl⟩
    go_wp2_with fail
    refine (l01In_yes _ _ _ _ H2.out.1 H2.out.2).mono ?_
    rintro e w1 ⟨rfl, rfl⟩
    go_wp2_with fail
    refine (l01In_yes _ _ _ _ H3.out.1 H3.out.2).mono ?_
    rintro e w1 ⟨rfl, rfl⟩
    go_wp2_with fail
    refine (l01In_no _ _ _ _ H4.out).mono ?_
    rintro e w1 ⟨rfl, rfl⟩
    go_wp2
    go_ret
    exact ⟨ret_bool H.out.symm, rfl⟩
set_option maxRecDepth 100000 in
set_option maxHeartbeats 1600000 in
theorem l09Count_any (N I K M : Nat) (lb : Bool) (w : World) (hN : N ≤ 24) (hI : I ≤ 24) (hK : K ≤ 24) (hM : M ≤ 24) :
    Calls Try.prog 35 #[.int .i64 N, .int .i64 I, .int .i64 K, .int .i64 M, .bool lb] w fun e w' => e = .returned (.int .i64 (sumP cntP (cntL (M + 1) (lvl lb)) (cntL (M + 1) 1) (M + 1) I N K)) ∧ Below w.heap.size w w' := by
  by_cases h : K ≤ M
  · have hk1 : ¬ (M : Int) < (K : Int) := by omega
    have hk2 : (K : Int) < ((M + 1 : Nat) : Int) := by omega
    go_enter Try.func35, Try.ntmps35
    go_wp2_with fail
    refine (l09Counts_any N I M lb _ hN (by omega) (by omega)).mono ?_
    rintro e w2 ⟨a', rfl, o2, t2⟩
    have q := o2.sl
    rw [rowP_len] at q
    obtain ⟨g, o, rfl, hg, hc⟩ := q.at (by omega)
    have ec := hc K (by omega)
    have HV := hide (show sumP cntP (cntL (M + 1) (lvl lb)) (cntL (M + 1) 1) (M + 1) I N K = (rowP cntP (cntL (M + 1) (lvl lb)) (cntL (M + 1) 1) (M + 1) I N).getD K 0 from rfl)
    obtain ⟨V, hV⟩ : ∃ V, (rowP cntP (cntL (M + 1) (lvl lb)) (cntL (M + 1) 1) (M + 1) I N).getD K 0 = V := ⟨_, rfl⟩
    rw [hV] at ec HV
    have hk3 : (K : Int) < (M : Int) + 1 := by omega
    clear q hc o2 hV
    go_wp2
    go_ret
    exact ⟨ret_int HV.out.symm, t2⟩
  · have HV := hide (sumP_out cntP (cntL (M + 1) (lvl lb)) (cntL (M + 1) 1) (M + 1) I N K (.inr (by omega)))
    have hk1 : (M : Int) < (K : Int) := by omega
    go_enter Try.func35, Try.ntmps35
    go_wp2
    go_ret
    exact ⟨ret_int HV.out.symm, Below.refl _ _⟩
end Go.Proofs.Ythahcnmfaghohaa
/- Contracts: PathsOf (program, model). -/
namespace Go.Proofs.Ythahcnmfaghohaa
open Go.RowKit
set_option linter.unusedVariables false
set_option linter.unusedSimpArgs false

/-- a beginning leads on, so the lists of beginnings don't become shorter -/
theorem ext1_ne {h k left i : Int} {w : List Int} (hk : 0 ≤ k) (hk2 : k ≤ h) (hl : 0 ≤ left) (ho : okStep h k (left + 1) (endH i w) = true) : 1 ≤ (ext1 h k left i w).length := by
  have ho' := of_decide_eq_true ho
  have m1 : mv 68 = -1 := rfl
  have m2 : mv 76 = 0 := rfl
  have m3 : mv 85 = 1 := rfl
  have key : ∃ c ∈ dluL, okStep h k left (endH i w + mv c) = true := by
    by_cases e1 : endH i w < k
    · exact ⟨85, by simp [dluL], decide_eq_true (by rw [m3]; omega)⟩
    · by_cases e2 : k < endH i w
      · exact ⟨68, by simp [dluL], decide_eq_true (by rw [m1]; omega)⟩
      · exact ⟨76, by simp [dluL], decide_eq_true (by rw [m2]; omega)⟩
  obtain ⟨c, hc, hok⟩ := key
  unfold ext1
  rw [List.length_map]
  exact List.length_pos_of_mem (List.mem_filter.2 ⟨hc, hok⟩)
theorem flatMap_le {α β : Type} (f : α → List β) : ∀ l : List α, (∀ a ∈ l, 1 ≤ (f a).length) → l.length ≤ (l.flatMap f).length
  | [], _ => by simp
  | a :: l, h => by
    have h1 := h a (List.mem_cons_self ..)
    have h2 := flatMap_le f l (fun b hb => h b (List.mem_cons_of_mem _ hb))
    rw [List.flatMap_cons, List.length_append, List.length_cons]
    omega
theorem bfs_mono {h k i : Int} {N : Nat} (hk0 : 0 ≤ k) (hk : k ≤ h) (hi : okStep h k N i = true) : ∀ (s t : Nat), t + s ≤ N → (bfsL h k i N t).length ≤ (bfsL h k i N (t + s)).length
  | 0, t, _ => Nat.le_refl _
  | s + 1, t, hs => by
    refine Nat.le_trans (bfs_mono hk0 hk hi s t (by omega)) ?_
    rw [show t + (s + 1) = (t + s) + 1 by omega, bfsL]
    refine flatMap_le _ _ (fun w hw => ext1_ne hk0 hk (by omega) ?_)
    have := (bfs_inv hk hi (t + s) (by omega)).2 w hw
    rw [show (N : Int) - (((t + s : Nat) : Int) + 1) + 1 = (N : Int) - ((t + s : Nat) : Int) by omega]
    exact this
theorem OwnT.monoT {B B' : Nat} {w : World} {a : Option Addr} {c : Nat} {ys : List Value} (h : OwnT B w a c ys) (hB : B' ≤ B) : OwnT B' w a c ys := by
  refine ⟨h.1, ?_⟩
  rcases h.2 with q | ⟨g, cc, cur, q1, q2, q3⟩
  · exact .inl q
  · exact .inr ⟨g, cc, cur, q1, Nat.le_trans hB q2, q3⟩
def poN (n i k h : Int) : Int := cntV 1 n i k h
def poC (n i k h : Int) : Int := if areB 25 [n, i, k, h] then (if 400 < cntV 1 n i k h then 3 else 0) else 2
def poV (n i k h : Int) : List ByteArray := if poC n i k h = 0 then (recL h k n.toNat i).map strOfNums else []
theorem po_len {n i k h : Int} (H : areB 25 [n, i, k, h] = true) : ((recL h k n.toNat i).length : Int) = cntV 1 n i k h := by
  obtain ⟨h1, h2, h3, h4⟩ := are4 H
  unfold cntV
  rw [if_pos H]
  have e := recL_sum h.toNat i.toNat n.toNat k.toNat (by omega)
  rw [show ((h.toNat : Nat) : Int) = h by omega, show ((k.toNat : Nat) : Int) = k by omega, show ((i.toNat : Nat) : Int) = i by omega] at e
  exact e
/-- where there is a path, the end can be reached -/
theorem rec_pos {h k : Int} {n : Nat} {i : Int} (hi : 0 ≤ i) (hp : recL h k n i ≠ []) : okStep h k n i = true ∧ k ≤ h := by
  by_cases hb : i > h ∨ k > h ∨ i - k > n ∨ k - i > n
  · exact absurd (recL_bad hb) hp
  · exact ⟨decide_eq_true (by omega), by omega⟩
def ResT (w : World) (v : List ByteArray) (cd : Int) (e : Ending) (w' : World) : Prop :=
  ∃ a c, e = .returned (.tuple #[.slice a v.length c, .int .i64 cd]) ∧ OwnT w.heap.size w' a c (v.map Value.string) ∧ v.length ≤ 400 ∧ Below w.heap.size w w'
theorem ResT.nil {w w' : World} {v : List ByteArray} {cd cd' : Int} (hv : v = []) (hc : cd = cd') (hb : Below w.heap.size w w') : ResT w v cd (.returned (.tuple #[.slice none 0 0, .int .i64 cd'])) w' := by
  subst hv; subst hc
  exact ⟨none, 0, rfl, OwnT.nil _ _, by simp, hb⟩
set_option maxRecDepth 100000 in
set_option maxHeartbeats 6400000 in
theorem implPathsOf (n i k h : Int) (w : World) :
    Calls Try.prog 20 #[.int .i64 n, .int .i64 i, .int .i64 k, .int .i64 h] w (ResT w (poV n i k h) (poC n i k h)) := by
  by_cases H : areB 25 [n, i, k, h] = true
  rotate_left
  · have hc1 := hide (show cntC n i k h = 2 by unfold cntC; rw [if_neg H])
    have HC := hide (show poC n i k h = 2 by unfold poC; rw [if_neg H])
    have HV := hide (show poV n i k h = [] by unfold poV; rw [if_neg (by rw [HC.out]; decide)])
    clear H
    go_enter Try.func20, Try.ntmps20
    go_wp2_with fail
    refine (implCountPaths n i k h _).mono ?_
    rintro e w1 ⟨rfl, t1⟩
    rw [hc1.out]
    go_wp2
    refine bodyPost_ret (v := .tuple #[.slice none 0 0, .int .i64 2]) (by simp [results, Try.results20, go_sem]) rfl ?_
    exact ResT.nil HV.out HC.out t1
  have hc1 := hide (show cntC n i k h = 0 by unfold cntC; rw [if_pos H])
  have Hlen := hide (po_len H)
  obtain ⟨r1, r2, r3, r4⟩ := are4 H
  by_cases hbig : 400 < cntV 1 n i k h
  · have HC := hide (show poC n i k h = 3 by unfold poC; rw [if_pos H, if_pos hbig])
    have HV := hide (show poV n i k h = [] by unfold poV; rw [if_neg (by rw [HC.out]; decide)])
    clear H
    go_enter Try.func20, Try.ntmps20
    go_wp2_with fail
    refine (implCountPaths n i k h _).mono ?_
    rintro e w1 ⟨rfl, t1⟩
    rw [hc1.out]
    obtain ⟨V, hV⟩ : ∃ V, cntV 1 n i k h = V := ⟨_, rfl⟩
    rw [hV] at hbig ⊢
    have hv0 : ¬ V = 0 := by omega
    clear hV
    go_wp2
    refine bodyPost_ret (v := .tuple #[.slice none 0 0, .int .i64 3]) (by simp [results, Try.results20, go_sem]) rfl ?_
    exact ResT.nil HV.out HC.out t1
  have HC := hide (show poC n i k h = 0 by unfold poC; rw [if_pos H, if_neg hbig])
  have HV := hide (show poV n i k h = (recL h k n.toNat i).map strOfNums by unfold poV; rw [if_pos HC.out])
  by_cases hzero : cntV 1 n i k h = 0
  · have HV2 := hide (show poV n i k h = [] by
      rw [HV.out]
      have e := Hlen.out
      rw [hzero] at e
      rw [List.eq_nil_of_length_eq_zero (by omega : (recL h k n.toNat i).length = 0)]
      rfl)
    have HZ := hide hzero
    clear H hbig hzero
    go_enter Try.func20, Try.ntmps20
    go_wp2_with fail
    refine (implCountPaths n i k h _).mono ?_
    rintro e w1 ⟨rfl, t1⟩
    rw [hc1.out, HZ.out]
    go_wp2
    refine bodyPost_ret (v := .tuple #[.slice none 0 0, .int .i64 0]) (by simp [results, Try.results20, go_sem]) rfl ?_
    exact ResT.nil HV2.out HC.out t1
  obtain ⟨N, rfl⟩ : ∃ N : Nat, n = N := ⟨n.toNat, by omega⟩
  obtain ⟨I, rfl⟩ : ∃ I : Nat, i = I := ⟨i.toNat, by omega⟩
  obtain ⟨K, rfl⟩ : ∃ K : Nat, k = K := ⟨k.toNat, by omega⟩
  obtain ⟨M, rfl⟩ : ∃ M : Nat, h = M := ⟨h.toNat, by omega⟩
  rw [Int.toNat_natCast] at HV Hlen
  have hne : recL M K N I ≠ [] := fun e => by
    have q := Hlen.out
    rw [e] at q
    simp at q
    omega
  obtain ⟨hok, hKM⟩ := rec_pos (by omega) hne
  have hIM : I ≤ M := by have := of_decide_eq_true hok; omega
  have hKM' : K ≤ M := by omega
  have HE := hide (bfs_rec hKM hok)
  have HLn := hide (show (recL M K N I).length ≤ 400 by have := Hlen.out; omega)
  have HLt := hide (show ∀ t, t ≤ N → (bfsL M K I N t).length ≤ 400 from fun t ht => by
    have := bfs_mono (N := N) (by omega) hKM hok (N - t) t (by omega)
    rw [show t + (N - t) = N by omega, HE.out] at this
    have := HLn.out
    omega)
  have Hok := hide hok
  have HMem := hide (bfs_mem (h := M) (k := K) (i := I) (N := N) N)
  have vh : IntKind.i64.wrap ((M : Int) + 1) = ((M + 1 : Nat) : Int) := by rw [show (M : Int) + 1 = ((M + 1 : Nat) : Int) by omega]; exact IntWalk.i64_in _ (by omega)
  clear H hne hok hKM
  go_enter Try.func20, Try.ntmps20
  go_wp2_with fail
  refine (implCountPaths N I K M _).mono ?_
  rintro e w1 ⟨rfl, t1⟩
  rw [hc1.out]
  obtain ⟨V, hV⟩ : ∃ V, cntV 1 N I K M = V := ⟨_, rfl⟩
  rw [hV] at hbig hzero ⊢
  clear hV
  go_wp2_with fail
  refine (plainGround_any (M + 1) 1 _ (by omega) (by omega)).mono ?_
  rintro e w2 ⟨a2, b2, rfl, sA, sB, t2⟩
  have B2 := bnext t1 t2
  have SA := hide sA
  have SB := hide sB
  have hv0 : ¬ V = 0 := hzero
  have hv1 : ¬ 400 < V := by omega
  clear sA sB t1 t2
  go_wp2_with fail
  refine (paths_any N I K M a2 (M + 1) b2 (M + 1) _ SA.out SB.out (by omega) hIM hKM' (by omega) Hok.out HLt.out).mono ?_
  rintro e w3 ⟨a3, c3, ns, rfl, o3, n3, t3⟩
  rw [HE.out] at o3 n3 HMem ⊢
  have B3 := hide (bnext B2 t3)
  have z3 := B3.out.size
  obtain ⟨rs, hrs⟩ : ∃ rs, recL M K N I = rs := ⟨_, rfl⟩
  rw [hrs] at o3 n3 HMem HLn HV ⊢
  have HO3 := hide o3
  have HN3 := hide n3
  have hO0 : Hid (OwnT w3.heap.size w3 none 0 (stV (rs.take 0))) := hide (OwnT.nil _ _)
  have hr : Below w3.heap.size w3 w3 := Below.refl _ _
  clear o3 n3 t3 B2 hrs vh hv0 hv1 hbig hzero HE Hlen HLt
  go_wp2
  go_loopw [12, 40] (fun ov yv wr => ∃ (y : Nat) (a : Option Addr) (c : Nat), y ≤ rs.length ∧ yv = .int .i64 y ∧ ov = .slice a y c ∧ Hid (OwnT w3.heap.size wr a c (stV (rs.take y))) ∧ Below w3.heap.size w3 wr) (fun _ yv _ => rs.length - (intOf yv).toNat)
  case atStart => exact ⟨0, none, 0, by omega, rfl, rfl, hO0, hr⟩
  case round =>
    obtain ⟨y, a, c, hy, rfl, rfl, hO, hb⟩ := hrel
    clear hO0 hr
    by_cases hlt : y < rs.length
    · have hlt' : (y : Int) < (rs.length : Int) := by omega
      have p0 : (0 : Int) ≤ (y : Int) := by omega
      have vy : IntKind.i64.wrap ((y : Int) + 1) = (y : Int) + 1 := IntWalk.i64_in _ (by have := HLn.out; omega)
      obtain ⟨g, rfl, _⟩ := HO3.out.at (by rw [ptV_len]; omega)
      obtain ⟨Q, hQ, hCh⟩ := HN3.out y hlt
      obtain ⟨w1', w2'⟩ := HMem.out (rs.getD y []) (getD_memW hlt)
      have Hst := hide (show stV (rs.take y) ++ [.string (strOfNums (rs.getD y []))] = stV (rs.take (y + 1)) by
        rw [stV_snoc, List.take_add_one, List.getElem?_eq_getElem hlt]
        simp [List.getD_eq_getElem?_getD, List.getElem?_eq_getElem hlt])
      obtain ⟨wd, hwd⟩ : ∃ wd, rs.getD y [] = wd := ⟨_, rfl⟩
      rw [hwd] at w1' w2' Hst hCh
      have ec : wr.cell? ⟨g, y, none⟩ = some (.pointer (some ⟨Q wd.length, 0, none⟩)) := by
        rw [w1', ← hQ]; exact cell_be hb (OwnN.cellG HO3.out y hlt)
      have HCh := hide (show Chain w2.heap.size wr cntP (cntL (M + 1) 1) (cntL (M + 1) 1) (strOfNums wd) I Q wd.length by
        rw [w1']; exact hCh.below hb)
      have HW1 := hide w1'
      have HW2 := hide w2'
      clear hwd w1' w2' hCh hQ
      go_wp2_with fail
      refine (text_any cntP _ _ wd I Q _ _ HCh.out (by rw [HW1.out]; omega) HW2.out).mono ?_
      rintro e w4 ⟨rfl, t4⟩
      have hb4 := hb.trans (t4.mono hb.size)
      have hba := bl1 w4 (.cells #[.string (strOfNums wd)] 9)
      have hOa := hide ((hO.out.below t4).below hba)
      have hcl : (w4.alloc (.cells #[.string (strOfNums wd)] 9)).cell? ⟨w4.heap.size, 0, none⟩ = some (.string (strOfNums wd)) := by simp [go_sem]
      have HZa := hide (show (w4.alloc (.cells #[.string (strOfNums wd)] 9)).heap.size = w4.heap.size + 1 by simp)
      have hvl := hide (show (stV (rs.take y)).length = y by rw [stV_len, List.length_take]; omega)
      have zb4 := hb4.size
      clear ec t4
      go_wp2_with (at_builtin; with_reducible refine wp_appT rfl _ _ rfl w3.heap.size _ _ _ _ rfl hvl.out.symm hOa.out _ _ _ rfl hcl rfl (by have := HLn.out; omega) (by have := HZa.out; omega) ?_; intro ad' cap' w' hown' hgr hloc)
      have hbg := OwnT.blkG hOa.out
      have hb7 : Below w3.heap.size w3 w' := (hb4.trans (hba.mono zb4)).grown hgr (by have := HZa.out; omega) hbg
      have Hown := hide (show OwnT w3.heap.size w' ad' cap' (stV (rs.take (y + 1))) by rw [← Hst.out]; exact hown')
      clear hown' hgr hloc hOa hO hcl hba hbg
      go_roundw
      case rel => exact ⟨y + 1, ad', cap', by omega, by go_num, by rw [hvl.out], Hown, hb7⟩
      case measure => simp [intOf]; omega
    · have hye := hide (show y = rs.length by omega)
      have hge : ¬ (y : Int) < (rs.length : Int) := by omega
      have B4 := hide (B3.out.trans (hb.mono z3))
      clear hlt
      go_wp2
      refine bodyPost_ret (v := .tuple #[.slice a y c, .int .i64 0]) (by simp [results, Try.results20, go_sem]) rfl ?_
      refine ⟨a, c, by rw [HC.out, HV.out, List.length_map, ← hye.out], ?_, by rw [HV.out, List.length_map]; exact HLn.out, B4.out⟩
      have q := hO.out.monoT z3
      rw [hye.out, List.take_length] at q
      rw [HV.out, List.map_map]
      exact q
set_option maxRecDepth 100000 in
set_option maxHeartbeats 3200000 in
theorem specPathsOf (n i k h : Int) (w : World) :
    Calls Try.prog 19 #[.int .i64 n, .int .i64 i, .int .i64 k, .int .i64 h] w (ResT w (poV n i k h) (poC n i k h)) := by
  have hr : Below w.heap.size w w := Below.refl _ _
  by_cases H : areB 25 [n, i, k, h] = true
  rotate_left
  · have HF := hide (show areB 25 [n, i, k, h] = false by simpa using H)
    have HC := hide (show poC n i k h = 2 by unfold poC; rw [if_neg H])
    have HV := hide (show poV n i k h = [] by unfold poV; rw [if_neg (by rw [HC.out]; decide)])
    clear H
    go_enter Try.func19, Try.ntmps19
    go_wp2_with fail
    refine (l09Given_any n i k h _).mono ?_
    rintro e w1 ⟨rfl, rfl⟩
    rw [HF.out]
    go_wp2
    refine bodyPost_ret (v := .tuple #[.slice none 0 0, .int .i64 2]) (by simp [results, Try.results19, go_sem]) rfl ?_
    exact ResT.nil HV.out HC.out hr
  have HT := hide H
  have Hlen := hide (po_len H)
  have hcv : cntV 1 n i k h = sumP cntP (cntL (h.toNat + 1) 1) (cntL (h.toNat + 1) 1) (h.toNat + 1) i.toNat n.toNat k.toNat := by unfold cntV; rw [if_pos H]
  obtain ⟨r1, r2, r3, r4⟩ := are4 H
  have HC0 := hide (show poC n i k h = if 400 < cntV 1 n i k h then 3 else 0 by unfold poC; rw [if_pos H])
  clear H
  obtain ⟨N, rfl⟩ : ∃ N : Nat, n = N := ⟨n.toNat, by omega⟩
  obtain ⟨I, rfl⟩ : ∃ I : Nat, i = I := ⟨i.toNat, by omega⟩
  obtain ⟨K, rfl⟩ : ∃ K : Nat, k = K := ⟨k.toNat, by omega⟩
  obtain ⟨M, rfl⟩ : ∃ M : Nat, h = M := ⟨h.toNat, by omega⟩
  simp only [Int.toNat_natCast] at hcv Hlen
  have HCV := hide hcv
  clear hcv
  go_enter Try.func19, Try.ntmps19
  go_wp2_with fail
  refine (l09Given_any N I K M _).mono ?_
  rintro e w1 ⟨rfl, rfl⟩
  rw [HT.out]
  go_wp2_with fail
  refine (l09Count_any N I K M false _ (by omega) (by omega) (by omega) (by omega)).mono ?_
  rintro e w2 ⟨rfl, t2⟩
  rw [show lvl false = 1 from rfl, ← HCV.out]
  by_cases hbig : 400 < cntV 1 N I K M
  · have HC := hide (show poC N I K M = 3 by rw [HC0.out, if_pos hbig])
    have HV := hide (show poV N I K M = [] by unfold poV; rw [if_neg (by rw [HC.out]; decide)])
    clear HC0
    obtain ⟨V, hV⟩ : ∃ V, cntV 1 N I K M = V := ⟨_, rfl⟩
    rw [hV] at hbig ⊢
    clear hV
    go_wp2
    refine bodyPost_ret (v := .tuple #[.slice none 0 0, .int .i64 3]) (by simp [results, Try.results19, go_sem]) rfl ?_
    exact ResT.nil HV.out HC.out t2
  · have HC := hide (show poC N I K M = 0 by rw [HC0.out, if_neg hbig])
    have HV := hide (show poV N I K M = (recL M K N I).map strOfNums by unfold poV; rw [if_pos HC.out]; simp)
    have HLn := hide (show (recL M K N I).length ≤ 400 by have := Hlen.out; omega)
    clear HC0
    obtain ⟨V, hV⟩ : ∃ V, cntV 1 N I K M = V := ⟨_, rfl⟩
    rw [hV] at hbig ⊢
    clear hV
    go_wp2_with fail
    refine (l09Paths_any K M (by omega) (by omega) N I _ (by omega) (by omega) HLn.out).mono ?_
    rintro e w3 ⟨a3, c3, rfl, o3, t3⟩
    have B3 := bnext t2 t3
    have HO := hide (o3.monoT t2.size)
    clear o3 t3 t2 hbig
    go_wp2
    refine bodyPost_ret (v := .tuple #[.slice a3 (recL M K N I).length c3, .int .i64 0]) (by simp [results, Try.results19, go_sem]) rfl ?_
    refine ⟨a3, c3, by rw [HC.out, HV.out, List.length_map], ?_, by rw [HV.out, List.length_map]; exact HLn.out, B3⟩
    rw [HV.out, List.map_map]
    exact HO.out
end Go.Proofs.Ythahcnmfaghohaa
