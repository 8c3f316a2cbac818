/- Merged texts. -/
import Derived.Test.YtkpmonopjkjflaaYC122
import Derived.Test.YtkpmonopjkjflaaYC127
import Derived.Test.YtkpmonopjkjflaaYC117
/- Convergents (program): nextConvergent, convergentsOf. -/
namespace Go.Proofs.Ytkpmonopjkjflaa
open Go.RowKit
set_option linter.unusedVariables false
set_option linter.unusedSimpArgs false

/-- What stands before and at step k. -/
def cvG (p : Int) (X : Nat → List Int) (b c : List Int) : Nat → List Int × List Int
  | 0 => (b, c)
  | k + 1 => ((cvG p X b c k).2, addM p (mulM p (X k) (cvG p X b c k).2) (cvG p X b c k).1 1)
def cvR (p : Int) (X : Nat → List Int) (b c : List Int) (k : Nat) : List Int := (cvG p X b c (k + 1)).2
/-- All of the first k are short enough. -/
def cvB (p : Int) (X : Nat → List Int) (b c : List Int) : Nat → Bool
  | 0 => true
  | k + 1 => cvB p X b c k && decide ((cvR p X b c k).length ≤ 25)
theorem cvB_false {p : Int} {X : Nat → List Int} {b c : List Int} {k n : Nat} (hk : k < n) (h : ¬ (cvR p X b c k).length ≤ 25) : cvB p X b c n = false := by
  induction n with
  | zero => omega
  | succ n ih =>
    rw [cvB]
    by_cases e : k = n
    · subst e; simp [h]
    · rw [ih (by omega)]; rfl
theorem cvG_are {p : Int} (hp : 2 ≤ p) {X : Nat → List Int} {b c : List Int} (hb : areB p b = true) (hc : areB p c = true) (k : Nat) : areB p (cvG p X b c k).1 = true ∧ areB p (cvG p X b c k).2 = true := by
  induction k with
  | zero => exact ⟨hb, hc⟩
  | succ k ih => exact ⟨ih.2, addM_areB hp (mulM_areB hp _ _) _ _⟩
theorem cvG_len {p : Int} {X : Nat → List Int} {b c : List Int} (hb : b.length ≤ 25) (hc : c.length ≤ 25) (k : Nat) (h : cvB p X b c k = true) : (cvG p X b c k).1.length ≤ 25 ∧ (cvG p X b c k).2.length ≤ 25 := by
  induction k with
  | zero => exact ⟨hb, hc⟩
  | succ k ih =>
    rw [cvB, Bool.and_eq_true, decide_eq_true_eq] at h
    exact ⟨(ih h.1).2, h.2⟩
/-- Rows that have been kept in a list of lists at r. -/
def KeptR (B : Nat) (w : World) (r : Option Addr) (vs : List Value) (X : Nat → List Int) (A : Nat → Option Addr) (C : Nat → Nat) (k : Nat) : Prop :=
  (∀ j, j < k → vs[j]? = some (.slice (A j) (X j).length (C j))) ∧ (∀ j, j < k → Own B w (A j) (C j) (X j)) ∧ (∀ j, j < k → ∀ b, blk (A j) = some b → blk r ≠ some b) ∧ (∀ i j, i < j → j < k → ∀ b, blk (A i) = some b → blk (A j) ≠ some b)
theorem Own.grow {B : Nat} {w w' : World} {a : Option Addr} {c : Nat} {ys : List Int} {row : Option Nat} (h : Own B w a c ys) (hg : w.grownBy w' row) (hne : ∀ b, blk a = some b → row ≠ some b) : Own B w' a c ys := by
  refine ⟨h.1, ?_⟩
  rcases h.2 with h' | ⟨g, c', cur, h1, h2, h3, h4⟩
  · exact .inl h'
  · refine .inr ⟨g, c', cur, h1, h2, (hg.block g (lt_of_block h3) (fun e => ?_)).trans h3, h4⟩
    simp only [Value.slice.injEq] at h1
    exact hne g (by rw [h1.1]; rfl) e.symm
theorem KeptR.push {B i : Nat} {w1 w3 wl w' : World} {a' ad' a3 : Option Addr} {c3 : Nat} {vs : List Value} {X : Nat → List Int} {A : Nat → Option Addr} {C : Nat → Nat} (hK : KeptR B w1 a' vs X A C i) (hvl : vs.length = i) (hO : ∀ b, blk a' = some b → b < w1.heap.size) (hB : B ≤ w1.heap.size)
    (t3 : Below w1.heap.size w1 w3) (ho3 : Own w1.heap.size w3 a3 c3 (X i)) (hba : Below w3.heap.size w3 wl) (hzl : w3.heap.size ≤ wl.heap.size) (hgr : wl.grownBy w' (blk a')) (hloc : blk ad' = blk a' ∨ blk ad' = some wl.heap.size) :
    KeptR B w' ad' (vs ++ [Value.slice a3 (X i).length c3]) X (fun j => if j = i then a3 else A j) (fun j => if j = i then c3 else C j) (i + 1) := by
  obtain ⟨h1, h2, h3, h4⟩ := hK
  have z3 := t3.size
  have l2 : ∀ j, j < i → ∀ b, blk (A j) = some b → b < w1.heap.size := fun j hj b hb => own_blk_lt (h2 j hj) b hb
  refine ⟨fun j hj => ?_, fun j hj => ?_, fun j hj b hb => ?_, fun k j hkj hj b hk => ?_⟩
  · by_cases e : j = i
    · subst e
      simp only [if_true]
      rw [List.getElem?_append_right (by omega), hvl]
      simp
    · simp only [if_neg e]
      rw [List.getElem?_append_left (by omega)]
      exact h1 j (by omega)
  · by_cases e : j = i
    · subst e
      simp only [if_true]
      exact ((ho3.mono hB).below hba).grow hgr (fun b hb q => by have := own_blk_ge ho3 b hb; have := hO b q; omega)
    · simp only [if_neg e]
      exact (((h2 j (by omega)).below t3).below hba).grow hgr (fun b hb => h3 j (by omega) b hb)
  · by_cases e : j = i
    · subst e
      simp only [if_true] at hb
      have g1 := own_blk_ge ho3 b hb
      have g2 := own_blk_lt ho3 b hb
      intro q
      rcases hloc with h | h
      · rw [h] at q
        have := hO b q
        omega
      · rw [h] at q
        simp at q
        omega
    · simp only [if_neg e] at hb
      intro q
      rcases hloc with h | h
      · rw [h] at q
        exact h3 j (by omega) b hb q
      · rw [h] at q
        simp at q
        have := l2 j (by omega) b hb
        omega
  · simp only at hk ⊢
    rw [if_neg (by omega)] at hk
    by_cases e : j = i
    · subst e
      simp only [if_true]
      intro q
      have := own_blk_ge ho3 b q
      have := l2 k hkj b hk
      omega
    · rw [if_neg e]
      exact h4 k j hkj (by omega) b hk
set_option maxRecDepth 100000 in
set_option maxHeartbeats 1600000 in
theorem nextConvergent_any (p : Int) (a1 : Option Addr) (n1 c1 : Nat) (f : List Int) (a2 : Option Addr) (n2 c2 : Nat) (b : List Int) (a3 : Option Addr) (n3 c3 : Nat) (c : List Int) (w : World) (h1 : SL w a1 n1 c1 f) (h2 : SL w a2 n2 c2 b) (h3 : SL w a3 n3 c3 c)
    (l1 : n1 ≤ 25) (l2 : n2 ≤ 25) (l3 : n3 ≤ 25) (hp : 2 ≤ p) (hp2 : p ≤ 10007) (hf : areB p f = true) (hb : areB p b = true) (hc : areB p c = true) :
    Calls Try.prog 126 #[.int .i64 p, .slice a1 n1 c1, .slice a2 n2 c2, .slice a3 n3 c3] w fun e w' => ∃ a' c', e = .returned (.slice a' (addM p (mulM p f c) b 1).length c') ∧ Own w.heap.size w' a' c' (addM p (mulM p f c) b 1) ∧ Below w.heap.size w w' := by
  have hl1 := hide h1.len
  have hl3 := hide h3.len
  have hf' := hide hf
  have hb' := hide hb
  have hc' := hide hc
  clear hf hb hc
  go_enter Try.func126, Try.ntmps126
  go_wp2_with fail
  refine (multiply_any p _ _ _ f _ _ _ c _ h1 h3 (by omega) (by omega) hp hp2 hf'.out hc'.out).mono ?_
  rintro e w1 ⟨x, cx, rfl, ho, t1⟩
  have hm : (mulM p f c).length ≤ 1000 := by
    rcases mulM_up (f := f) (g := c) (p := p) with h | ⟨_, _, h⟩
    · omega
    · rw [h, hl1.out, hl3.out]; omega
  have hma := hide (mulM_areB hp f c)
  obtain ⟨M, hM⟩ : ∃ M, mulM p f c = M := ⟨_, rfl⟩
  rw [hM] at ho hm hma ⊢
  have HM := hide hM
  clear hM
  have Ho := hide ho
  clear ho
  go_wp2_with fail
  refine (addMultiple_any p 1 _ _ _ M _ _ _ b _ Ho.out.sl (h2.below t1) hm (by omega) hp hp2 (by omega) (by omega) hma.out hb'.out).mono ?_
  rintro e w2 ⟨y, cy, rfl, ho2, t2⟩
  have Ho2 := hide (ho2.mono (B' := w.heap.size) t1.size)
  have hB := bnext t1 t2
  clear ho2
  go_wp2
  go_ret
  obtain rfl := HM.out
  exact ⟨y, cy, rfl, Ho2.out, hB⟩
set_option maxRecDepth 100000 in
set_option maxHeartbeats 3200000 in
theorem convergentsOf_any (p : Int) (g n cq : Nat) (QA : Nat → Option Addr) (QL QC : Nat → Nat) (X : Nat → List Int) (a2 : Option Addr) (n2 c2 : Nat) (b : List Int) (a3 : Option Addr) (n3 c3 : Nat) (c : List Int) (w : World) (hs : Lists w g n QA QL QC X) (h2 : SL w a2 n2 c2 b) (h3 : SL w a3 n3 c3 c)
    (hn : n ≤ 25) (l2 : n2 ≤ 25) (l3 : n3 ≤ 25) (hX : ∀ i, i < n → (X i).length ≤ 25 ∧ areB p (X i) = true) (hp : 2 ≤ p) (hp2 : p ≤ 10007) (hb : areB p b = true) (hc : areB p c = true) (k2 : ∀ x, blk a2 = some x → x < w.heap.size) (k3 : ∀ x, blk a3 = some x → x < w.heap.size) :
    Calls Try.prog 86 #[.int .i64 p, .slice (some ⟨g, 0, none⟩) n cq, .slice a2 n2 c2, .slice a3 n3 c3] w fun e w' =>
      (cvB p X b c n = false ∧ e = .returned (.tuple #[.slice none 0 0, .bool false]) ∧ Below w.heap.size w w') ∨
      (cvB p X b c n = true ∧ ∃ (a' : Option Addr) (c' : Nat) (vs : List Value) (A : Nat → Option Addr) (C : Nat → Nat), e = .returned (.tuple #[.slice a' n c', .bool true]) ∧ vs.length = n ∧ OwnV w.heap.size w' a' c' vs ∧ KeptR w.heap.size w' a' vs (cvR p X b c) A C n ∧ Below w.heap.size w w') := by
  have Hs := hide hs
  have HX := hide hX
  have HG := hide (cvG_are hp (X := X) hb hc)
  have HL := hide (cvG_len (p := p) (X := X) (b := b) (c := c) (by rw [h2.len]; exact l2) (by rw [h3.len]; exact l3))
  have S2 : Hid (SL w a2 n2 c2 (cvG p X b c 0).1) := hide h2
  have S3 : Hid (SL w a3 n3 c3 (cvG p X b c 0).2) := hide h3
  have K2 := hide k2
  have K3 := hide k3
  have hO0 : Hid (OwnV w.heap.size w none 0 []) := hide (OwnV.nil _ _)
  have hK0 : Hid (KeptR w.heap.size w none [] (cvR p X b c) (fun _ => none) (fun _ => 0) 0) := hide ⟨fun j hj => by omega, fun j hj => by omega, fun j hj => by omega, fun i j hij hj => by omega⟩
  clear hs hX h2 h3 k2 k3 hb hc
  go_enter Try.func86, Try.ntmps86
  go_wp2
  go_loopw [2, 3, 10, 15] (fun bv cv rv iv wr => ∃ (i : Nat) (ab : Option Addr) (nb cb : Nat) (ac : Option Addr) (nc cc : Nat) (a' : Option Addr) (c' : Nat) (vs : List Value) (A : Nat → Option Addr) (C : Nat → Nat), i ≤ n ∧ iv = .int .i64 i ∧ bv = .slice ab nb cb ∧ cv = .slice ac nc cc ∧ rv = .slice a' i c' ∧
      Hid (SL wr ab nb cb (cvG p X b c i).1) ∧ Hid (SL wr ac nc cc (cvG p X b c i).2) ∧ Hid (cvB p X b c i = true) ∧ Hid (vs.length = i) ∧ Hid (OwnV w.heap.size wr a' c' vs) ∧ Hid (KeptR w.heap.size wr a' vs (cvR p X b c) A C i) ∧
      Hid (∀ x, blk ab = some x → x < wr.heap.size ∧ blk a' ≠ some x) ∧ Hid (∀ x, blk ac = some x → x < wr.heap.size ∧ blk a' ≠ some x) ∧ Hid (Below w.heap.size w wr)) (fun _ _ _ iv _ => n - (intOf iv).toNat)
  case atStart => exact ⟨0, _, _, _, _, _, _, _, _, _, _, _, by omega, rfl, rfl, rfl, rfl, S2, S3, hide rfl, hide rfl, hO0, hK0, hide (fun x hx => ⟨K2.out x hx, by simp [blk]⟩), hide (fun x hx => ⟨K3.out x hx, by simp [blk]⟩), hide (Below.refl _ _)⟩
  case round =>
    obtain ⟨i, ab, nb, cb, ac, nc, cc, a', c', vs, A, C, hi, rfl, rfl, rfl, rfl, sb, sc, hB, hvl, hO, hK, db, dc, hW⟩ := hrel
    clear S2 S3 hO0 hK0
    by_cases hlt : i < n
    · have hlt' : (i : Int) < (n : Int) := by omega
      have q0 : (0 : Int) ≤ (i : Int) := by omega
      obtain ⟨x1, x2, x3⟩ := Hs.out i hlt
      have e1 := cell_be hW.out x1
      have s1 := x2.below hW.out
      obtain ⟨hx1, hx2⟩ := HX.out i hlt
      obtain ⟨g1, g2⟩ := HG.out i
      obtain ⟨u1, u2⟩ := HL.out i hB.out
      have sl1 := s1.len
      have sl2 := sb.out.len
      have sl3 := sc.out.len
      have HSl := hide sl1
      have m1 : QL i ≤ 25 := by omega
      have m2 : nb ≤ 25 := by omega
      have m3 : nc ≤ 25 := by omega
      have hmL : (mulM p (X i) (cvG p X b c i).2).length ≤ 1000 := by
        rcases mulM_up (f := X i) (g := (cvG p X b c i).2) (p := p) with h | ⟨_, _, h⟩
        · omega
        · rw [h]; omega
      have HRl : Hid ((cvR p X b c i).length ≤ 1000) := hide (addM_len hmL (by omega))
      have S1 := hide s1
      have Hx2 := hide hx2
      have G1 := hide g1
      have G2 := hide g2
      clear sl1 sl2 sl3 u1 u2 hx1 hx2 g1 g2 s1 x1 x2 hmL
      go_wp2_with fail
      refine (nextConvergent_any p _ _ _ (X i) _ _ _ _ _ _ _ _ _ S1.out sb.out sc.out m1 m2 m3 hp hp2 Hx2.out G1.out G2.out).mono ?_
      rintro e w3 ⟨a9, c9, rfl, ho, t3⟩
      obtain ⟨R, hR⟩ : ∃ R, cvR p X b c i = R := ⟨_, rfl⟩
      have hR2 : addM p (mulM p (X i) (cvG p X b c i).2) (cvG p X b c i).1 1 = R := hR
      have hl9 := HRl.out
      rw [hR] at hl9
      rw [hR2] at ho ⊢
      have HR := hide hR
      have Ho := hide ho
      have z3 := t3.size
      have hB3 := hide (hW.out.trans (t3.mono hW.out.size))
      clear hR hR2 ho
      go_wp2_with fail
      refine (degree_any _ _ _ _ (by omega)).mono ?_
      rintro e v3 ⟨rfl, rfl⟩
      by_cases hd : R.length ≤ 25
      rotate_left
      · have hF := hide (cvB_false (p := p) (X := X) (b := b) (c := c) hlt (by rw [HR.out]; exact hd))
        have hq : (24 : Int) < (R.length : Int) - 1 := by omega
        clear hd
        go_wp2
        refine bodyPost_ret (v := .tuple #[.slice none 0 0, .bool false]) (by simp [results, Try.results86, go_sem]) rfl ?_
        exact .inl ⟨hF.out, rfl, hB3.out⟩
      · have hq : ¬ (24 : Int) < (R.length : Int) - 1 := by omega
        have hF : Hid (cvB p X b c (i + 1) = true) := hide (by rw [cvB, hB.out, HR.out]; simp [hd])
        have hba := bl1 w3 (.cells #[.slice a9 R.length c9] 22)
        have hOa := hide ((hO.out.below t3).below hba)
        have hcl : (w3.alloc (.cells #[.slice a9 R.length c9] 22)).cell? ⟨w3.heap.size, 0, none⟩ = some (.slice a9 R.length c9) := by simp [go_sem]
        have hblt := hide (OwnV.blkLt hO.out)
        have zw := hW.out.size
        have hz3 : (w3.alloc (.cells #[.slice a9 R.length c9] 22)).heap.size = w3.heap.size + 1 := by simp
        have Hz3 := hide hz3
        clear hd hz3
        go_wp2_with (at_builtin; with_reducible refine wp_appV rfl _ _ rfl w.heap.size _ _ _ vs rfl hvl.out.symm hOa.out _ _ _ rfl hcl rfl (by omega) (by simp; omega) ?_; intro ad' cap' w' hown' hgr hloc)
        have hvl2 := hide (show (vs ++ [Value.slice a9 R.length c9]).length = i + 1 by rw [List.length_append, hvl.out]; rfl)
        have hW2 : Hid (Below w.heap.size w w') := hide ((hB3.out.trans (hba.mono (by omega))).grown hgr (by simp; omega) (OwnV.blkG hOa.out))
        have hsz : w3.heap.size + 1 ≤ w'.heap.size := by have := hgr.size; simpa using this
        have hK2 := hide (hK.out.push hvl.out hblt.out zw t3 (by rw [HR.out]; exact Ho.out) hba (by rw [Hz3.out]; omega) hgr hloc)
        rw [HR.out] at hK2
        have nb9 : ∀ x, blk a9 = some x → blk a' ≠ some x := fun x hx q => by have := own_blk_ge Ho.out x hx; have := hblt.out x q; omega
        have S9 : Hid (SL w' a9 R.length c9 (cvG p X b c (i + 1)).2) := hide (by
          rw [show (cvG p X b c (i + 1)).2 = R from HR.out]
          exact ((Ho.out.sl).below hba).grown hgr (fun x hx q => nb9 x hx q))
        have S8 : Hid (SL w' ac nc cc (cvG p X b c (i + 1)).1) := hide (((sc.out.below t3).below hba).grown hgr (fun x hx q => (dc.out x hx).2 q))
        have d9 : Hid (∀ x, blk a9 = some x → x < w'.heap.size ∧ blk ad' ≠ some x) := hide (fun x hx => by
          have l := own_blk_lt Ho.out x hx
          refine ⟨by omega, fun q => ?_⟩
          rcases hloc with h | h
          · rw [h] at q; exact nb9 x hx q
          · rw [h, Hz3.out] at q; simp at q; omega)
        have d8 : Hid (∀ x, blk ac = some x → x < w'.heap.size ∧ blk ad' ≠ some x) := hide (fun x hx => by
          obtain ⟨l, m⟩ := dc.out x hx
          refine ⟨by omega, fun q => ?_⟩
          rcases hloc with h | h
          · rw [h] at q; exact m q
          · rw [h, Hz3.out] at q; simp at q; omega)
        have Hown := hide hown'
        clear hown' hgr hloc hOa hO hK db dc nb9 hblt hcl Ho sb sc
        go_roundw
        case rel => exact ⟨i + 1, _, _, _, _, _, _, _, _, _, _, _, by omega, by go_num, rfl, rfl, by rw [hvl.out], S8, S9, hF, hvl2, Hown, hK2, d8, d9, hW2⟩
        case measure => simp [intOf]; omega
    · obtain rfl : i = n := by omega
      go_wp2
      refine bodyPost_ret (v := .tuple #[.slice a' i c', .bool true]) (by simp [results, Try.results86, go_sem]) rfl ?_
      exact .inr ⟨hB.out, a', c', vs, A, C, rfl, hvl.out, hO.out, hK.out, hW.out⟩
end Go.Proofs.Ytkpmonopjkjflaa
/- ConvergentsOf (program). -/
namespace Go.Proofs.Ytkpmonopjkjflaa
open Go.RowKit
set_option linter.unusedVariables false
set_option linter.unusedSimpArgs false

set_option maxHeartbeats 1600000 in
theorem checkPolysN (p : Int) (b n c : Nat) (A : Nat → Option Addr) (L C : Nat → Nat) (X : Nat → List Int) (w : World) (hs : Lists w b n A L C X) (hn : n ≤ 4000000) :
    Calls Try.prog 85 #[.int .i64 p, .slice (some ⟨b, 0, none⟩) n c] w fun e w' => e = .returned (.int .i64 (chkC p X n)) ∧ Below w.heap.size w w' := by
  go_enter Try.func85, Try.ntmps85
  go_wp2
  go_loopw [9] (fun i wr => ∃ k : Nat, k ≤ n ∧ i = .int .i64 k ∧ Hid (chkB p X k = true) ∧ Below w.heap.size w wr) (fun i _ => n - (intOf i).toNat)
  case atStart => exact ⟨0, by omega, rfl, rfl, Below.refl _ _⟩
  case round =>
    obtain ⟨k, hk, rfl, hR, hbr⟩ := hrel
    by_cases hlt : k < n
    · obtain ⟨h1, h2, h3⟩ := hs.below hbr k hlt
      cases hb : polyB p (X k)
      · have hF := Lib.hid (show chkC p X n = 1 by unfold chkC; rw [chkB_false p X n k hlt hb]; rfl)
        go_wp2_with (go_at_call 125; refine (isPoly_any _ _ _ _ _ _ h2 h3).mono ?_; rintro e w1 ⟨rfl, hb1⟩)
        go_ret
        exact ⟨ret_int hF.out.symm, hbr.trans (hb1.mono hbr.size)⟩
      · have hF := Lib.hid (show chkB p X (k + 1) = true by unfold chkB; rw [hR.out, hb]; rfl)
        go_wp2_with (go_at_call 125; refine (isPoly_any _ _ _ _ _ _ h2 h3).mono ?_; rintro e w1 ⟨rfl, hb1⟩)
        go_roundw
        case rel => exact ⟨k + 1, by omega, by go_num, hF, hbr.trans (hb1.mono hbr.size)⟩
        case measure => simp [intOf]; omega
    · obtain rfl : k = n := by omega
      cases hb : primeB p
      · have hF := Lib.hid (show chkC p X k = 2 by unfold chkC; rw [hR.out, hb]; rfl)
        go_wp2_with (go_at_call 78; refine (isPrime_any _ _).mono ?_; rintro e w1 ⟨rfl, rfl⟩)
        go_ret
        exact ⟨ret_int hF.out.symm, hbr⟩
      · have hF := Lib.hid (show chkC p X k = 0 by unfold chkC; rw [hR.out, hb]; rfl)
        go_wp2_with (go_at_call 78; refine (isPrime_any _ _).mono ?_; rintro e w1 ⟨rfl, rfl⟩)
        go_ret
        exact ⟨ret_int hF.out.symm, hbr⟩
set_option maxHeartbeats 1600000 in
theorem l01CodeN (p : Int) (b n c : Nat) (A : Nat → Option Addr) (L C : Nat → Nat) (X : Nat → List Int) (w : World) (hs : Lists w b n A L C X) (hn : n ≤ 4000000) :
    Calls Try.prog 83 #[.int .i64 p, .slice (some ⟨b, 0, none⟩) n c] w fun e w' => e = .returned (.int .i64 (chkC p X n)) ∧ w = w' := by
  go_enter Try.func83, Try.ntmps83
  go_wp2
  go_loop [5] (fun i => ∃ k : Nat, k ≤ n ∧ i = .int .i64 k ∧ Hid (chkB p X k = true)) (fun i => n - (intOf i).toNat)
  case atStart => exact ⟨0, by omega, rfl, rfl⟩
  case round =>
    obtain ⟨k, hk, rfl, hR⟩ := hrel
    by_cases hlt : k < n
    · obtain ⟨h1, h2, h3⟩ := hs k hlt
      cases hb : polyB p (X k)
      · have hF := Lib.hid (show chkC p X n = 1 by unfold chkC; rw [chkB_false p X n k hlt hb]; rfl)
        go_wp2_with (go_at_call 124; refine (l01Poly_any _ _ _ _ _ _ h2 h3).mono ?_; rintro e w1 ⟨rfl, rfl⟩)
        go_ret
        exact ⟨ret_int hF.out.symm, rfl⟩
      · have hF := Lib.hid (show chkB p X (k + 1) = true by unfold chkB; rw [hR.out, hb]; rfl)
        go_wp2_with (go_at_call 124; refine (l01Poly_any _ _ _ _ _ _ h2 h3).mono ?_; rintro e w1 ⟨rfl, rfl⟩)
        go_round
        case rel => exact ⟨k + 1, by omega, by go_num, hF⟩
        case measure => simp [intOf]; omega
    · obtain rfl : k = n := by omega
      cases hb : primeB p
      · have hF := Lib.hid (show chkC p X k = 2 by unfold chkC; rw [hR.out, hb]; rfl)
        go_wp2_with (go_at_call 75; refine (l01Prime_any _ _).mono ?_; rintro e w1 ⟨rfl, rfl⟩)
        go_ret
        exact ⟨ret_int hF.out.symm, rfl⟩
      · have hF := Lib.hid (show chkC p X k = 0 by unfold chkC; rw [hR.out, hb]; rfl)
        go_wp2_with (go_at_call 75; refine (l01Prime_any _ _).mono ?_; rintro e w1 ⟨rfl, rfl⟩)
        go_ret
        exact ⟨ret_int hF.out.symm, rfl⟩
theorem chkC_ok {p : Int} {X : Nat → List Int} {n : Nat} (h : chkC p X n = 0) : primeB p = true ∧ ∀ i, i < n → polyB p (X i) = true := by
  unfold chkC at h
  cases hb : chkB p X n
  · rw [hb] at h; cases h
  · rw [hb] at h
    cases hp : primeB p
    · rw [hp] at h; cases h
    · refine ⟨rfl, fun i hi => ?_⟩
      cases hq : polyB p (X i)
      · rw [chkB_false p X n i hi hq] at hb; cases hb
      · rfl
theorem KeptR.zl {B n : Nat} {w : World} {a : Option Addr} {c : Nat} {vs : List Value} {X : Nat → List Int} {A : Nat → Option Addr} {C : Nat → Nat} (h : KeptR B w a vs X A C n) (hv : vs.length = n) (ho : OwnV B w a c vs) : ZL B w.heap.size w a n c X := by
  by_cases h0 : n = 0
  · exact .inl h0
  obtain ⟨h1, h2, h3, h4⟩ := h
  obtain ⟨g, rfl, hc⟩ := ho.at (by omega)
  have hg1 := OwnV.blkG ho g rfl
  have hg2 := OwnV.blkLt ho g rfl
  refine .inr ⟨g, A, C, rfl, ⟨fun i hi => by rw [hc i (by omega)]; exact h1 i hi, fun i hi => (h2 i hi).sl, fun i hi b o hA j hj => ?_, fun i hi b hb => ?_, fun i j hi hj hij b o o' hA hA' => ?_, hg1, hg2⟩⟩
  · obtain ⟨g', e, _, _, _⟩ := (h2 i hi).blkG (by omega)
    have o2 := h2 i hi
    rw [hA] at e
    simp only [Option.some.injEq, Addr.mk.injEq, and_true] at e
    obtain ⟨rfl, rfl⟩ := e
    rw [hA] at o2
    rw [Nat.zero_add]
    exact o2.freeG j
  · have a := own_blk_ge (h2 i hi) _ hb
    have c' := own_blk_lt (h2 i hi) _ hb
    exact ⟨a, c', fun e => h3 i hi b hb (by rw [e]; rfl)⟩
  · exfalso
    have e1 : blk (A i) = some b := by rw [hA]; rfl
    have e2 : blk (A j) = some b := by rw [hA']; rfl
    rcases Nat.lt_or_ge i j with q | q
    · exact h4 i j q hj b e1 e2
    · exact h4 j i (by omega) hi b e2 e1
def cvA (p : Int) (X : Nat → List Int) : Nat → List Int := cvR p X [] [1]
def cvD (p : Int) (X : Nat → List Int) : Nat → List Int := cvR p X [1] []
def cvC (p : Int) (X : Nat → List Int) (n : Nat) : Int := if chkC p X n = 0 then (if 24 < n then 2 else if (cvB p X [] [1] n && cvB p X [1] [] n) = true then 0 else 3) else chkC p X n
def cvN (p : Int) (X : Nat → List Int) (n : Nat) : Nat := if cvC p X n = 0 then n else 0
/-- Two lists of lists in new memory, the second behind the first, and a code. -/
def ResLL (w : World) (X Y : Nat → List Int) (n : Nat) (c : Int) (e : Ending) (w' : World) : Prop :=
  ∃ (a1 : Option Addr) (c1 : Nat) (a2 : Option Addr) (c2 m : Nat), e = .returned (.tuple #[.slice a1 n c1, .slice a2 n c2, .int .i64 c]) ∧ w.heap.size ≤ m ∧ m ≤ w'.heap.size ∧ ZL w.heap.size m w' a1 n c1 X ∧ ZL m w'.heap.size w' a2 n c2 Y ∧ Below w.heap.size w w'
theorem ResLL.nil {w w' : World} {X Y : Nat → List Int} {n : Nat} {c c' : Int} (hn : n = 0) (hc : c = c') (hb : Below w.heap.size w w') : ResLL w X Y n c (.returned (.tuple #[.slice none 0 0, .slice none 0 0, .int .i64 c'])) w' := by
  subst hn; subst hc
  exact ⟨none, 0, none, 0, w.heap.size, rfl, Nat.le_refl _, hb.size, .inl rfl, .inl rfl, hb⟩
set_option maxRecDepth 100000 in
set_option maxHeartbeats 3200000 in
theorem implConvergentsOf (p : Int) (g n cq : Nat) (QA : Nat → Option Addr) (QL QC : Nat → Nat) (X : Nat → List Int) (w : World) (hs : Lists w g n QA QL QC X) (hn : n ≤ 4000000) :
    Calls Try.prog 32 #[.int .i64 p, .slice (some ⟨g, 0, none⟩) n cq] w (ResLL w (cvA p X) (cvD p X) (cvN p X n) (cvC p X n)) := by
  have Hs := hide hs
  clear hs
  by_cases h0 : chkC p X n = 0
  rotate_left
  · have hC := hide (show cvC p X n = chkC p X n by unfold cvC; rw [if_neg h0])
    have hN := hide (show cvN p X n = 0 by unfold cvN; rw [hC.out, if_neg h0])
    obtain ⟨d, hd⟩ : ∃ d, chkC p X n = d := ⟨_, rfl⟩
    have Hd := hide hd
    rw [hd] at h0 hC
    have hq : (d != 0) = true := by simpa using h0
    clear hd h0
    go_enter Try.func32, Try.ntmps32
    go_wp2_with fail
    refine (checkPolysN p g n cq QA QL QC X _ Hs.out hn).mono ?_
    rintro e w1 ⟨rfl, t1⟩
    rw [Hd.out]
    go_wp2
    refine bodyPost_ret (v := .tuple #[.slice none 0 0, .slice none 0 0, .int .i64 d]) (by simp [results, Try.results32, go_sem]) rfl ?_
    exact ResLL.nil hN.out hC.out t1
  obtain ⟨hpr, hpo⟩ := chkC_ok h0
  obtain ⟨hp, hp2⟩ := primeB_lo hpr
  have H0 := hide h0
  have HP := hide hpo
  by_cases h1 : 24 < n
  · have hC := hide (show cvC p X n = 2 by unfold cvC; rw [if_pos h0, if_pos h1])
    have hN := hide (show cvN p X n = 0 by unfold cvN; rw [hC.out]; rfl)
    have hq : (24 : Int) < (n : Int) := by omega
    clear h0 hpr hpo
    go_enter Try.func32, Try.ntmps32
    go_wp2_with fail
    refine (checkPolysN p g n cq QA QL QC X _ Hs.out hn).mono ?_
    rintro e w1 ⟨rfl, t1⟩
    rw [H0.out]
    go_wp2
    refine bodyPost_ret (v := .tuple #[.slice none 0 0, .slice none 0 0, .int .i64 2]) (by simp [results, Try.results32, go_sem]) rfl ?_
    exact ResLL.nil hN.out hC.out t1
  have hq : ¬ (24 : Int) < (n : Int) := by omega
  have hCC : Hid (cvC p X n = if (cvB p X [] [1] n && cvB p X [1] [] n) = true then 0 else 3) := hide (by unfold cvC; rw [if_pos h0, if_neg h1])
  have hXX : Hid (∀ i, i < n → (X i).length ≤ 25 ∧ areB p (X i) = true) := hide (fun i hi => ⟨(polyB_rng (hpo i hi)).1, (polyB_rng (hpo i hi)).2.1⟩)
  have hA0 : Hid (areB p [] = true) := hide (by simp [areB])
  have hA1 : Hid (areB p [1] = true) := hide (areB_mk fun j hj => by
    have : j = 0 := by simp at hj; omega
    subst this
    simp
    omega)
  clear h0 hpr hpo
  go_enter Try.func32, Try.ntmps32
  go_wp2_with fail
  refine (checkPolysN p g n cq QA QL QC X _ Hs.out hn).mono ?_
  rintro e w1 ⟨rfl, t1⟩
  rw [H0.out]
  obtain ⟨w2, hw2⟩ : ∃ w2, w2 = w1.alloc (.cells #[.int .i64 1] 2) := ⟨_, rfl⟩
  have hb2 : Below w1.heap.size w1 w2 := by rw [hw2]; exact bl1 _ _
  have hB2 := bnext t1 hb2
  have hs1 : Hid (SL w2 (some ⟨w1.heap.size, 0, none⟩) 1 1 [1]) := hide (by
    refine ⟨rfl, ⟨Nat.le_refl _, fun h => by cases h⟩, .inr ⟨w1.heap.size, 0, rfl, fun j hj => ?_⟩⟩
    obtain rfl : j = 0 := by omega
    rw [hw2]
    simp [go_sem])
  have hz2 : w1.heap.size < w2.heap.size := by rw [hw2]; simp
  have HW2 := hide hw2
  have L2 := hide (show Lists w2 g n QA QL QC X from (Hs.out.below hB2))
  clear hw2 hb2
  go_upto_region 7 with fail
  rw [← HW2.out]
  clear HW2
  go_wp2_with fail
  refine (convergentsOf_any p g n cq QA QL QC X none 0 0 [] (some ⟨w1.heap.size, 0, none⟩) 1 1 [1] w2 L2.out (SL.nil _) hs1.out (by omega) (by omega) (by omega) hXX.out hp hp2 hA0.out hA1.out (fun x hx => by cases hx) (fun x hx => by cases hx; exact hz2)).mono ?_
  rintro e w3 h3
  rcases h3 with ⟨f3, rfl, t3⟩ | ⟨f3, a', c', vs, A, C, rfl, hvl, hO, hK, t3⟩
  · have hC := hide (show cvC p X n = 3 by rw [hCC.out, f3]; rfl)
    have hN := hide (show cvN p X n = 0 by unfold cvN; rw [hC.out]; rfl)
    have L3 := hide (L2.out.below t3)
    have S3 := hide (hs1.out.below t3)
    have z3 := t3.size
    have hB3 := bnext hB2 t3
    clear f3
    go_wp2_with fail
    refine (convergentsOf_any p g n cq QA QL QC X (some ⟨w1.heap.size, 0, none⟩) 1 1 [1] none 0 0 [] w3 L3.out S3.out (SL.nil _) (by omega) (by omega) (by omega) hXX.out hp hp2 hA1.out hA0.out (fun x hx => by cases hx; show w1.heap.size < w3.heap.size; omega) (fun x hx => by cases hx)).mono ?_
    rintro e w4 (⟨f4, rfl, t4⟩ | ⟨f4, b', d', us, A2, C2, rfl, _, _, _, t4⟩)
    · have hB4 := bnext hB3 t4
      clear f4
      go_wp2
      refine bodyPost_ret (v := .tuple #[.slice none 0 0, .slice none 0 0, .int .i64 3]) (by simp [results, Try.results32, go_sem]) rfl ?_
      exact ResLL.nil hN.out hC.out hB4
    · have hB4 := bnext hB3 t4
      clear f4
      go_wp2
      refine bodyPost_ret (v := .tuple #[.slice none 0 0, .slice none 0 0, .int .i64 3]) (by simp [results, Try.results32, go_sem]) rfl ?_
      exact ResLL.nil hN.out hC.out hB4
  · have L3 := hide (L2.out.below t3)
    have S3 := hide (hs1.out.below t3)
    have z3 := t3.size
    have zz := hB2.size
    have hB3 := bnext hB2 t3
    have Z1 := hide ((hK.zl hvl hO).mono (show w.heap.size ≤ w2.heap.size by omega) (Nat.le_refl _))
    have F3 := hide f3
    clear f3 hvl hO hK
    go_wp2_with fail
    refine (convergentsOf_any p g n cq QA QL QC X (some ⟨w1.heap.size, 0, none⟩) 1 1 [1] none 0 0 [] w3 L3.out S3.out (SL.nil _) (by omega) (by omega) (by omega) hXX.out hp hp2 hA1.out hA0.out (fun x hx => by cases hx; show w1.heap.size < w3.heap.size; omega) (fun x hx => by cases hx)).mono ?_
    rintro e w4 (⟨f4, rfl, t4⟩ | ⟨f4, b', d', us, A2, C2, rfl, hvl, hO, hK, t4⟩)
    · have hC := hide (show cvC p X n = 3 by rw [hCC.out, F3.out, f4]; rfl)
      have hN := hide (show cvN p X n = 0 by unfold cvN; rw [hC.out]; rfl)
      have hB4 := bnext hB3 t4
      clear f4
      go_wp2
      refine bodyPost_ret (v := .tuple #[.slice none 0 0, .slice none 0 0, .int .i64 3]) (by simp [results, Try.results32, go_sem]) rfl ?_
      exact ResLL.nil hN.out hC.out hB4
    · have hC := hide (show cvC p X n = 0 by rw [hCC.out, F3.out, f4]; rfl)
      have hN := hide (show cvN p X n = n by unfold cvN; rw [hC.out]; rfl)
      have hB4 := bnext hB3 t4
      have z4 := t4.size
      have Z2 := hide (hK.zl hvl hO)
      have Z1' := hide (Z1.out.below t4)
      clear f4 hvl hO hK
      go_wp2
      refine bodyPost_ret (v := .tuple #[.slice a' n c', .slice b' n d', .int .i64 0]) (by simp [results, Try.results32, go_sem]) rfl ?_
      show ResLL w (cvA p X) (cvD p X) (cvN p X n) (cvC p X n) _ _
      rw [hC.out, hN.out]
      exact ⟨a', c', b', d', w3.heap.size, rfl, by omega, z4, Z1'.out, Z2.out, hB4⟩
end Go.Proofs.Ytkpmonopjkjflaa
