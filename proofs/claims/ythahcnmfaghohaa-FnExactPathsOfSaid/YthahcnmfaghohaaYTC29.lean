/- Merged texts. -/
import Derived.Test.YthahcnmfaghohaaYTC28
import Derived.Laws.BytesArg
/- Contracts: readFreely, ReversePath (program, model). -/
namespace Go.Proofs.Ythahcnmfaghohaa
open Go.RowKit
set_option linter.unusedVariables false
set_option linter.unusedSimpArgs false

theorem infoY : (Try.prog.info? 5).map (fun i => (i.zero, i.size, i.bytes)) = some (some (.int .u8 0), 1, 1) := by kernel_rfl
def OwnY (B : Nat) (w : World) (a : Option Addr) (cap : Nat) (ys : List Value) : Prop := w.ownsRow B 5 1 (.slice a ys.length cap) ys.length ys
theorem OwnY.nil (B : Nat) (w : World) : OwnY B w none 0 [] := World.ownsRow_nil _ _ _ _
theorem OwnY.below {B : Nat} {w w' : World} {a : Option Addr} {cap : Nat} {ys : List Value} (h : OwnY B w a cap ys) (hb : Below w.heap.size w w') : OwnY B w' a cap ys := by
  refine ⟨h.1, ?_⟩
  rcases h.2 with h' | ⟨g, c, cur, h1, h2, h3, h4⟩
  · exact .inl h'
  · exact .inr ⟨g, c, cur, h1, h2, (hb.block g (lt_of_block h3)).trans h3, h4⟩
theorem OwnY.blkG {B : Nat} {w : World} {a : Option Addr} {c : Nat} {ys : List Value} (h : OwnY B w a c ys) : ∀ g, blk a = some g → B ≤ g := fun g hg => by
  rcases h.2 with ⟨h1, h2⟩ | ⟨g', c', cur, h1, h2, _⟩
  · simp only [Value.slice.injEq] at h1
    rw [h1.1] at hg; cases hg
  · simp only [Value.slice.injEq] at h1
    rw [h1.1] at hg
    simp only [blk, Option.some.injEq] at hg
    omega
theorem OwnY.at {B : Nat} {w : World} {a : Option Addr} {c : Nat} {ys : List Value} (h : OwnY B w a c ys) (h0 : ys.length ≠ 0) : ∃ g, a = some ⟨g, 0, none⟩ ∧ ∀ j, j < ys.length → w.cell? ⟨g, j, none⟩ = ys[j]? := by
  rcases h.2 with ⟨h1, h2⟩ | ⟨g', c', cur, h1, _⟩
  · exact absurd h2 h0
  · simp only [Value.slice.injEq] at h1
    obtain ⟨rfl, _⟩ := h1
    exact ⟨g', rfl, fun j hj => World.ownsRow.cellAt h j (by omega)⟩
set_option maxRecDepth 100000 in
theorem op_appY {w : World} {o : Oper} {a : Act} {K : Act → World → Prop} {Q : Exit → Act → World → Prop}
    (s x : Operand) (ho : o.op = .call { callee := .builtin .append, args := #[s, x], argTypes := #[60, 60] })
    (B : Nat) (ad : Option Addr) (n cap : Nat) (ys : List Value) (hs : a.eval s = .slice ad n cap) (hn : n = ys.length) (hown : OwnY B w ad cap ys)
    (ax : Addr) (c : Nat) (z : Value) (hx : a.eval x = .slice (some ax) 1 c) (hz : w.cell? ax = some z) (hz1' : z.oneCell' = true) (hmax : n + 1 ≤ 4000000) (hB : B ≤ w.heap.size)
    (hK : ∀ ad' cap' w', OwnY B w' ad' cap' (ys ++ [z]) → w.grownBy w' (blk ad) → (blk ad' = blk ad ∨ blk ad' = some w.heap.size) → K (a.put o.dst (.slice ad' (ys ++ [z]).length cap')) w') :
    o.wp Try.prog a w K Q := by
  subst hn
  obtain ⟨i0, hi, hz0, hz1, hz2⟩ := info_parts infoY
  have hnews : ∀ j u, [z][j]? = some u → w.cell? (ax.add j) = some u := by
    intro j u hj
    cases j with
    | zero =>
      simp at hj
      subst hj
      have : ax.add 0 = ax := by cases ax; simp [Addr.add]
      rw [this]; exact hz
    | succ j => simp at hj
  have h1 : ∀ u ∈ [z], u.oneCell' = true := by
    intro u hu
    simp at hu
    subst hu
    exact hz1'
  obtain ⟨v', w1, hr, hown', hgrow, _, hloc⟩ := run_append_own_at (P := Try.prog) w B 60 o.type 5 i0 (.int .u8 0) 1 1 Try.underlying60 hi hz0 hz1 hz2 rfl (by decide) _ _ _ hown ax 1 c [z] rfl hnews h1 (by unfold maxLen; omega) (by omega) hB
  have hb1 : ∀ (ad : Option Addr) (n c : Nat), (Value.slice ad n c).ownBlock = blk ad := fun ad n c => by cases ad <;> rfl
  rw [hb1] at hgrow hloc
  have hv : ∃ ad' cap', v' = .slice ad' (ys ++ [z]).length cap' := by
    rcases hown'.2 with ⟨h1, h2⟩ | ⟨g, c', cur, h1, h2⟩
    · exact ⟨none, 0, by rw [h1]; congr 1; simp; omega⟩
    · exact ⟨_, c', by rw [h1]; congr 1; simp⟩
  obtain ⟨ad', cap', rfl⟩ := hv
  rw [hb1] at hloc
  unfold Oper.wp execOp
  simp only [ho, resolve, invoke, builtin, Sem.run_bind, Sem.run_pure, Result.andThen_ok, List.map_toArray, List.map_cons, List.map_nil, hs, hx, hr]
  refine hK ad' cap' w1 ?_ hgrow hloc
  unfold OwnY
  have e : (ys ++ [z]).length = ys.length + 1 := by simp
  rw [e] at hown' ⊢
  exact hown'
theorem wp_appY {w : World} {ops : Array Oper} {rest : List Oper} {o : Oper} {a : Act} {Q : Exit → Act → World → Prop}
    (hgd : o.guard = none) (s x : Operand) (ho : o.op = .call { callee := .builtin .append, args := #[s, x], argTypes := #[60, 60] })
    (B : Nat) (ad : Option Addr) (n cap : Nat) (ys : List Value) (hs : a.eval s = .slice ad n cap) (hn : n = ys.length) (hown : OwnY B w ad cap ys)
    (ax : Addr) (c : Nat) (z : Value) (hx : a.eval x = .slice (some ax) 1 c) (hz : w.cell? ax = some z) (hz1' : z.oneCell' = true) (hmax : n + 1 ≤ 4000000) (hB : B ≤ w.heap.size)
    (hK : ∀ ad' cap' w', OwnY B w' ad' cap' (ys ++ [z]) → w.grownBy w' (blk ad) → (blk ad' = blk ad ∨ blk ad' = some w.heap.size) → wpList Try.prog ops Q rest (a.put o.dst (.slice ad' (ys ++ [z]).length cap')) w') :
    wpList Try.prog ops Q (o :: rest) a w :=
  wpList_plain hgd fun K hK' => op_appY s x ho B ad n cap ys hs hn hown ax c z hx hz hz1' hmax hB fun ad' cap' w' h1 h2 h3 => hK' _ _ (hK ad' cap' w' h1 h2 h3)
/-- bytes as values -/
def byV (xs : List Int) : List Value := xs.map (Value.int .u8)
theorem byV_len (xs : List Int) : (byV xs).length = xs.length := by simp [byV]
theorem byV_snoc (xs : List Int) (x : Int) : byV xs ++ [.int .u8 x] = byV (xs ++ [x]) := by simp [byV]
theorem conv_bytes {B : Nat} {w : World} {a : Option Addr} {c : Nat} {xs : List Int} (h : OwnY B w a c (byV xs)) : ∀ w', Below w.heap.size w w' → (convert 60 9 (.slice a xs.length c)).run Try.prog w' = .ok (.string (strOfNums xs)) w' := by
  intro w' hb
  by_cases h0 : xs.length = 0
  · obtain rfl : xs = [] := List.eq_nil_of_length_eq_zero h0
    rcases h.2 with ⟨h1, _⟩ | ⟨g', c', cur, h1, _⟩
    · simp only [byV, List.map_nil, List.length_nil, Value.slice.injEq] at h1
      rw [h1.1]
      exact run_convert_bytes_nil w' 60 5 Try.underlying60 Try.underlying5 _ _ _ Try.underlying9
    · simp only [Value.slice.injEq] at h1
      rw [h1.1]
      exact run_convert_bytes_arg w' 60 5 Try.underlying60 Try.underlying5 g' 0 0 c [] rfl (fun i hi => by omega) _ Try.underlying9
  · obtain ⟨g, rfl, hc⟩ := (h.below hb).at (by rw [byV_len]; exact h0)
    refine run_convert_bytes_arg w' 60 5 Try.underlying60 Try.underlying5 g 0 xs.length c xs rfl (fun i hi => ?_) _ Try.underlying9
    rw [Nat.zero_add, hc i (by rw [byV_len]; exact hi)]
    simp [byV, List.getElem?_eq_getElem hi]
def invC' (c : Int) : Int := if c = 85 then 68 else if c = 68 then 85 else 76
/-- the first k letters of the path that goes back -/
def rvS (s : ByteArray) (n : Nat) : Nat → List Int
  | 0 => []
  | k + 1 => rvS s n k ++ [invC' (bt s (n - 1 - k))]
theorem rvS_len (s : ByteArray) (n : Nat) : ∀ k, (rvS s n k).length = k
  | 0 => rfl
  | k + 1 => by rw [rvS, List.length_append, rvS_len s n k]; rfl
def rpC (s : ByteArray) (i : Int) : Int := if (0 ≤ i ∧ i ≤ 24) ∧ okS s i s.size = true ∧ s.size ≤ 24 then 0 else 2
def rpV (s : ByteArray) (i : Int) : ByteArray := if rpC s i = 0 then strOfNums (rvS s s.size s.size) else ⟨#[]⟩
theorem loS_free {s : ByteArray} {i : Int} (hi : i ≤ 24) : ∀ k, k ≤ 25 → loS s i 49 k = true
  | 0, _ => rfl
  | k + 1, hk => by
    rw [loS, loS_free hi k (by omega)]
    have := hg_rng s i k
    simp; omega
theorem pthB_free {s : ByteArray} {i : Int} (hi : i ≤ 24) : pthB s i 49 = (okS s i s.size && decide (s.size ≤ 24)) := by
  unfold pthB
  by_cases h : s.size ≤ 24
  · rw [loS_free hi _ (by omega), Bool.and_true]
  · simp [h]
set_option maxRecDepth 100000 in
set_option maxHeartbeats 1600000 in
theorem readFreely_any (s : ByteArray) (i : Int) (w : World) (hz : s.size ≤ 1048576) :
    Calls Try.prog 32 #[.string s, .int .i64 i] w fun e w' =>
      (((0 ≤ i ∧ i ≤ 24) ∧ okS s i s.size = true ∧ s.size ≤ 24) ∧ (∃ Q, e = .returned (.pointer (some ⟨Q s.size, 0, none⟩)) ∧ Chain w.heap.size w' cntP (cntL 49 1) (cntL 49 1) s i Q s.size) ∧ Below w.heap.size w w') ∨
      (¬ ((0 ≤ i ∧ i ≤ 24) ∧ okS s i s.size = true ∧ s.size ≤ 24) ∧ e = .returned (.pointer none) ∧ Below w.heap.size w w') := by
  by_cases h24 : 24 < i
  · have HF := hide (show ¬ ((0 ≤ i ∧ i ≤ 24) ∧ okS s i s.size = true ∧ s.size ≤ 24) from fun e => by omega)
    go_enter Try.func32, Try.ntmps32
    go_wp2
    go_ret
    exact .inr ⟨HF.out, rfl, Below.refl _ _⟩
  have hle : i ≤ 24 := by omega
  have HQ := hide (pthB_free (s := s) hle)
  go_enter Try.func32, Try.ntmps32
  go_wp2_with fail
  refine (plainGround_any 49 1 _ (by omega) (by omega)).mono ?_
  rintro e w1 ⟨a1, b1, rfl, s1, s2, t1⟩
  have S1 := hide s1
  have S2 := hide s2
  clear s1 s2
  go_wp2_with fail
  refine (read_g cntP a1 49 49 (cntL 49 1) b1 49 (cntL 49 1) s i _ S1.out S2.out (by omega) (cnt_gw 49 1 (.inr rfl)) hz).mono ?_
  rintro e w2 h2
  rcases h2 with ⟨⟨y0, y1⟩, ⟨Q, rfl, hC⟩, t2⟩ | ⟨hno, rfl, t2⟩
  · have hy := hide (show (0 ≤ i ∧ i ≤ 24) ∧ okS s i s.size = true ∧ s.size ≤ 24 by
      have q := y1
      rw [show ((49 : Nat) : Int) = 49 from rfl, HQ.out] at q
      simp at q
      exact ⟨⟨y0, hle⟩, q.1, q.2⟩)
    have HC := hide (show Chain w.heap.size w2 cntP (cntL 49 1) (cntL 49 1) s i Q s.size from fun j hj => ⟨Nat.le_trans t1.size (hC j hj).1, (hC j hj).2⟩)
    have B2 := bnext t1 t2
    clear hC y1
    go_wp2
    go_ret
    exact .inl ⟨hy.out, ⟨Q, rfl, HC.out⟩, B2⟩
  · have HF := hide (show ¬ ((0 ≤ i ∧ i ≤ 24) ∧ okS s i s.size = true ∧ s.size ≤ 24) from fun e => hno ⟨e.1.1, by
      rw [show ((49 : Nat) : Int) = 49 from rfl, HQ.out, e.2.1]
      simp [e.2.2]⟩)
    have B2 := bnext t1 t2
    clear hno
    go_wp2
    go_ret
    exact .inr ⟨HF.out, rfl, B2⟩
end Go.Proofs.Ythahcnmfaghohaa
/- Contracts: ReversePath (program, model). -/
namespace Go.Proofs.Ythahcnmfaghohaa
open Go.RowKit
set_option linter.unusedVariables false
set_option linter.unusedSimpArgs false

def slN : Value → Nat
  | .slice _ n _ => n
  | _ => 0
set_option maxRecDepth 100000 in
set_option maxHeartbeats 3200000 in
theorem implReversePath (s : ByteArray) (i : Int) (w : World) (hz : s.size ≤ 1048576) :
    Calls Try.prog 18 #[.string s, .int .i64 i] w fun e w' => e = .returned (.tuple #[.string (rpV s i), .int .i64 (rpC s i)]) ∧ Below w.heap.size w w' := by
  go_enter Try.func18, Try.ntmps18
  go_wp2_with fail
  refine (readFreely_any s i _ hz).mono ?_
  rintro e w1 h1
  rcases h1 with ⟨hyes, ⟨Q, rfl, hC⟩, t1⟩ | ⟨hno, rfl, t1⟩
  · have HC := hide (show rpC s i = 0 by unfold rpC; rw [if_pos hyes])
    have HV := hide (show rpV s i = strOfNums (rvS s s.size s.size) by unfold rpV; rw [if_pos HC.out])
    have Hok := hide hyes.2.1
    have h24 := hyes.2.2
    have HCh := hide hC
    have HB := hide t1
    have hO0 : Hid (OwnY w1.heap.size w1 none 0 (byV (rvS s s.size 0))) := hide (OwnY.nil _ _)
    have hr : Below w1.heap.size w1 w1 := Below.refl _ _
    have hQ0 := hide (show s.size - 0 = s.size from rfl)
    clear hyes hC t1
    go_wp2
    go_loopw [6, 7] (fun bv sv wr => ∃ (t j : Nat) (a : Option Addr) (c : Nat), t ≤ s.size ∧ s.size - t = j ∧ bv = .pointer (some ⟨Q j, 0, none⟩) ∧ sv = .slice a t c ∧ Hid (OwnY w1.heap.size wr a c (byV (rvS s s.size t))) ∧ Below w1.heap.size w1 wr) (fun _ sv _ => s.size - slN sv)
    case atStart => exact ⟨0, s.size, none, 0, by omega, hQ0.out, rfl, rfl, hO0, hr⟩
    case round =>
      obtain ⟨t, j, a, c, ht, hj, rfl, rfl, hO, hb⟩ := hrel
      clear hO0 hr hQ0
      have hN := (HCh.out j (by omega)).2.below hb
      by_cases hlt : t < s.size
      · obtain ⟨l, rfl⟩ : ∃ l, j = l + 1 := ⟨j - 1, by omega⟩
        have n0 := hN.c0
        have n1 := hN.c1
        rw [if_neg (by omega)] at n0 n1
        rw [show l + 1 - 1 = l from rfl] at n0 n1
        have Hst := hide (show rvS s s.size (t + 1) = rvS s s.size t ++ [invC' (bt s l)] by rw [rvS, show s.size - 1 - t = l by omega])
        have Hlet := hide (okS_let Hok.out (show l < s.size by omega))
        have Hl := hide (show s.size - (t + 1) = l by omega)
        clear hN hj
        rcases Hlet.out with hc | hc | hc
        · rw [hc] at n1 Hst
          have hx : ixR 85 = 2 := rfl
          rw [hx] at n1
          have hst := hide (show byV (rvS s s.size t) ++ [.int .u8 68] = byV (rvS s s.size (t + 1)) by rw [Hst.out]; exact byV_snoc _ _)
          have hvl := hide (show (byV (rvS s s.size t)).length = t by rw [byV_len, rvS_len])
          have hi0 : ((((⟨#[68, 76, 85]⟩ : ByteArray)[0]'(by decide)).toNat : Nat) : Int) = 68 := rfl
          clear hx hc Hst
          have hba := bl1 wr (.cells #[.int .u8 68] 5)
          have hOa := hide (hO.out.below hba)
          have hcl : (wr.alloc (.cells #[.int .u8 68] 5)).cell? ⟨wr.heap.size, 0, none⟩ = some (.int .u8 68) := by simp [go_sem]
          have n1a := cell_be hba n1
          have n0a := cell_be hba n0
          have HZa := hide (show (wr.alloc (.cells #[.int .u8 68] 5)).heap.size = wr.heap.size + 1 by simp)
          have zb := hb.size
          have HQl := hide (show w1.cell? ⟨Q (l + 1), 0, none⟩ = some (.pointer (some ⟨Q l, 0, none⟩)) by have q := (HCh.out (l + 1) (by have := Hl.out; omega)).2.c0; rw [if_neg (by omega)] at q; exact q)
          go_wp2_with (at_builtin; with_reducible refine wp_appY rfl _ _ rfl w1.heap.size _ _ _ _ rfl hvl.out.symm hOa.out _ _ _ rfl hcl rfl (by omega) (by have := HZa.out; omega) ?_; intro ad' cap' w' hown' hgr hloc; have hbg := OwnY.blkG hOa.out; have hb2 : Below w1.heap.size w1 w' := (hb.trans (hba.mono zb)).grown hgr (by have := HZa.out; omega) hbg; have n0b := cell_be hb2 HQl.out; clear n0 n0a n1 n1a)
          have Hown := hide (show OwnY w1.heap.size w' ad' cap' (byV (rvS s s.size (t + 1))) by rw [← hst.out]; exact hown')
          have hvl2 := hide (show (byV (rvS s s.size t) ++ [Value.int .u8 68]).length = t + 1 by rw [List.length_append, hvl.out]; rfl)
          clear hown' hgr hloc hOa hO hcl hba hbg
          go_roundw
          case rel => exact ⟨t + 1, l, ad', cap', by omega, Hl.out, rfl, by rw [hvl.out], Hown, hb2⟩
          case measure => simp [slN, hvl2.out, hvl.out]; omega
        · rw [hc] at n1 Hst
          have hx : ixR 68 = 0 := rfl
          rw [hx] at n1
          have hst := hide (show byV (rvS s s.size t) ++ [.int .u8 85] = byV (rvS s s.size (t + 1)) by rw [Hst.out]; exact byV_snoc _ _)
          have hvl := hide (show (byV (rvS s s.size t)).length = t by rw [byV_len, rvS_len])
          have hi0 : ((((⟨#[68, 76, 85]⟩ : ByteArray)[2]'(by decide)).toNat : Nat) : Int) = 85 := rfl
          clear hx hc Hst
          have hba := bl1 wr (.cells #[.int .u8 85] 5)
          have hOa := hide (hO.out.below hba)
          have hcl : (wr.alloc (.cells #[.int .u8 85] 5)).cell? ⟨wr.heap.size, 0, none⟩ = some (.int .u8 85) := by simp [go_sem]
          have n1a := cell_be hba n1
          have n0a := cell_be hba n0
          have HZa := hide (show (wr.alloc (.cells #[.int .u8 85] 5)).heap.size = wr.heap.size + 1 by simp)
          have zb := hb.size
          have HQl := hide (show w1.cell? ⟨Q (l + 1), 0, none⟩ = some (.pointer (some ⟨Q l, 0, none⟩)) by have q := (HCh.out (l + 1) (by have := Hl.out; omega)).2.c0; rw [if_neg (by omega)] at q; exact q)
          go_wp2_with (at_builtin; with_reducible refine wp_appY rfl _ _ rfl w1.heap.size _ _ _ _ rfl hvl.out.symm hOa.out _ _ _ rfl hcl rfl (by omega) (by have := HZa.out; omega) ?_; intro ad' cap' w' hown' hgr hloc; have hbg := OwnY.blkG hOa.out; have hb2 : Below w1.heap.size w1 w' := (hb.trans (hba.mono zb)).grown hgr (by have := HZa.out; omega) hbg; have n0b := cell_be hb2 HQl.out; clear n0 n0a n1 n1a)
          have Hown := hide (show OwnY w1.heap.size w' ad' cap' (byV (rvS s s.size (t + 1))) by rw [← hst.out]; exact hown')
          have hvl2 := hide (show (byV (rvS s s.size t) ++ [Value.int .u8 85]).length = t + 1 by rw [List.length_append, hvl.out]; rfl)
          clear hown' hgr hloc hOa hO hcl hba hbg
          go_roundw
          case rel => exact ⟨t + 1, l, ad', cap', by omega, Hl.out, rfl, by rw [hvl.out], Hown, hb2⟩
          case measure => simp [slN, hvl2.out, hvl.out]; omega
        · rw [hc] at n1 Hst
          have hx : ixR 76 = 1 := rfl
          rw [hx] at n1
          have hst := hide (show byV (rvS s s.size t) ++ [.int .u8 76] = byV (rvS s s.size (t + 1)) by rw [Hst.out]; exact byV_snoc _ _)
          have hvl := hide (show (byV (rvS s s.size t)).length = t by rw [byV_len, rvS_len])
          have hi0 : ((((⟨#[68, 76, 85]⟩ : ByteArray)[1]'(by decide)).toNat : Nat) : Int) = 76 := rfl
          clear hx hc Hst
          have hba := bl1 wr (.cells #[.int .u8 76] 5)
          have hOa := hide (hO.out.below hba)
          have hcl : (wr.alloc (.cells #[.int .u8 76] 5)).cell? ⟨wr.heap.size, 0, none⟩ = some (.int .u8 76) := by simp [go_sem]
          have n1a := cell_be hba n1
          have n0a := cell_be hba n0
          have HZa := hide (show (wr.alloc (.cells #[.int .u8 76] 5)).heap.size = wr.heap.size + 1 by simp)
          have zb := hb.size
          have HQl := hide (show w1.cell? ⟨Q (l + 1), 0, none⟩ = some (.pointer (some ⟨Q l, 0, none⟩)) by have q := (HCh.out (l + 1) (by have := Hl.out; omega)).2.c0; rw [if_neg (by omega)] at q; exact q)
          go_wp2_with (at_builtin; with_reducible refine wp_appY rfl _ _ rfl w1.heap.size _ _ _ _ rfl hvl.out.symm hOa.out _ _ _ rfl hcl rfl (by omega) (by have := HZa.out; omega) ?_; intro ad' cap' w' hown' hgr hloc; have hbg := OwnY.blkG hOa.out; have hb2 : Below w1.heap.size w1 w' := (hb.trans (hba.mono zb)).grown hgr (by have := HZa.out; omega) hbg; have n0b := cell_be hb2 HQl.out; clear n0 n0a n1 n1a)
          have Hown := hide (show OwnY w1.heap.size w' ad' cap' (byV (rvS s s.size (t + 1))) by rw [← hst.out]; exact hown')
          have hvl2 := hide (show (byV (rvS s s.size t) ++ [Value.int .u8 76]).length = t + 1 by rw [List.length_append, hvl.out]; rfl)
          clear hown' hgr hloc hOa hO hcl hba hbg
          go_roundw
          case rel => exact ⟨t + 1, l, ad', cap', by omega, Hl.out, rfl, by rw [hvl.out], Hown, hb2⟩
          case measure => simp [slN, hvl2.out, hvl.out]; omega
      · have hte : t = s.size := by omega
        obtain rfl : j = 0 := by omega
        have n0 := hN.c0
        simp only [if_true] at n0
        have hcv : ∀ w', Below wr.heap.size wr w' → (convert 60 9 (.slice a t c)).run Try.prog w' = .ok (.string (strOfNums (rvS s s.size t))) w' := fun w' hb' => by
          have q := conv_bytes hO.out w' hb'
          rwa [rvS_len] at q
        have hcv0 := hcv wr (Below.refl _ _)
        have B2 := hide (HB.out.trans (hb.mono HB.out.size))
        have Hte := hide hte
        obtain ⟨X, hX⟩ : ∃ X, strOfNums (rvS s s.size t) = X := ⟨_, rfl⟩
        rw [hX] at hcv hcv0
        have HX := hide hX
        clear hN hj hX hte hlt
        go_wp2
        refine bodyPost_ret (v := .tuple #[.string X, .int .i64 0]) (by simp [results, Try.results18, go_sem]) rfl ?_
        exact ⟨by rw [HC.out, HV.out, ← HX.out, Hte.out], B2.out⟩
  · have HC := hide (show rpC s i = 2 by unfold rpC; rw [if_neg hno])
    have HV := hide (show rpV s i = ⟨#[]⟩ by unfold rpV; rw [if_neg (by rw [HC.out]; decide)])
    clear hno
    go_wp2
    refine bodyPost_ret (v := .tuple #[.string ⟨#[]⟩, .int .i64 2]) (by simp [results, Try.results18, go_sem]) rfl ?_
    exact ⟨by rw [HC.out, HV.out], t1⟩
set_option maxRecDepth 100000 in
set_option maxHeartbeats 6400000 in
theorem specReversePath (s : ByteArray) (i : Int) (w : World) (hz : s.size ≤ 1048576) :
    Calls Try.prog 17 #[.string s, .int .i64 i] w fun e w' => e = .returned (.tuple #[.string (rpV s i), .int .i64 (rpC s i)]) ∧ Below w.heap.size w w' := by
  by_cases hi : 0 ≤ i ∧ i ≤ 24
  rotate_left
  · have HC := hide (show rpC s i = 2 by unfold rpC; rw [if_neg (fun e => hi e.1)])
    have HV := hide (show rpV s i = ⟨#[]⟩ by unfold rpV; rw [if_neg (by rw [HC.out]; decide)])
    go_enter Try.func17, Try.ntmps17
    go_wp2_with fail
    refine (l01In_no i 0 24 _ hi).mono ?_
    rintro e w1 ⟨rfl, rfl⟩
    clear hi
    have hr : Below w.heap.size w w := Below.refl _ _
    go_wp2
    refine bodyPost_ret (v := .tuple #[.string ⟨#[]⟩, .int .i64 2]) (by simp [results, Try.results17, go_sem]) rfl ?_
    exact ⟨by rw [HC.out, HV.out], hr⟩
  have Hi := hide hi
  go_enter Try.func17, Try.ntmps17
  go_wp2_with fail
  refine (l01In_yes i 0 24 _ hi.1 hi.2).mono ?_
  rintro e w1 ⟨rfl, rfl⟩
  clear hi
  go_wp2_with fail
  refine (l09Heights_any s i _ hz Hi.out.1 (by have := Hi.out; omega)).mono ?_
  rintro e w2 h2
  rcases h2 with ⟨hok, rfl, t2⟩ | ⟨hok, ah, ch, rfl, oh, t2⟩
  · have HC := hide (show rpC s i = 2 by unfold rpC; rw [if_neg (fun e => by rw [hok] at e; exact absurd e.2.1 (by decide))])
    have HV := hide (show rpV s i = ⟨#[]⟩ by unfold rpV; rw [if_neg (by rw [HC.out]; decide)])
    clear hok
    go_wp2
    refine bodyPost_ret (v := .tuple #[.string ⟨#[]⟩, .int .i64 2]) (by simp [results, Try.results17, go_sem]) rfl ?_
    exact ⟨by rw [HC.out, HV.out], t2⟩
  by_cases h24 : s.size ≤ 24
  rotate_left
  · have HC := hide (show rpC s i = 2 by unfold rpC; rw [if_neg (fun e => h24 e.2.2)])
    have HV := hide (show rpV s i = ⟨#[]⟩ by unfold rpV; rw [if_neg (by rw [HC.out]; decide)])
    have hd : decide (s.size ≤ 24) = false := decide_eq_false h24
    rw [hd]
    clear hok h24 hd oh
    go_wp2
    refine bodyPost_ret (v := .tuple #[.string ⟨#[]⟩, .int .i64 2]) (by simp [results, Try.results17, go_sem]) rfl ?_
    exact ⟨by rw [HC.out, HV.out], t2⟩
  have HC := hide (show rpC s i = 0 by unfold rpC; rw [if_pos ⟨Hi.out, hok, h24⟩])
  have HV := hide (show rpV s i = strOfNums (rvS s s.size s.size) by unfold rpV; rw [if_pos HC.out])
  have hd : decide (s.size ≤ 24) = true := decide_eq_true h24
  rw [hd]
  have Hok := hide hok
  have HB := hide t2
  clear hok hd oh t2
  have ba := bl1 w2 (.cells #[] 5)
  have hO0 := hide (show OwnY w.heap.size (w2.alloc (.cells #[] 5)) (some ⟨w2.heap.size, 0, none⟩) 0 (byV (rvS s s.size 0)) from World.ownsRow_lit w2 (base := w.heap.size) (e := 5) (size := 1) #[] 0 HB.out.size (by simp) rfl)
  have hB0 := hide (HB.out.trans (ba.mono HB.out.size))
  have v0 : IntKind.i64.wrap ((s.size : Int) - 1) = (s.size : Int) - 1 := IntWalk.i64_in _ (by omega)
  clear ba
  go_wp2
  clear v0
  go_loopw [8, 9] (fun sv kv wr => ∃ (t : Nat) (a : Option Addr) (c : Nat), t ≤ s.size ∧ kv = .int .i64 ((s.size : Int) - 1 - t) ∧ sv = .slice a t c ∧ Hid (OwnY w.heap.size wr a c (byV (rvS s s.size t))) ∧ Hid (Below w.heap.size w wr)) (fun sv _ _ => s.size - slN sv)
  case atStart => exact ⟨0, _, _, by omega, by go_num, rfl, hO0, hB0⟩
  case round =>
    obtain ⟨t, a, c, ht, rfl, rfl, hO, hb⟩ := hrel
    clear hO0 hB0
    obtain ⟨kz, hkz⟩ : ∃ kz : Int, (s.size : Int) - 1 - t = kz := ⟨_, rfl⟩
    rw [hkz]
    by_cases hlt : t < s.size
    · obtain ⟨l, rfl⟩ : ∃ l : Nat, kz = l := ⟨s.size - 1 - t, by omega⟩
      have hll : l < s.size := by omega
      have hll' : (l : Int) < (s.size : Int) := by omega
      have q0 : (0 : Int) ≤ (l : Int) := by omega
      have hbt := bt_at hll
      have Hst := hide (show rvS s s.size (t + 1) = rvS s s.size t ++ [invC' (bt s l)] by rw [rvS, show s.size - 1 - t = l by omega])
      have Hlet := hide (okS_let Hok.out hll)
      have Hl := hide (show (l : Int) - 1 = (s.size : Int) - 1 - ((t + 1 : Nat) : Int) by omega)
      have v1 : IntKind.i64.wrap ((l : Int) - 1) = (l : Int) - 1 := IntWalk.i64_in _ (by omega)
      clear hkz
      rcases Hlet.out with hc | hc | hc
      · rw [hc] at hbt Hst
        have hst := hide (show byV (rvS s s.size t) ++ [.int .u8 68] = byV (rvS s s.size (t + 1)) by rw [Hst.out]; exact byV_snoc _ _)
        have hvl := hide (show (byV (rvS s s.size t)).length = t by rw [byV_len, rvS_len])
        clear hc Hst
        have hba := bl1 wr (.cells #[.int .u8 68] 5)
        have hOa := hide (hO.out.below hba)
        have hcl : (wr.alloc (.cells #[.int .u8 68] 5)).cell? ⟨wr.heap.size, 0, none⟩ = some (.int .u8 68) := by simp [go_sem]
        have HZa := hide (show (wr.alloc (.cells #[.int .u8 68] 5)).heap.size = wr.heap.size + 1 by simp)
        go_wp2_with (at_builtin; with_reducible refine wp_appY rfl _ _ rfl w.heap.size _ _ _ _ rfl hvl.out.symm hOa.out _ _ _ rfl hcl rfl (by omega) (by have := HZa.out; have := hb.out.size; omega) ?_; intro ad' cap' w' hown' hgr hloc)
        have hbg := OwnY.blkG hOa.out
        have hb2 : Hid (Below w.heap.size w w') := hide ((hb.out.trans (hba.mono hb.out.size)).grown hgr (by have := HZa.out; have := hb.out.size; omega) hbg)
        have Hown := hide (show OwnY w.heap.size w' ad' cap' (byV (rvS s s.size (t + 1))) by rw [← hst.out]; exact hown')
        have hvl2 := hide (show (byV (rvS s s.size t) ++ [Value.int .u8 68]).length = t + 1 by rw [List.length_append, hvl.out]; rfl)
        clear hown' hgr hloc hOa hO hcl hba hbg
        go_wp2
        go_roundw
        case rel => exact ⟨t + 1, ad', cap', by omega, by rw [Hl.out], by rw [hvl.out], Hown, hb2⟩
        case measure => simp [slN, hvl2.out, hvl.out]; omega
      · rw [hc] at hbt Hst
        have hst := hide (show byV (rvS s s.size t) ++ [.int .u8 85] = byV (rvS s s.size (t + 1)) by rw [Hst.out]; exact byV_snoc _ _)
        have hvl := hide (show (byV (rvS s s.size t)).length = t by rw [byV_len, rvS_len])
        clear hc Hst
        have hba := bl1 wr (.cells #[.int .u8 85] 5)
        have hOa := hide (hO.out.below hba)
        have hcl : (wr.alloc (.cells #[.int .u8 85] 5)).cell? ⟨wr.heap.size, 0, none⟩ = some (.int .u8 85) := by simp [go_sem]
        have HZa := hide (show (wr.alloc (.cells #[.int .u8 85] 5)).heap.size = wr.heap.size + 1 by simp)
        go_wp2_with (at_builtin; with_reducible refine wp_appY rfl _ _ rfl w.heap.size _ _ _ _ rfl hvl.out.symm hOa.out _ _ _ rfl hcl rfl (by omega) (by have := HZa.out; have := hb.out.size; omega) ?_; intro ad' cap' w' hown' hgr hloc)
        have hbg := OwnY.blkG hOa.out
        have hb2 : Hid (Below w.heap.size w w') := hide ((hb.out.trans (hba.mono hb.out.size)).grown hgr (by have := HZa.out; have := hb.out.size; omega) hbg)
        have Hown := hide (show OwnY w.heap.size w' ad' cap' (byV (rvS s s.size (t + 1))) by rw [← hst.out]; exact hown')
        have hvl2 := hide (show (byV (rvS s s.size t) ++ [Value.int .u8 85]).length = t + 1 by rw [List.length_append, hvl.out]; rfl)
        clear hown' hgr hloc hOa hO hcl hba hbg
        go_wp2
        go_roundw
        case rel => exact ⟨t + 1, ad', cap', by omega, by rw [Hl.out], by rw [hvl.out], Hown, hb2⟩
        case measure => simp [slN, hvl2.out, hvl.out]; omega
      · rw [hc] at hbt Hst
        have hst := hide (show byV (rvS s s.size t) ++ [.int .u8 76] = byV (rvS s s.size (t + 1)) by rw [Hst.out]; exact byV_snoc _ _)
        have hvl := hide (show (byV (rvS s s.size t)).length = t by rw [byV_len, rvS_len])
        clear hc Hst
        have hba := bl1 wr (.cells #[.int .u8 76] 5)
        have hOa := hide (hO.out.below hba)
        have hcl : (wr.alloc (.cells #[.int .u8 76] 5)).cell? ⟨wr.heap.size, 0, none⟩ = some (.int .u8 76) := by simp [go_sem]
        have HZa := hide (show (wr.alloc (.cells #[.int .u8 76] 5)).heap.size = wr.heap.size + 1 by simp)
        go_wp2_with (at_builtin; with_reducible refine wp_appY rfl _ _ rfl w.heap.size _ _ _ _ rfl hvl.out.symm hOa.out _ _ _ rfl hcl rfl (by omega) (by have := HZa.out; have := hb.out.size; omega) ?_; intro ad' cap' w' hown' hgr hloc)
        have hbg := OwnY.blkG hOa.out
        have hb2 : Hid (Below w.heap.size w w') := hide ((hb.out.trans (hba.mono hb.out.size)).grown hgr (by have := HZa.out; have := hb.out.size; omega) hbg)
        have Hown := hide (show OwnY w.heap.size w' ad' cap' (byV (rvS s s.size (t + 1))) by rw [← hst.out]; exact hown')
        have hvl2 := hide (show (byV (rvS s s.size t) ++ [Value.int .u8 76]).length = t + 1 by rw [List.length_append, hvl.out]; rfl)
        clear hown' hgr hloc hOa hO hcl hba hbg
        go_wp2
        go_roundw
        case rel => exact ⟨t + 1, ad', cap', by omega, by rw [Hl.out], by rw [hvl.out], Hown, hb2⟩
        case measure => simp [slN, hvl2.out, hvl.out]; omega
    · have hte : t = s.size := by omega
      obtain rfl : kz = -1 := by omega
      have hcv : ∀ w', Below wr.heap.size wr w' → (convert 60 9 (.slice a t c)).run Try.prog w' = .ok (.string (strOfNums (rvS s s.size t))) w' := fun w' hb' => by
        have q := conv_bytes hO.out w' hb'
        rwa [rvS_len] at q
      have hcv0 := hcv wr (Below.refl _ _)
      have Hte := hide hte
      obtain ⟨X, hX⟩ : ∃ X, strOfNums (rvS s s.size t) = X := ⟨_, rfl⟩
      rw [hX] at hcv hcv0
      have HX := hide hX
      clear hkz hX hte hlt
      go_wp2
      refine bodyPost_ret (v := .tuple #[.string X, .int .i64 0]) (by simp [results, Try.results17, go_sem]) rfl ?_
      exact ⟨by rw [HC.out, HV.out, ← HX.out, Hte.out], hb.out⟩
end Go.Proofs.Ythahcnmfaghohaa
