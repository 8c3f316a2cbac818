/- Merged texts. -/
import Derived.Test.YthahcnmfaghohaaYTC30
import Derived.Laws.BytesArg
/- Contracts: rows of strings, l09Paths (model). -/
namespace Go.Proofs.Ythahcnmfaghohaa
open Go.RowKit
set_option linter.unusedVariables false
set_option linter.unusedSimpArgs false

theorem infoT : (Try.prog.info? 9).map (fun i => (i.zero, i.size, i.bytes)) = some (some (.string ⟨#[]⟩), 1, 16) := by kernel_rfl
def OwnT (B : Nat) (w : World) (a : Option Addr) (cap : Nat) (ys : List Value) : Prop := w.ownsRow B 9 1 (.slice a ys.length cap) ys.length ys
theorem OwnT.nil (B : Nat) (w : World) : OwnT B w none 0 [] := World.ownsRow_nil _ _ _ _
theorem OwnT.below {B : Nat} {w w' : World} {a : Option Addr} {cap : Nat} {ys : List Value} (h : OwnT B w a cap ys) (hb : Below w.heap.size w w') : OwnT B w' a cap ys := by
  refine ⟨h.1, ?_⟩
  rcases h.2 with h' | ⟨g, c, cur, h1, h2, h3, h4⟩
  · exact .inl h'
  · exact .inr ⟨g, c, cur, h1, h2, (hb.block g (lt_of_block h3)).trans h3, h4⟩
theorem OwnT.blkG {B : Nat} {w : World} {a : Option Addr} {c : Nat} {ys : List Value} (h : OwnT B w a c ys) : ∀ g, blk a = some g → B ≤ g := fun g hg => by
  rcases h.2 with ⟨h1, h2⟩ | ⟨g', c', cur, h1, h2, _⟩
  · simp only [Value.slice.injEq] at h1
    rw [h1.1] at hg; cases hg
  · simp only [Value.slice.injEq] at h1
    rw [h1.1] at hg
    simp only [blk, Option.some.injEq] at hg
    omega
theorem OwnT.at {B : Nat} {w : World} {a : Option Addr} {c : Nat} {ys : List Value} (h : OwnT B w a c ys) (h0 : ys.length ≠ 0) : ∃ g, a = some ⟨g, 0, none⟩ ∧ ∀ j, j < ys.length → w.cell? ⟨g, j, none⟩ = ys[j]? := by
  rcases h.2 with ⟨h1, h2⟩ | ⟨g', c', cur, h1, _⟩
  · exact absurd h2 h0
  · simp only [Value.slice.injEq] at h1
    obtain ⟨rfl, _⟩ := h1
    exact ⟨g', rfl, fun j hj => World.ownsRow.cellAt h j (by omega)⟩
set_option maxRecDepth 100000 in
theorem op_appT {w : World} {o : Oper} {a : Act} {K : Act → World → Prop} {Q : Exit → Act → World → Prop}
    (s x : Operand) (ho : o.op = .call { callee := .builtin .append, args := #[s, x], argTypes := #[39, 39] })
    (B : Nat) (ad : Option Addr) (n cap : Nat) (ys : List Value) (hs : a.eval s = .slice ad n cap) (hn : n = ys.length) (hown : OwnT B w ad cap ys)
    (ax : Addr) (c : Nat) (z : Value) (hx : a.eval x = .slice (some ax) 1 c) (hz : w.cell? ax = some z) (hz1' : z.oneCell' = true) (hmax : n + 1 ≤ 4000000) (hB : B ≤ w.heap.size)
    (hK : ∀ ad' cap' w', OwnT B w' ad' cap' (ys ++ [z]) → w.grownBy w' (blk ad) → (blk ad' = blk ad ∨ blk ad' = some w.heap.size) → K (a.put o.dst (.slice ad' (ys ++ [z]).length cap')) w') :
    o.wp Try.prog a w K Q := by
  subst hn
  obtain ⟨i0, hi, hz0, hz1, hz2⟩ := info_parts infoT
  have hnews : ∀ j u, [z][j]? = some u → w.cell? (ax.add j) = some u := by
    intro j u hj
    cases j with
    | zero =>
      simp at hj
      subst hj
      have : ax.add 0 = ax := by cases ax; simp [Addr.add]
      rw [this]; exact hz
    | succ j => simp at hj
  have h1 : ∀ u ∈ [z], u.oneCell' = true := by
    intro u hu
    simp at hu
    subst hu
    exact hz1'
  obtain ⟨v', w1, hr, hown', hgrow, _, hloc⟩ := run_append_own_at (P := Try.prog) w B 39 o.type 9 i0 (.string ⟨#[]⟩) 1 16 Try.underlying39 hi hz0 hz1 hz2 rfl (by decide) _ _ _ hown ax 1 c [z] rfl hnews h1 (by unfold maxLen; omega) (by omega) hB
  have hb1 : ∀ (ad : Option Addr) (n c : Nat), (Value.slice ad n c).ownBlock = blk ad := fun ad n c => by cases ad <;> rfl
  rw [hb1] at hgrow hloc
  have hv : ∃ ad' cap', v' = .slice ad' (ys ++ [z]).length cap' := by
    rcases hown'.2 with ⟨h1, h2⟩ | ⟨g, c', cur, h1, h2⟩
    · exact ⟨none, 0, by rw [h1]; congr 1; simp; omega⟩
    · exact ⟨_, c', by rw [h1]; congr 1; simp⟩
  obtain ⟨ad', cap', rfl⟩ := hv
  rw [hb1] at hloc
  unfold Oper.wp execOp
  simp only [ho, resolve, invoke, builtin, Sem.run_bind, Sem.run_pure, Result.andThen_ok, List.map_toArray, List.map_cons, List.map_nil, hs, hx, hr]
  refine hK ad' cap' w1 ?_ hgrow hloc
  unfold OwnT
  have e : (ys ++ [z]).length = ys.length + 1 := by simp
  rw [e] at hown' ⊢
  exact hown'
theorem wp_appT {w : World} {ops : Array Oper} {rest : List Oper} {o : Oper} {a : Act} {Q : Exit → Act → World → Prop}
    (hgd : o.guard = none) (s x : Operand) (ho : o.op = .call { callee := .builtin .append, args := #[s, x], argTypes := #[39, 39] })
    (B : Nat) (ad : Option Addr) (n cap : Nat) (ys : List Value) (hs : a.eval s = .slice ad n cap) (hn : n = ys.length) (hown : OwnT B w ad cap ys)
    (ax : Addr) (c : Nat) (z : Value) (hx : a.eval x = .slice (some ax) 1 c) (hz : w.cell? ax = some z) (hz1' : z.oneCell' = true) (hmax : n + 1 ≤ 4000000) (hB : B ≤ w.heap.size)
    (hK : ∀ ad' cap' w', OwnT B w' ad' cap' (ys ++ [z]) → w.grownBy w' (blk ad) → (blk ad' = blk ad ∨ blk ad' = some w.heap.size) → wpList Try.prog ops Q rest (a.put o.dst (.slice ad' (ys ++ [z]).length cap')) w') :
    wpList Try.prog ops Q (o :: rest) a w :=
  wpList_plain hgd fun K hK' => op_appT s x ho B ad n cap ys hs hn hown ax c z hx hz hz1' hmax hB fun ad' cap' w' h1 h2 h3 => hK' _ _ (hK ad' cap' w' h1 h2 h3)
def stV (l : List (List Int)) : List Value := l.map (fun w => .string (strOfNums w))
theorem stV_len (l : List (List Int)) : (stV l).length = l.length := by simp [stV]
theorem stV_snoc (l : List (List Int)) (w : List Int) : stV l ++ [.string (strOfNums w)] = stV (l ++ [w]) := by simp [stV]
theorem str_cons (c : Int) (w : List Int) : (strOfNums [c]) ++ strOfNums w = strOfNums (c :: w) := by
  apply ByteArray.ext
  rw [ByteArray.data_append]
  simp [strOfNums]
theorem recL_len (h k : Int) : ∀ (n : Nat) (i : Int), ∀ w ∈ recL h k n i, w.length = n
  | 0, i => by
    intro w hw
    rw [recL] at hw
    split at hw
    · simp at hw
    · simp at hw; subst hw; rfl
  | n + 1, i => by
    intro w hw
    rw [recL] at hw
    split at hw
    · simp at hw
    · rw [List.mem_flatMap] at hw
      obtain ⟨c, _, hw⟩ := hw
      split at hw
      · simp at hw
      · rw [List.mem_map] at hw
        obtain ⟨u, hu, rfl⟩ := hw
        rw [List.length_cons, recL_len h k n _ u hu]
/-- what the model has after the first j letters -/
def prtL (h k : Int) (n : Nat) (i : Int) (j : Nat) : List (List Int) := (dluL.take j).flatMap (fun c => if i + mv c < 0 then [] else (recL h k n (i + mv c)).map (c :: ·))
theorem prt_three (h k : Int) (n : Nat) (i : Int) : prtL h k n i 3 = dluL.flatMap (fun c => if i + mv c < 0 then [] else (recL h k n (i + mv c)).map (c :: ·)) := rfl
theorem prt_0 (h k : Int) (n : Nat) (i : Int) : prtL h k n i 0 = [] := rfl
theorem prt_step (h k : Int) (n : Nat) (i : Int) (j : Nat) (c : Int) (hc : dluL[j]? = some c) : prtL h k n i (j + 1) = prtL h k n i j ++ (if i + mv c < 0 then [] else (recL h k n (i + mv c)).map (c :: ·)) := by
  unfold prtL
  have : dluL.take (j + 1) = dluL.take j ++ [c] := by rw [List.take_add_one, hc]; rfl
  rw [this, List.flatMap_append]
  simp
theorem prt_le (h k : Int) (n : Nat) (i : Int) (j : Nat) (hj : j ≤ 3) : (prtL h k n i j).length ≤ (prtL h k n i 3).length := by
  rcases (show j = 0 ∨ j = 1 ∨ j = 2 ∨ j = 3 by omega) with rfl | rfl | rfl | rfl
  · simp [prt_0]
  · rw [prt_step h k n i 2 85 rfl, prt_step h k n i 1 76 rfl, List.length_append, List.length_append]; omega
  · rw [prt_step h k n i 2 85 rfl, List.length_append]; omega
  · omega
def badL (n i k h : Nat) : Bool := decide (h < i) || decide (h < k) || decide (n < i - k) || decide (n < k - i)
set_option maxRecDepth 100000 in
set_option maxHeartbeats 3200000 in
theorem l09Paths_bad (n i k h : Nat) (w : World) (hn : n ≤ 60) (hi : i ≤ 60) (hk : k ≤ 60) (hh : h ≤ 60) (hb : badL n i k h = true) :
    Calls Try.prog 36 #[.int .i64 n, .int .i64 i, .int .i64 k, .int .i64 h] w fun e w' => ∃ a c, e = .returned (.slice a 0 c) ∧ OwnT w.heap.size w' a c (stV []) ∧ Below w.heap.size w w' := by
  have ba0 := bl1 w (.cells #[] 9)
  have hO0 := hide (show OwnT w.heap.size (w.alloc (.cells #[] 9)) (some ⟨w.heap.size, 0, none⟩) 0 (stV []) from World.ownsRow_lit w (base := w.heap.size) (e := 9) (size := 1) #[] 0 (Nat.le_refl _) (by simp) rfl)
  have v1 : IntKind.i64.wrap ((i : Int) - (k : Int)) = (i : Int) - (k : Int) := IntWalk.i64_in _ (by omega)
  have v2 : IntKind.i64.wrap ((k : Int) - (i : Int)) = (k : Int) - (i : Int) := IntWalk.i64_in _ (by omega)
  have hc : (h : Int) < (i : Int) ∨ (¬ (h : Int) < (i : Int) ∧ (h : Int) < (k : Int)) ∨ (¬ (h : Int) < (i : Int) ∧ ¬ (h : Int) < (k : Int) ∧ (n : Int) < (i : Int) - (k : Int)) ∨ (¬ (h : Int) < (i : Int) ∧ ¬ (h : Int) < (k : Int) ∧ ¬ (n : Int) < (i : Int) - (k : Int) ∧ (n : Int) < (k : Int) - (i : Int)) := by
    simp [badL] at hb; omega
  clear hb
  rcases hc with h1 | ⟨h1, h2⟩ | ⟨h1, h2, h3⟩ | ⟨h1, h2, h3, h4⟩
  all_goals
    go_enter Try.func36, Try.ntmps36
    go_wp2
    refine bodyPost_ret (v := .slice (some ⟨w.heap.size, 0, none⟩) 0 0) (by simp [results, Try.results36]) rfl ?_
    exact ⟨_, _, rfl, hO0.out, ba0⟩
set_option maxRecDepth 100000 in
set_option maxHeartbeats 6400000 in
theorem l09Paths_any (k h : Nat) (hk : k ≤ 24) (hh : h ≤ 24) : ∀ (n i : Nat) (w : World), n ≤ 24 → i + n ≤ 60 → (recL h k n i).length ≤ 400 →
    Calls Try.prog 36 #[.int .i64 n, .int .i64 i, .int .i64 k, .int .i64 h] w fun e w' => ∃ a c, e = .returned (.slice a (recL h k n i).length c) ∧ OwnT w.heap.size w' a c (stV (recL h k n i)) ∧ Below w.heap.size w w' := by
  intro n
  induction n with
  | zero =>
    intro i w hn hi hlen
    by_cases hb : badL 0 i k h = true
    · have HR : recL h k 0 i = [] := recL_bad (by simp [badL] at hb; omega)
      rw [HR]
      exact l09Paths_bad 0 i k h w (by omega) (by omega) (by omega) (by omega) hb
    · have ba1 := bl1 w (.cells #[.string ⟨#[]⟩] 9)
      have hO1 := hide (show OwnT w.heap.size (w.alloc (.cells #[.string ⟨#[]⟩] 9)) (some ⟨w.heap.size, 0, none⟩) 1 (stV [[]]) from World.ownsRow_lit w (base := w.heap.size) (e := 9) (size := 1) #[.string ⟨#[]⟩] 1 (Nat.le_refl _) (by unfold maxLen; omega) rfl)
      have HR : recL h k 0 i = [[]] := by rw [recL, if_neg (by simp [badL] at hb; omega)]
      rw [HR]
      have g1 : ¬ (h : Int) < (i : Int) := by simp [badL] at hb; omega
      have g2 : ¬ (h : Int) < (k : Int) := by simp [badL] at hb; omega
      have g3 : ¬ (0 : Int) < (i : Int) - (k : Int) := by simp [badL] at hb; omega
      have g4 : ¬ (0 : Int) < (k : Int) - (i : Int) := by simp [badL] at hb; omega
      have v1 : IntKind.i64.wrap ((i : Int) - (k : Int)) = (i : Int) - (k : Int) := IntWalk.i64_in _ (by omega)
      have v2 : IntKind.i64.wrap ((k : Int) - (i : Int)) = (k : Int) - (i : Int) := IntWalk.i64_in _ (by omega)
      clear hb hlen HR
      go_enter Try.func36, Try.ntmps36
      go_wp2
      refine bodyPost_ret (v := .slice (some ⟨w.heap.size, 0, none⟩) 1 1) (by simp [results, Try.results36]) rfl ?_
      exact ⟨_, _, rfl, hO1.out, ba1⟩
  | succ n ih =>
    intro i w hn hi hlen
    by_cases hb : badL (n + 1) i k h = true
    · have HR : recL h k (n + 1) i = [] := recL_bad (by simp [badL] at hb; push_cast; omega)
      rw [HR]
      exact l09Paths_bad (n + 1) i k h w (by omega) (by omega) (by omega) (by omega) hb
    have HR : recL h k (n + 1) i = prtL h k n i 3 := by rw [recL, if_neg (by simp [badL] at hb; omega), prt_three]
    rw [HR] at hlen ⊢
    obtain ⟨N, hN⟩ : ∃ N, n + 1 = N := ⟨_, rfl⟩
    rw [hN] at hb ⊢
    have g1 : ¬ (h : Int) < (i : Int) := by simp [badL] at hb; omega
    have g2 : ¬ (h : Int) < (k : Int) := by simp [badL] at hb; omega
    have g3 : ¬ (N : Int) < (i : Int) - (k : Int) := by simp [badL] at hb; omega
    have g4 : ¬ (N : Int) < (k : Int) - (i : Int) := by simp [badL] at hb; omega
    have v1 : IntKind.i64.wrap ((i : Int) - (k : Int)) = (i : Int) - (k : Int) := IntWalk.i64_in _ (by omega)
    have v2 : IntKind.i64.wrap ((k : Int) - (i : Int)) = (k : Int) - (i : Int) := IntWalk.i64_in _ (by omega)
    have hN0 : ¬ (N : Int) = 0 := by omega
    have HN := hide hN
    have HL := hide hlen
    have ba0 := bl1 w (.cells #[] 9)
    have hO0 := hide (show OwnT w.heap.size (w.alloc (.cells #[] 9)) (some ⟨w.heap.size, 0, none⟩) 0 (stV (prtL h k n i 0)) from World.ownsRow_lit w (base := w.heap.size) (e := 9) (size := 1) #[] 0 (Nat.le_refl _) (by simp) rfl)
    clear hb HR hN hlen
    go_enter Try.func36, Try.ntmps36
    go_wp2
    clear g1 g2 g3 g4 v1 v2 hN0
    go_loopw [9, 10] (fun ov sv wr => ∃ (j : Nat) (st : Int) (a : Option Addr) (c : Nat), j ≤ 3 ∧ Hid (st = (j : Int) - 1) ∧ sv = .int .i64 st ∧ ov = .slice a (prtL h k n i j).length c ∧ Hid (OwnT w.heap.size wr a c (stV (prtL h k n i j))) ∧ Below w.heap.size w wr) (fun _ sv _ => (2 - intOf sv).toNat)
    case atStart => exact ⟨0, -1, _, _, by omega, hide rfl, rfl, rfl, hO0, ba0⟩
    case round =>
      obtain ⟨j, st, a, c, hj, hst, rfl, rfl, hO, hb⟩ := hrel
      clear hO0 ba0
      by_cases hlt : j < 3
      · have r1 : st ≤ 1 := by have := hst.out; omega
        have r0 : -1 ≤ st := by have := hst.out; omega
        have v2 : IntKind.i64.wrap (st + 1) = (j : Int) := by rw [show st + 1 = (j : Int) by have := hst.out; omega]; exact IntWalk.i64_in _ (by omega)
        obtain ⟨L, hL, hm⟩ : ∃ L, dluL[j]? = some L ∧ mv L = (j : Int) - 1 := by
          rcases (show j = 0 ∨ j = 1 ∨ j = 2 by omega) with rfl | rfl | rfl
          · exact ⟨68, rfl, rfl⟩
          · exact ⟨76, rfl, rfl⟩
          · exact ⟨85, rfl, rfl⟩
        have Hstep := hide (prt_step h k n i j L hL)
        have Hle := hide (prt_le h k n i (j + 1) (by omega))
        by_cases hneg : (i : Int) + st < 0
        · have v1 : IntKind.i64.wrap ((i : Int) + st) = (i : Int) + st := IntWalk.i64_in _ (by omega)
          have HE := hide (show prtL h k n i (j + 1) = prtL h k n i j by rw [Hstep.out, if_pos (by rw [hm]; have := hst.out; omega)]; simp)
          have Hst2 := hide (show (j : Int) = ((j + 1 : Nat) : Int) - 1 by omega)
          go_wp2
          go_roundw
          case rel => exact ⟨j + 1, j, a, c, by omega, Hst2, rfl, by rw [HE.out], by rw [HE.out]; exact hO, hb⟩
          case measure => simp [intOf]; have := hst.out; omega
        · obtain ⟨i2, hi2⟩ : ∃ i2 : Nat, (i : Int) + st = (i2 : Int) := ⟨((i : Int) + st).toNat, by omega⟩
          have hi3 : i2 ≤ i + 1 := by omega
          have v1 : IntKind.i64.wrap ((i : Int) + st) = (i2 : Int) := by rw [hi2]; exact IntWalk.i64_in _ (by omega)
          have vN : IntKind.i64.wrap ((N : Int) - 1) = (n : Int) := by rw [show (N : Int) - 1 = (n : Int) by have := HN.out; omega]; exact IntWalk.i64_in _ (by omega)
          have HE := hide (show prtL h k n i (j + 1) = prtL h k n i j ++ (recL h k n i2).map (L :: ·) by
            have e : (i : Int) + mv L = (i2 : Int) := by rw [hm]; have := hst.out; omega
            rw [Hstep.out, e, if_neg (by omega)])
          have hq : ¬ (i2 : Int) < 0 := by omega
          have q0 : (0 : Int) ≤ (j : Int) := by omega
          have q3 : (j : Int) < 3 := by omega
          have HL2 := hide (show (prtL h k n i j).length + (recL h k n i2).length ≤ 400 by
            have e1 := HL.out
            have e2 := Hle.out
            rw [HE.out, List.length_append, List.length_map] at e2
            omega)
          have hcl3 : (wr.alloc (.cells #[.string ⟨#[68]⟩, .string ⟨#[76]⟩, .string ⟨#[85]⟩] 9)).cell? ⟨wr.heap.size, j, none⟩ = some (.string (strOfNums [L])) := by
            rcases (show j = 0 ∨ j = 1 ∨ j = 2 by omega) with rfl | rfl | rfl
            · cases hL; simp [go_sem, strOfNums]
            · cases hL; simp [go_sem, strOfNums]
            · cases hL; simp [go_sem, strOfNums]
          have hba3 := bl1 wr (.cells #[.string ⟨#[68]⟩, .string ⟨#[76]⟩, .string ⟨#[85]⟩] 9)
          have zb := hb.size
          have hO3 := hide (hO.out.below hba3)
          have hb3 := hb.trans (hba3.mono zb)
          have hblt := hide (show ∀ g, blk a = some g → g < wr.heap.size from fun g hg => by
            rcases hO.out.2 with ⟨h1, h2⟩ | ⟨g', c', cur, h1, h2, h3, _⟩
            · simp only [Value.slice.injEq] at h1
              rw [h1.1] at hg; cases hg
            · simp only [Value.slice.injEq] at h1
              rw [h1.1] at hg
              simp only [blk, Option.some.injEq] at hg
              have := lt_of_block h3
              omega)
          have hz3 := hide (show (wr.alloc (.cells #[.string ⟨#[68]⟩, .string ⟨#[76]⟩, .string ⟨#[85]⟩] 9)).heap.size = wr.heap.size + 1 by simp)
          clear hL hm hi2 hneg Hstep
          go_wp2_with fail
          refine (ih i2 _ (by omega) (by omega) (by have := HL2.out; omega)).mono ?_
          rintro e w2 ⟨a2, c2, rfl, o2, t2⟩
          have hmem := recL_len h k n i2
          obtain ⟨rest, hrest⟩ : ∃ rest, recL h k n i2 = rest := ⟨_, rfl⟩
          rw [hrest] at hmem
          have HM0 := hide hmem
          clear hmem
          rw [hrest] at HE HL2 o2 ⊢
          obtain ⟨pre, hpre⟩ : ∃ pre, prtL h k n i j = pre := ⟨_, rfl⟩
          rw [hpre] at HE HL2 hO hO3 ⊢
          have t32 := hb3.size
          have hb4 : Below w.heap.size w w2 := hb3.trans (t2.mono t32)
          have hO4 := hide (show OwnT w.heap.size w2 a c (stV (pre ++ (rest.take 0).map (L :: ·))) by rw [List.take_zero, List.map_nil, List.append_nil]; exact hO3.out.below t2)
          have HC2 := hide (show ∀ g, a2 = some ⟨g, 0, none⟩ → wr.heap.size + 1 ≤ g ∧ g < w2.heap.size ∧ ∀ x, x < rest.length → w2.cell? ⟨g, x, none⟩ = some (.string (strOfNums (rest.getD x []))) from fun g hg => by
            subst hg
            refine ⟨by have := OwnT.blkG o2 g rfl; have := hz3.out; omega, ?_, fun x hx => ?_⟩
            · rcases o2.2 with ⟨h1, _⟩ | ⟨g', c', cur, h1, h2, h3, _⟩
              · simp at h1
              · simp only [Value.slice.injEq, Option.some.injEq, Addr.mk.injEq, and_true, true_and] at h1
                have := lt_of_block h3
                omega
            · obtain ⟨g', hg', hc'⟩ := OwnT.at o2 (by rw [stV_len]; omega)
              cases hg'
              rw [hc' x (by rw [stV_len]; exact hx)]
              simp [stV, List.getD_eq_getElem?_getD, List.getElem?_eq_getElem hx])
          have HA2 := hide (show rest.length ≠ 0 → ∃ g, a2 = some ⟨g, 0, none⟩ from fun h0 => by
            obtain ⟨g', hg', _⟩ := OwnT.at o2 (by rw [stV_len]; exact h0)
            exact ⟨g', hg'⟩)
          have z2 : w.heap.size ≤ w2.heap.size := hb4.size
          have Hbl0 := hide (show ∀ g, blk a = some g → g < wr.heap.size + 1 ∨ w2.heap.size ≤ g from fun g hg => .inl (by have := hblt.out g hg; omega))
          have hbb0 : Below w2.heap.size w2 w2 := Below.refl _ _
          clear hrest hpre o2 t2 t32 hb3 hO3 hO hba3 hcl3 hblt zb v1 vN hq hb
          obtain ⟨zo, hzo⟩ : ∃ zo, wr.heap.size + 1 = zo := ⟨_, rfl⟩
          rw [hzo] at HC2 Hbl0
          clear hzo hz3
          go_wp2
          go_loopw [9, 13] (fun ov xv wr => ∃ (x : Nat) (a' : Option Addr) (c' : Nat), x ≤ rest.length ∧ xv = .int .i64 x ∧ ov = .slice a' (pre.length + x) c' ∧ Hid (OwnT w.heap.size wr a' c' (stV (pre ++ (rest.take x).map (L :: ·)))) ∧ Hid (Below w.heap.size w wr) ∧ w2.heap.size ≤ wr.heap.size ∧ Hid (∀ g, a2 = some ⟨g, 0, none⟩ → ∀ x, x < rest.length → wr.cell? ⟨g, x, none⟩ = some (.string (strOfNums (rest.getD x [])))) ∧ Hid (∀ g, blk a' = some g → g < zo ∨ w2.heap.size ≤ g)) (fun _ xv _ => rest.length - (intOf xv).toNat)
          case atStart => exact ⟨0, a, c, by omega, rfl, rfl, hO4, hide hb4, Nat.le_refl _, hide (fun g hg => (HC2.out g hg).2.2), Hbl0⟩
          case round =>
            obtain ⟨x, a', c', hx, rfl, rfl, hOx, hbx, hzx, hCx, hBx⟩ := hrel
            clear hO4 Hbl0 hbb0
            by_cases hxl : x < rest.length
            · obtain ⟨g2, rfl⟩ := HA2.out (by omega)
              have hg2 := HC2.out g2 rfl
              have ec := hCx.out g2 rfl x hxl
              have Hgetd := hide (show (rest.take (x + 1)).map (L :: ·) = (rest.take x).map (L :: ·) ++ [L :: rest.getD x []] by
                rw [List.take_add_one, List.getElem?_eq_getElem hxl, List.map_append]
                simp [List.getD_eq_getElem?_getD, List.getElem?_eq_getElem hxl])
              obtain ⟨R, hR⟩ : ∃ R, rest.getD x [] = R := ⟨_, rfl⟩
              rw [hR] at ec Hgetd
              have hsc := str_cons L R
              have hs0 : ¬ 9223372036854775807 < (strOfNums [L]).size + (strOfNums R).size := by
                have e := HM0.out (rest.getD x []) (by rw [List.getD_eq_getElem?_getD, List.getElem?_eq_getElem hxl]; exact List.getElem_mem hxl)
                rw [hR] at e
                rw [strOfNums_size, strOfNums_size, e]
                simp
                omega
              have q1 : (x : Int) < (rest.length : Int) := by omega
              have q2 : (0 : Int) ≤ (x : Int) := by omega
              have v3 : IntKind.i64.wrap ((x : Int) + 1) = (x : Int) + 1 := IntWalk.i64_in _ (by have := HL2.out; omega)
              have hba := bl1 wr (.cells #[.string (strOfNums (L :: R))] 9)
              have hOa := hide (hOx.out.below hba)
              have hcl : (wr.alloc (.cells #[.string (strOfNums (L :: R))] 9)).cell? ⟨wr.heap.size, 0, none⟩ = some (.string (strOfNums (L :: R))) := by simp [go_sem]
              have HZa := hide (show (wr.alloc (.cells #[.string (strOfNums (L :: R))] 9)).heap.size = wr.heap.size + 1 by simp)
              have hvl := hide (show (stV (pre ++ (rest.take x).map (L :: ·))).length = pre.length + x by rw [stV_len, List.length_append, List.length_map, List.length_take]; omega)
              clear hR hg2
              go_wp2_with (at_builtin; with_reducible refine wp_appT rfl _ _ rfl w.heap.size _ _ _ _ rfl hvl.out.symm hOa.out _ _ _ rfl hcl rfl (by have := HL2.out; omega) (by have := HZa.out; omega) ?_; intro ad' cap' w' hown' hgr hloc)
              have hbg := OwnT.blkG hOa.out
              have hbx2 := hide ((hbx.out.trans (hba.mono hbx.out.size)).grown hgr (by have := HZa.out; omega) hbg)
              have hg3 := HC2.out g2 rfl
              have hCx2 := hide (show ∀ g, some (⟨g2, 0, none⟩ : Addr) = some ⟨g, 0, none⟩ → ∀ x, x < rest.length → w'.cell? ⟨g, x, none⟩ = some (.string (strOfNums (rest.getD x []))) from fun g hg y hy => by
                cases hg
                exact cell_ne hgr (cell_be hba (hCx.out g2 rfl y hy)) (fun e => by
                  have := hBx.out g2 e
                  omega))
              have hBx2 := hide (show ∀ g, blk ad' = some g → g < zo ∨ w2.heap.size ≤ g from fun g hg => by
                rcases hloc with e | e
                · rw [e] at hg; exact hBx.out g hg
                · rw [e] at hg
                  cases hg
                  have := HZa.out
                  omega)
              have Hown := hide (show OwnT w.heap.size w' ad' cap' (stV (pre ++ (rest.take (x + 1)).map (L :: ·))) by
                have q := hown'
                rw [stV_snoc, List.append_assoc, ← Hgetd.out] at q
                exact q)
              have hz2 : w2.heap.size ≤ w'.heap.size := by have := hgr.size; have := HZa.out; omega
              clear hown' hgr hloc hOa hOx hcl hba hbg ec hCx hBx hbx hg3
              go_roundw
              case rel => exact ⟨x + 1, ad', cap', by omega, by go_num, by congr 1; rw [stV_len, List.length_append, List.length_take, List.length_map]; omega, Hown, hbx2, hz2, hCx2, hBx2⟩
              case measure => simp [intOf]; omega
            · have hxe : x = rest.length := by omega
              have q1 : ¬ (x : Int) < (rest.length : Int) := by omega
              have HF := hide (show OwnT w.heap.size wr a' c' (stV (prtL h k n i (j + 1))) by
                have q := hOx.out
                rw [hxe, List.take_length] at q
                rw [HE.out]; exact q)
              have HM := hide (show pre.length + x = (prtL h k n i (j + 1)).length by rw [HE.out, List.length_append, List.length_map, hxe])
              have Hst2 := hide (show (j : Int) = ((j + 1 : Nat) : Int) - 1 by omega)
              have hbx3 := hbx.out
              clear hxe hxl hOx hCx hBx
              go_wp2
              go_roundw
              case rel => exact ⟨j + 1, j, a', c', by omega, Hst2, rfl, by rw [HM.out], HF, hbx3⟩
              case measure => simp [intOf]; have := hst.out; omega
      · have hj3 : j = 3 := by omega
        subst hj3
        have hs2 : ¬ st ≤ 1 := by have := hst.out; omega
        go_wp2
        refine bodyPost_ret (v := .slice a (prtL h k n i 3).length c) (by simp [results, Try.results36]) rfl ?_
        exact ⟨_, _, rfl, hO.out, hb⟩
end Go.Proofs.Ythahcnmfaghohaa
/- Contracts: text of a node (program). -/
namespace Go.Proofs.Ythahcnmfaghohaa
open Go.RowKit
set_option linter.unusedVariables false
set_option linter.unusedSimpArgs false

theorem bt_str {wd : List Int} (hl : ∀ c ∈ wd, c ∈ dluL) (k : Nat) (hk : k < wd.length) : bt (strOfNums wd) k = wd.getD k 0 := by
  have hs : k < (strOfNums wd).size := by rw [strOfNums_size]; exact hk
  rw [← bt_at hs]
  have e : (strOfNums wd)[k]'hs = UInt8.ofNat (wd[k]'hk).toNat := by
    show (strOfNums wd).data[k]'_ = _
    simp [strOfNums]
  rw [e]
  have hm := hl (wd[k]'hk) (List.getElem_mem hk)
  have hg : wd.getD k 0 = wd[k]'hk := by simp [List.getD_eq_getElem?_getD, List.getElem?_eq_getElem hk]
  rw [hg]
  generalize wd[k]'hk = c at hm
  simp [dluL] at hm
  rcases hm with rfl | rfl | rfl <;> rfl
set_option maxRecDepth 100000 in
set_option maxHeartbeats 3200000 in
theorem text_any (p : Int) (A B : List Int) (wd : List Int) (i : Int) (Q : Nat → Nat) (lo : Nat) (w : World) (hC : Chain lo w p A B (strOfNums wd) i Q wd.length) (hn : wd.length ≤ 24) (hl : ∀ c ∈ wd, c ∈ dluL) :
    Calls Try.prog 40 #[.pointer (some ⟨Q wd.length, 0, none⟩)] w fun e w' => e = .returned (.string (strOfNums wd)) ∧ Below w.heap.size w w' := by
  have HC := hide hC
  have HLt := hide hl
  clear hC hl
  obtain ⟨n, hnn⟩ : ∃ n, wd.length = n := ⟨_, rfl⟩
  have HN := hide hnn
  rw [hnn] at HC hn ⊢
  clear hnn
  go_enter Try.func40, Try.ntmps40
  go_wp2_with fail
  refine (beginnings_any p A B (strOfNums wd) i Q lo n _ HC.out hn).mono ?_
  rintro e w1 ⟨g, c, rfl, o1, t1⟩
  have HO := hide o1
  have HC1 := hide (HC.out.below t1)
  have z1 := t1.size
  have hcap : n + 1 ≤ c := by
    rcases o1.2 with ⟨h1, _⟩ | ⟨g', c', cur, h1, _, _, h4, _⟩
    · simp at h1
    · simp only [Value.slice.injEq, Option.some.injEq, Addr.mk.injEq, and_true, true_and] at h1
      obtain ⟨_, rfl⟩ := h1
      rwa [ptV_len] at h4
  have hB1 := hide t1
  have q1 : (1 : Int) ≤ (n : Int) + 1 := by omega
  have q2 : (1 : Int) ≤ (c : Int) := by omega
  have q3 : (n : Int) + 1 ≤ (c : Int) := by omega
  have hO0 : Hid (OwnY w1.heap.size w1 none 0 (byV (wd.take 0))) := hide (OwnY.nil _ _)
  have hr : Below w1.heap.size w1 w1 := Below.refl _ _
  clear o1 t1
  by_cases hn0 : n = 0
  · subst hn0
    have hcv0 : (convert 60 9 (.slice none 0 0)).run Try.prog w1 = .ok (.string (strOfNums wd)) w1 := by
      have q := conv_bytes (xs := []) (OwnY.nil w1.heap.size w1) w1 (Below.refl _ _)
      have e : wd = [] := List.eq_nil_of_length_eq_zero HN.out
      rw [e]
      exact q
    clear hO0 hr
    by_cases hc1 : c = 1
    · subst hc1
      go_wp2
      refine wp_loop_rounds 1 ?_
      rw [rounds_succ]
      go_wp2
      refine bodyPost_ret (v := .string (strOfNums wd)) (by simp [results, Try.results40]) rfl ?_
      exact ⟨rfl, hB1.out⟩
    · have hc2 : ¬ 1 = c := fun e => hc1 e.symm
      go_wp2
      refine wp_loop_rounds 1 ?_
      rw [rounds_succ]
      go_wp2
      refine bodyPost_ret (v := .string (strOfNums wd)) (by simp [results, Try.results40]) rfl ?_
      exact ⟨rfl, hB1.out⟩
  have q4 : ¬ c = 1 := by omega
  have q5 : ¬ 1 = c := by omega
  clear hcap
  go_wp2
  go_loopw [3, 10] (fun sv kv wr => ∃ (k : Nat) (a : Option Addr) (c' : Nat), k ≤ n ∧ kv = .int .i64 k ∧ sv = .slice a k c' ∧ Hid (OwnY w1.heap.size wr a c' (byV (wd.take k))) ∧ Below w1.heap.size w1 wr) (fun _ kv _ => n - (intOf kv).toNat)
  case atStart => exact ⟨0, none, 0, by omega, rfl, rfl, hO0, hr⟩
  case round =>
    obtain ⟨k, a, c', hk, rfl, rfl, hO, hb⟩ := hrel
    clear hO0 hr
    by_cases hlt : k < n
    · have hlt' : (k : Int) < (n : Int) := by omega
      have p0 : (0 : Int) ≤ (k : Int) := by omega
      have v1 : IntKind.i64.wrap ((k : Int) + 1) = (k : Int) + 1 := IntWalk.i64_in _ (by omega)
      have ec := cell_be hb (OwnN.cellG HO.out (1 + k) (by omega))
      have hN := ((HC1.out (1 + k) (by omega)).2.below hb).c1
      rw [if_neg (by omega), show 1 + k - 1 = k by omega, bt_str HLt.out k (by rw [HN.out]; exact hlt)] at hN
      have hmem : wd.getD k 0 ∈ dluL := HLt.out _ (by
        have hk' : k < wd.length := by rw [HN.out]; exact hlt
        rw [List.getD_eq_getElem?_getD, List.getElem?_eq_getElem hk']
        exact List.getElem_mem hk')
      have Hst := hide (show wd.take (k + 1) = wd.take k ++ [wd.getD k 0] by
        have hk' : k < wd.length := by rw [HN.out]; exact hlt
        rw [List.take_add_one, List.getElem?_eq_getElem hk', List.getD_eq_getElem?_getD, List.getElem?_eq_getElem hk']
        rfl)
      have hvl := hide (show (byV (wd.take k)).length = k by rw [byV_len, List.length_take, HN.out]; omega)
      obtain ⟨L, hL⟩ : ∃ L, wd.getD k 0 = L := ⟨_, rfl⟩
      rw [hL] at hN hmem Hst
      clear hL
      have Hm := hide (show L = 68 ∨ L = 76 ∨ L = 85 by simpa [dluL] using hmem)
      clear hmem
      rcases Hm.out with hc | hc | hc
      · rw [hc] at hN Hst
        have hx : ixR 68 = 0 := rfl
        rw [hx] at hN
        have hst := hide (show byV (wd.take k) ++ [.int .u8 68] = byV (wd.take (k + 1)) by rw [Hst.out]; exact byV_snoc _ _)
        have hi0 : ((((⟨#[68, 76, 85]⟩ : ByteArray)[0]'(by decide)).toNat : Nat) : Int) = 68 := rfl
        have hba := bl1 wr (.cells #[.int .u8 68] 5)
        have hOa := hide (hO.out.below hba)
        have hcl : (wr.alloc (.cells #[.int .u8 68] 5)).cell? ⟨wr.heap.size, 0, none⟩ = some (.int .u8 68) := by simp [go_sem]
        have HZa := hide (show (wr.alloc (.cells #[.int .u8 68] 5)).heap.size = wr.heap.size + 1 by simp)
        have zb := hb.size
        clear hx hc Hst
        go_wp2_with (at_builtin; with_reducible refine wp_appY rfl _ _ rfl w1.heap.size _ _ _ _ rfl hvl.out.symm hOa.out _ _ _ rfl hcl rfl (by omega) (by have := HZa.out; omega) ?_; intro ad' cap' w' hown' hgr hloc)
        have hbg := OwnY.blkG hOa.out
        have hb2 : Below w1.heap.size w1 w' := (hb.trans (hba.mono zb)).grown hgr (by have := HZa.out; omega) hbg
        have Hown := hide (show OwnY w1.heap.size w' ad' cap' (byV (wd.take (k + 1))) by rw [← hst.out]; exact hown')
        clear hown' hgr hloc hOa hO hcl hba hbg
        go_roundw
        case rel => exact ⟨k + 1, ad', cap', by omega, by go_num, by rw [hvl.out], Hown, hb2⟩
        case measure => simp [intOf]; omega
      · rw [hc] at hN Hst
        have hx : ixR 76 = 1 := rfl
        rw [hx] at hN
        have hst := hide (show byV (wd.take k) ++ [.int .u8 76] = byV (wd.take (k + 1)) by rw [Hst.out]; exact byV_snoc _ _)
        have hi0 : ((((⟨#[68, 76, 85]⟩ : ByteArray)[1]'(by decide)).toNat : Nat) : Int) = 76 := rfl
        have hba := bl1 wr (.cells #[.int .u8 76] 5)
        have hOa := hide (hO.out.below hba)
        have hcl : (wr.alloc (.cells #[.int .u8 76] 5)).cell? ⟨wr.heap.size, 0, none⟩ = some (.int .u8 76) := by simp [go_sem]
        have HZa := hide (show (wr.alloc (.cells #[.int .u8 76] 5)).heap.size = wr.heap.size + 1 by simp)
        have zb := hb.size
        clear hx hc Hst
        go_wp2_with (at_builtin; with_reducible refine wp_appY rfl _ _ rfl w1.heap.size _ _ _ _ rfl hvl.out.symm hOa.out _ _ _ rfl hcl rfl (by omega) (by have := HZa.out; omega) ?_; intro ad' cap' w' hown' hgr hloc)
        have hbg := OwnY.blkG hOa.out
        have hb2 : Below w1.heap.size w1 w' := (hb.trans (hba.mono zb)).grown hgr (by have := HZa.out; omega) hbg
        have Hown := hide (show OwnY w1.heap.size w' ad' cap' (byV (wd.take (k + 1))) by rw [← hst.out]; exact hown')
        clear hown' hgr hloc hOa hO hcl hba hbg
        go_roundw
        case rel => exact ⟨k + 1, ad', cap', by omega, by go_num, by rw [hvl.out], Hown, hb2⟩
        case measure => simp [intOf]; omega
      · rw [hc] at hN Hst
        have hx : ixR 85 = 2 := rfl
        rw [hx] at hN
        have hst := hide (show byV (wd.take k) ++ [.int .u8 85] = byV (wd.take (k + 1)) by rw [Hst.out]; exact byV_snoc _ _)
        have hi0 : ((((⟨#[68, 76, 85]⟩ : ByteArray)[2]'(by decide)).toNat : Nat) : Int) = 85 := rfl
        have hba := bl1 wr (.cells #[.int .u8 85] 5)
        have hOa := hide (hO.out.below hba)
        have hcl : (wr.alloc (.cells #[.int .u8 85] 5)).cell? ⟨wr.heap.size, 0, none⟩ = some (.int .u8 85) := by simp [go_sem]
        have HZa := hide (show (wr.alloc (.cells #[.int .u8 85] 5)).heap.size = wr.heap.size + 1 by simp)
        have zb := hb.size
        clear hx hc Hst
        go_wp2_with (at_builtin; with_reducible refine wp_appY rfl _ _ rfl w1.heap.size _ _ _ _ rfl hvl.out.symm hOa.out _ _ _ rfl hcl rfl (by omega) (by have := HZa.out; omega) ?_; intro ad' cap' w' hown' hgr hloc)
        have hbg := OwnY.blkG hOa.out
        have hb2 : Below w1.heap.size w1 w' := (hb.trans (hba.mono zb)).grown hgr (by have := HZa.out; omega) hbg
        have Hown := hide (show OwnY w1.heap.size w' ad' cap' (byV (wd.take (k + 1))) by rw [← hst.out]; exact hown')
        clear hown' hgr hloc hOa hO hcl hba hbg
        go_roundw
        case rel => exact ⟨k + 1, ad', cap', by omega, by go_num, by rw [hvl.out], Hown, hb2⟩
        case measure => simp [intOf]; omega
    · have hke := hide (show k = n by omega)
      have hge : ¬ (k : Int) < (n : Int) := by omega
      have hcv : ∀ w', Below wr.heap.size wr w' → (convert 60 9 (.slice a k c')).run Try.prog w' = .ok (.string (strOfNums wd)) w' := fun w' hb' => by
        have q := conv_bytes hO.out w' hb'
        rw [hke.out, ← HN.out, List.take_length] at q
        rw [hke.out, ← HN.out]
        exact q
      have hcv0 := hcv wr (Below.refl _ _)
      have B2 := hide (hB1.out.trans (hb.mono z1))
      clear hlt
      go_wp2
      refine bodyPost_ret (v := .string (strOfNums wd)) (by simp [results, Try.results40]) rfl ?_
      exact ⟨rfl, B2.out⟩
end Go.Proofs.Ythahcnmfaghohaa
