/- Merged texts. -/
import Derived.Test.YthahcnmfaghohaaYTC31
/- Chains of nodes along words (for paths, PathsOf). -/
namespace Go.Proofs.Ythahcnmfaghohaa
open Go.RowKit
set_option linter.unusedVariables false
set_option linter.unusedSimpArgs false

theorem ext_letters {u : List Int} {c : Int} (hu : ∀ d ∈ u, d ∈ dluL) (hc : c ∈ dluL) : ∀ d ∈ u ++ [c], d ∈ dluL := by
  intro d hd
  rw [List.mem_append] at hd
  rcases hd with hd | hd
  · exact hu d hd
  · simp at hd; rw [hd]; exact hc
theorem bt_ext {u : List Int} {c : Int} (hu : ∀ d ∈ u, d ∈ dluL) (hc : c ∈ dluL) (j : Nat) (hj : j < u.length) : bt (strOfNums (u ++ [c])) j = bt (strOfNums u) j := by
  rw [bt_str (ext_letters hu hc) j (by simp; omega), bt_str hu j hj]
  simp [List.getD_eq_getElem?_getD, List.getElem?_append_left hj]
theorem bt_last {u : List Int} {c : Int} (hu : ∀ d ∈ u, d ∈ dluL) (hc : c ∈ dluL) : bt (strOfNums (u ++ [c])) u.length = c := by
  rw [bt_str (ext_letters hu hc) _ (by simp)]
  simp [List.getD_eq_getElem?_getD]
theorem dl_mv (c : Int) : dl c = mv c := rfl
theorem hg_ext {u : List Int} {c i : Int} (hu : ∀ d ∈ u, d ∈ dluL) (hc : c ∈ dluL) : ∀ k, k ≤ u.length → hg (strOfNums (u ++ [c])) i k = hg (strOfNums u) i k
  | 0, _ => rfl
  | k + 1, hk => by rw [hg, hg, hg_ext hu hc k (by omega), bt_ext hu hc k (by omega)]
theorem wg_ext {p : Int} {A B : List Int} {u : List Int} {c i : Int} (hu : ∀ d ∈ u, d ∈ dluL) (hc : c ∈ dluL) : ∀ k, k ≤ u.length → wg p A B (strOfNums (u ++ [c])) i k = wg p A B (strOfNums u) i k
  | 0, _ => rfl
  | k + 1, hk => by rw [wg, wg, wg_ext hu hc k (by omega), bt_ext hu hc k (by omega), hg_ext hu hc k (by omega)]
theorem hg_end {i : Int} : ∀ (n : Nat) (u : List Int), u.length = n → (∀ d ∈ u, d ∈ dluL) → hg (strOfNums u) i n = endH i u
  | 0, u, hn, hu => by
    rw [List.eq_nil_of_length_eq_zero hn]
    rfl
  | n + 1, u, hn, hu => by
    obtain ⟨v, c, rfl⟩ : ∃ v c, u = v ++ [c] := ⟨u.dropLast, u.getLast (by intro e; rw [e] at hn; simp at hn), (List.dropLast_concat_getLast _).symm⟩
    have hv : ∀ d ∈ v, d ∈ dluL := fun d hd => hu d (List.mem_append_left _ hd)
    have hc : c ∈ dluL := hu c (by simp)
    have hvn : v.length = n := by simpa using hn
    rw [hg, hg_ext hv hc n (by omega), hg_end n v hvn hv, endH_snoc, ← hvn, bt_last hv hc]
    rfl
/-- one node more -/
theorem chain_ext {lo : Nat} {w : World} {p : Int} {A B : List Int} {u : List Int} {c i : Int} {Q : Nat → Nat} {q : Nat} (hu : ∀ d ∈ u, d ∈ dluL) (hc : c ∈ dluL) (hC : Chain lo w p A B (strOfNums u) i Q u.length) (hq : lo ≤ q)
    (hN : Node w q (some ⟨Q u.length, 0, none⟩) (ixR c) (hg (strOfNums (u ++ [c])) i (u.length + 1)) (wg p A B (strOfNums (u ++ [c])) i (u.length + 1))) :
    Chain lo w p A B (strOfNums (u ++ [c])) i (fun j => if j = u.length + 1 then q else Q j) (u.length + 1) := by
  refine Chain.push (k := u.length) ?_ hq (by rw [bt_last hu hc]; exact hN)
  intro j hj
  obtain ⟨h1, h2⟩ := hC j hj
  refine ⟨h1, ?_⟩
  rw [hg_ext hu hc j hj, wg_ext hu hc j hj]
  by_cases e : j = 0
  · subst e; exact h2
  · rw [if_neg e] at h2 ⊢
    rw [if_neg e] at h2 ⊢
    rw [bt_ext hu hc (j - 1) (by omega)]
    exact h2
/-- the ends of the beginnings of a length -/
def NdOk (lo : Nat) (w : World) (A B : List Int) (i : Int) (t : Nat) (ws : List (List Int)) (ns : Nat → Nat) : Prop :=
  ∀ x, x < ws.length → ∃ Q : Nat → Nat, ns x = Q t ∧ Chain lo w cntP A B (strOfNums (ws.getD x [])) i Q t
theorem NdOk.below {lo : Nat} {w w' : World} {A B : List Int} {i : Int} {t : Nat} {ws : List (List Int)} {ns : Nat → Nat} (h : NdOk lo w A B i t ws ns) (b : Below w.heap.size w w') : NdOk lo w' A B i t ws ns := fun x hx => by
  obtain ⟨Q, h1, h2⟩ := h x hx
  exact ⟨Q, h1, h2.below b⟩
/-- new ends, each behind one of the old -/
def NdNew (lo : Nat) (w : World) (A B : List Int) (i : Int) (t : Nat) (ws : List (List Int)) (ns : Nat → Nat) (us : List (List Int)) (ms : Nat → Nat) : Prop :=
  ∀ x, x < us.length → lo ≤ ms x ∧ ∃ y c, y < ws.length ∧ c ∈ dluL ∧ us.getD x [] = ws.getD y [] ++ [c] ∧ Node w (ms x) (some ⟨ns y, 0, none⟩) (ixR c) (hg (strOfNums (us.getD x [])) i (t + 1)) (wg cntP A B (strOfNums (us.getD x [])) i (t + 1))
theorem NdNew.ok {lo lo' : Nat} {w : World} {A B : List Int} {i : Int} {t : Nat} {ws us : List (List Int)} {ns ms : Nat → Nat} (h : NdNew lo' w A B i t ws ns us ms) (ho : NdOk lo w A B i t ws ns) (hl : lo ≤ lo') (hw : ∀ u ∈ ws, u.length = t ∧ ∀ c ∈ u, c ∈ dluL) : NdOk lo w A B i (t + 1) us ms := fun x hx => by
  obtain ⟨h0, y, c, hy, hc, he, hN⟩ := h x hx
  obtain ⟨Q, h1, h2⟩ := ho y hy
  have hm : ws.getD y [] ∈ ws := by
    rw [List.getD_eq_getElem?_getD, List.getElem?_eq_getElem hy]; exact List.getElem_mem hy
  obtain ⟨w1, w2⟩ := hw _ hm
  generalize ws.getD y [] = u at *
  subst w1
  refine ⟨_, ?_, by rw [he]; exact chain_ext w2 hc h2 (q := ms x) (by omega) (by rw [← h1, ← he]; exact hN)⟩
  simp
theorem NdNew.below {lo : Nat} {w w' : World} {A B : List Int} {i : Int} {t : Nat} {ws us : List (List Int)} {ns ms : Nat → Nat} (h : NdNew lo w A B i t ws ns us ms) (b : Below w.heap.size w w') : NdNew lo w' A B i t ws ns us ms := fun x hx => by
  obtain ⟨h0, y, c, hy, hc, he, hN⟩ := h x hx
  exact ⟨h0, y, c, hy, hc, he, hN.below b⟩
theorem NdNew.snoc {lo : Nat} {w : World} {A B : List Int} {i : Int} {t : Nat} {ws us : List (List Int)} {ns ms : Nat → Nat} {q y : Nat} {c : Int} (h : NdNew lo w A B i t ws ns us ms) (hq : lo ≤ q) (hy : y < ws.length) (hc : c ∈ dluL)
    (hN : Node w q (some ⟨ns y, 0, none⟩) (ixR c) (hg (strOfNums (ws.getD y [] ++ [c])) i (t + 1)) (wg cntP A B (strOfNums (ws.getD y [] ++ [c])) i (t + 1))) :
    NdNew lo w A B i t ws ns (us ++ [ws.getD y [] ++ [c]]) (fun x => if x = us.length then q else ms x) := fun x hx => by
  rw [List.length_append, List.length_singleton] at hx
  by_cases e : x = us.length
  · subst e
    have hg1 : (us ++ [ws.getD y [] ++ [c]]).getD us.length [] = ws.getD y [] ++ [c] := by simp [List.getD_eq_getElem?_getD]
    rw [hg1]
    simp only [if_true]
    exact ⟨hq, y, c, hy, hc, rfl, hN⟩
  · have hx' : x < us.length := by omega
    have hg1 : (us ++ [ws.getD y [] ++ [c]]).getD x [] = us.getD x [] := by simp [List.getD_eq_getElem?_getD, List.getElem?_append_left hx']
    rw [hg1]
    simp only [if_neg e]
    exact h x hx'
end Go.Proofs.Ythahcnmfaghohaa
/- Contracts: paths (program). -/
namespace Go.Proofs.Ythahcnmfaghohaa
open Go.RowKit
set_option linter.unusedVariables false
set_option linter.unusedSimpArgs false

theorem OwnN.monoN {B B' : Nat} {w : World} {a : Option Addr} {c : Nat} {ys : List Value} (h : OwnN B w a c ys) (hB : B' ≤ B) : OwnN B' w a c ys := by
  refine ⟨h.1, ?_⟩
  rcases h.2 with q | ⟨g, cc, cur, q1, q2, q3⟩
  · exact .inl q
  · exact .inr ⟨g, cc, cur, q1, Nat.le_trans hB q2, q3⟩
theorem OwnN.blkLtN {B : Nat} {w : World} {a : Option Addr} {c : Nat} {ys : List Value} (h : OwnN B w a c ys) : ∀ g, blk a = some g → g < w.heap.size := fun g hg => by
  rcases h.2 with ⟨h1, h2⟩ | ⟨g', c', cur, h1, h2, h3, _⟩
  · simp only [Value.slice.injEq] at h1
    rw [h1.1] at hg; cases hg
  · simp only [Value.slice.injEq] at h1
    rw [h1.1] at hg
    simp only [blk, Option.some.injEq] at hg
    have := lt_of_block h3
    omega
theorem Node.grown {w w' : World} {q : Nat} {bf : Option Addr} {st H W : Int} {a : Option Addr} (h : Node w q bf st H W) (hgr : w.grownBy w' (blk a)) (hd : blk a ≠ some q) : Node w' q bf st H W :=
  ⟨cell_ne hgr h.c0 hd, cell_ne hgr h.c1 hd, cell_ne hgr h.c2 hd, cell_ne hgr h.c3 hd⟩
theorem NdNew.grown {lo : Nat} {w w' : World} {A B : List Int} {i : Int} {t : Nat} {ws us : List (List Int)} {ns ms : Nat → Nat} {a : Option Addr} (h : NdNew lo w A B i t ws ns us ms) (hgr : w.grownBy w' (blk a)) (hd : ∀ x, x < us.length → blk a ≠ some (ms x)) : NdNew lo w' A B i t ws ns us ms := fun x hx => by
  obtain ⟨h0, y, c, hy, hc, he, hN⟩ := h x hx
  exact ⟨h0, y, c, hy, hc, he, hN.grown hgr (hd x hx)⟩
theorem getD_memW {ws : List (List Int)} {y : Nat} (hy : y < ws.length) : ws.getD y [] ∈ ws := by
  rw [List.getD_eq_getElem?_getD, List.getElem?_eq_getElem hy]; exact List.getElem_mem hy
/-- the ways on, of the first m letters -/
def extM (h k left i : Int) (u : List Int) (m : Nat) : List (List Int) := ((dluL.take m).filter (fun c => okStep h k left (endH i u + mv c))).map (fun c => u ++ [c])
theorem extM_3 (h k left i : Int) (u : List Int) : extM h k left i u 3 = ext1 h k left i u := rfl
theorem extM_0 (h k left i : Int) (u : List Int) : extM h k left i u 0 = [] := rfl
theorem extM_step (h k left i : Int) (u : List Int) (m : Nat) (c : Int) (hc : dluL[m]? = some c) : extM h k left i u (m + 1) = extM h k left i u m ++ (if okStep h k left (endH i u + mv c) then [u ++ [c]] else []) := by
  unfold extM
  have : dluL.take (m + 1) = dluL.take m ++ [c] := by rw [List.take_add_one, hc]; rfl
  rw [this, List.filter_append, List.map_append]
  congr 1
  by_cases e : okStep h k left (endH i u + mv c) = true
  · rw [if_pos e]; simp [e]
  · rw [if_neg e]; simp [e]
theorem extM_len (h k left i : Int) (u : List Int) (m : Nat) : (extM h k left i u m).length ≤ 3 := by
  unfold extM
  rw [List.length_map]
  exact Nat.le_trans (List.length_filter_le _ _) (by simp [dluL]; omega)
theorem takeFM {ws : List (List Int)} (f : List Int → List (List Int)) (y : Nat) (hy : y < ws.length) : (ws.take (y + 1)).flatMap f = (ws.take y).flatMap f ++ f (ws.getD y []) := by
  rw [List.take_add_one, List.getElem?_eq_getElem hy, List.flatMap_append]
  simp [List.getD_eq_getElem?_getD, List.getElem?_eq_getElem hy]
theorem takeFM_len {ws : List (List Int)} (f : List Int → List (List Int)) (hf : ∀ u, (f u).length ≤ 3) (y : Nat) : ((ws.take y).flatMap f).length ≤ 3 * y := by
  induction y generalizing ws with
  | zero => simp
  | succ y ih =>
    cases ws with
    | nil => simp
    | cons u ws =>
      have := ih (ws := ws)
      have := hf u
      simp only [List.take_succ_cons, List.flatMap_cons, List.length_append]
      omega
theorem mv_dst (m : Nat) (c : Int) (hc : dluL[m]? = some c) : mv c = dst m ∧ ixR c = m ∧ c ∈ dluL ∧ m ≤ 2 := by
  rcases (show m = 0 ∨ m = 1 ∨ m = 2 ∨ 3 ≤ m by omega) with rfl | rfl | rfl | h
  · cases hc; exact ⟨rfl, rfl, by simp [dluL], by omega⟩
  · cases hc; exact ⟨rfl, rfl, by simp [dluL], by omega⟩
  · cases hc; exact ⟨rfl, rfl, by simp [dluL], by omega⟩
  · rw [List.getElem?_eq_none (by simp [dluL]; omega)] at hc; cases hc
set_option maxRecDepth 100000 in
set_option maxHeartbeats 6400000 in
theorem paths_any (n i k h : Nat) (a : Option Addr) (c : Nat) (b : Option Addr) (d : Nat) (w : World) (hA : SL w a (h + 1) c (cntL (h + 1) 1)) (hB : SL w b (h + 1) d (cntL (h + 1) 1)) (hn : n ≤ 24) (hi : i ≤ h) (hk : k ≤ h) (hh : h ≤ 24) (hok : okStep h k n i = true) (hlen : ∀ t, t ≤ n → (bfsL h k i n t).length ≤ 400) :
    Calls Try.prog 39 #[jac cntP a (h + 1) c b (h + 1) d, .int .i64 n, .int .i64 i, .int .i64 k] w fun e w' => ∃ a' c' ns, e = .returned (.slice a' (bfsL h k i n n).length c') ∧ OwnN w.heap.size w' a' c' (ptV ns (bfsL h k i n n).length) ∧ NdOk w.heap.size w' (cntL (h + 1) 1) (cntL (h + 1) 1) i n (bfsL h k i n n) ns ∧ Below w.heap.size w w' := by
  have HL := hide hlen
  have HInv := hide (bfs_inv (h := h) (k := k) (i := i) (N := n) (by omega) hok)
  have HA := hide hA
  have HB := hide hB
  clear hlen hok hA hB
  go_enter Try.func39, Try.ntmps39
  go_wp2
  have b0 := bl1 w (.cells #[.int .i64 cntP, .slice a (h + 1) c, .slice b (h + 1) d] 52)
  have b1 := bl1 (w.alloc (.cells #[.int .i64 cntP, .slice a (h + 1) c, .slice b (h + 1) d] 52)) (.cells #[.pointer none, .int .i64 0, .int .i64 i, .int .i64 1] 56)
  have b2 := bl1 ((w.alloc (.cells #[.int .i64 cntP, .slice a (h + 1) c, .slice b (h + 1) d] 52)).alloc (.cells #[.pointer none, .int .i64 0, .int .i64 i, .int .i64 1] 56)) (.cells #[.pointer (some ⟨w.heap.size + 1, 0, none⟩)] 50)
  have HW0 := hide (bnext (bnext b0 b1) b2)
  obtain ⟨w0, hw0⟩ : ∃ w0, w0 = ((w.alloc (.cells #[.int .i64 cntP, .slice a (h + 1) c, .slice b (h + 1) d] 52)).alloc (.cells #[.pointer none, .int .i64 0, .int .i64 i, .int .i64 1] 56)).alloc (.cells #[.pointer (some ⟨w.heap.size + 1, 0, none⟩)] 50) := ⟨_, rfl⟩
  have HF0 := hide (show w0.cell? ⟨w.heap.size, 0, none⟩ = some (.int .i64 cntP) ∧ w0.cell? ⟨w.heap.size, 1, none⟩ = some (.slice a (h + 1) c) ∧ w0.cell? ⟨w.heap.size, 2, none⟩ = some (.slice b (h + 1) d) by
    rw [hw0]; exact ⟨cell_be (bnext b1 b2) (by simp [go_sem]), cell_be (bnext b1 b2) (by simp [go_sem]), cell_be (bnext b1 b2) (by simp [go_sem])⟩)
  have HO0 := hide (show OwnN w.heap.size w0 (some ⟨w.heap.size + 1 + 1, 0, none⟩) 1 (ptV (fun _ => w.heap.size + 1) (bfsL h k i n 0).length) by
    rw [hw0]
    have q := World.ownsRow_lit ((w.alloc (.cells #[.int .i64 cntP, .slice a (h + 1) c, .slice b (h + 1) d] 52)).alloc (.cells #[.pointer none, .int .i64 0, .int .i64 i, .int .i64 1] 56)) (base := w.heap.size) (e := 50) (size := 1) #[.pointer (some ⟨w.heap.size + 1, 0, none⟩)] 1 (by simp; omega) (by unfold maxLen; omega) rfl
    simpa [OwnN, ptV, ptr, bfsL] using q)
  have HN0 := hide (show NdOk w.heap.size w0 (cntL (h + 1) 1) (cntL (h + 1) 1) i 0 (bfsL h k i n 0) (fun _ => w.heap.size + 1) from fun x hx => by
    refine ⟨fun _ => w.heap.size + 1, rfl, fun j hj => ⟨Nat.le_succ _, ?_⟩⟩
    obtain rfl : j = 0 := by omega
    rw [hw0]
    refine ⟨cell_be b2 ?_, cell_be b2 ?_, cell_be b2 ?_, cell_be b2 ?_⟩
    · simp [go_sem]
    · simp [go_sem]
    · simp [go_sem, hg]
    · simp [go_sem, wg])
  rw [← hw0] at HW0 ⊢
  have Z0 := hide (show w.heap.size < w0.heap.size by rw [hw0]; simp; omega)
  have v0 : IntKind.i64.wrap ((n : Int) - 1) = (n : Int) - 1 := IntWalk.i64_in _ (by omega)
  clear hw0 b0 b1 b2
  go_loopw [9, 10] (fun ev lv wr => ∃ (t : Nat) (left : Int) (a' : Option Addr) (c' : Nat) (ns : Nat → Nat), t ≤ n ∧ Hid (left = (n : Int) - 1 - t) ∧ lv = .int .i64 left ∧ ev = .slice a' (bfsL h k i n t).length c' ∧ Hid (OwnN w.heap.size wr a' c' (ptV ns (bfsL h k i n t).length)) ∧ Hid (NdOk w.heap.size wr (cntL (h + 1) 1) (cntL (h + 1) 1) i t (bfsL h k i n t) ns) ∧ Hid (Below w.heap.size w wr) ∧ Hid (wr.cell? ⟨w.heap.size, 0, none⟩ = some (.int .i64 cntP) ∧ wr.cell? ⟨w.heap.size, 1, none⟩ = some (.slice a (h + 1) c) ∧ wr.cell? ⟨w.heap.size, 2, none⟩ = some (.slice b (h + 1) d)) ∧ w.heap.size < wr.heap.size) (fun _ lv _ => (intOf lv + 1).toNat)
  case atStart => exact ⟨0, (n : Int) - 1, _, 1, _, by omega, hide (by omega), rfl, rfl, HO0, HN0, HW0, HF0, Z0.out⟩
  case round =>
    obtain ⟨t, left, a', c', ns, ht, hleft, rfl, rfl, hO, hNd, hW, hF, hz⟩ := hrel
    clear HO0 HN0 HW0 HF0 Z0
    by_cases hlt : t < n
    · have hl0 : 0 ≤ left := by have := hleft.out; omega
      have hl24 : left ≤ 24 := by have := hleft.out; omega
      have vl : IntKind.i64.wrap (left - 1) = left - 1 := IntWalk.i64_in _ (by omega)
      have HE := hide (show bfsL h k i n (t + 1) = (bfsL h k i n t).flatMap (ext1 h k left i) by rw [bfsL, show (n : Int) - (t + 1) = left by have := hleft.out; omega])
      have HWd := hide (bfs_mem (h := h) (k := k) (i := i) (N := n) t)
      have HOk := hide (HInv.out t (by omega)).2
      have HLt := hide (HL.out t (by omega))
      obtain ⟨ws, hws⟩ : ∃ ws, bfsL h k i n t = ws := ⟨_, rfl⟩
      rw [hws] at HE HWd HOk HLt hO hNd ⊢
      clear hws
      have hOn : Hid (OwnN wr.heap.size wr none 0 (ptV (fun _ => 0) 0)) := hide (OwnN.nil _ _)
      have hNn : Hid (NdNew wr.heap.size wr (cntL (h + 1) 1) (cntL (h + 1) 1) i t ws ns [] (fun _ => 0)) := hide (fun x hx => by simp at hx)
      have hrr : Below wr.heap.size wr wr := Below.refl _ _
      obtain ⟨wo, hwo⟩ : ∃ wo : World, wo = wr := ⟨_, rfl⟩
      subst hwo
      go_wp2
      go_loopw [11, 28] (fun ov yv wr => ∃ (y : Nat) (us : List (List Int)) (ms : Nat → Nat) (a2 : Option Addr) (c2 : Nat), y ≤ ws.length ∧ yv = .int .i64 y ∧ Hid (us = (ws.take y).flatMap (ext1 h k left i)) ∧ ov = .slice a2 us.length c2 ∧ Hid (OwnN wo.heap.size wr a2 c2 (ptV ms us.length)) ∧ Hid (NdNew wo.heap.size wr (cntL (h + 1) 1) (cntL (h + 1) 1) i t ws ns us ms) ∧ Hid (∀ x, x < us.length → blk a2 ≠ some (ms x)) ∧ Below wo.heap.size wo wr) (fun _ yv _ => ws.length - (intOf yv).toNat)
      case atStart => exact ⟨0, [], _, none, 0, by omega, rfl, hide rfl, rfl, hOn, hNn, hide (fun x hx => by simp at hx), hrr⟩
      case round =>
        obtain ⟨y, us, ms, a2, c2, hy, rfl, hus, rfl, hO2, hN2, hD2, hb2⟩ := hrel
        clear hOn hNn hrr
        by_cases hylt : y < ws.length
        · have hylt' : (y : Int) < (ws.length : Int) := by omega
          have p0 : (0 : Int) ≤ (y : Int) := by omega
          have vy : IntKind.i64.wrap ((y : Int) + 1) = (y : Int) + 1 := IntWalk.i64_in _ (by have := HLt.out; omega)
          obtain ⟨g', rfl, _⟩ := hO.out.at (by rw [ptV_len]; omega)
          have ec := cell_be hb2 (OwnN.cellG hO.out y hylt)
          have Hu := hide (HWd.out (ws.getD y []) (getD_memW hylt))
          have Hx := hide (HOk.out (ws.getD y []) (getD_memW hylt))
          have Hus2 := hide (takeFM (ext1 h k left i) y hylt)
          have HusL := hide (show us.length ≤ 1200 by
            have := takeFM_len (ws := ws) (ext1 h k left i) (fun u => extM_len h k left i u 3) y
            rw [hus.out]; have := HLt.out; omega)
          have HNy := hide (hNd.out y hylt)
          obtain ⟨wd, hwd⟩ : ∃ wd, ws.getD y [] = wd := ⟨_, rfl⟩
          rw [hwd] at Hu Hx Hus2 HNy
          have HWD := hide hwd
          clear hwd
          go_wp2_with fail
          refine (moves_any _).mono ?_
          rintro e w4 ⟨rfl, t4⟩
          have hb4 := hb2.trans (t4.mono hb2.size)
          have hO4 := hide (show OwnN wo.heap.size w4 a2 c2 (ptV ms (us ++ extM h k left i wd 0).length) by rw [extM_0, List.append_nil]; exact hO2.out.below t4)
          have hN4 := hide (show NdNew wo.heap.size w4 (cntL (h + 1) 1) (cntL (h + 1) 1) i t ws ns (us ++ extM h k left i wd 0) ms by rw [extM_0, List.append_nil]; exact hN2.out.below t4)
          have hD4 := hide (show ∀ x, x < (us ++ extM h k left i wd 0).length → blk a2 ≠ some (ms x) by rw [extM_0, List.append_nil]; exact hD2.out)
          clear ec t4 hO2 hN2 hD2 hb2
          go_wp2
          go_loopw [11, 33] (fun ov mv' wr => ∃ (m : Nat) (vs : List (List Int)) (ms : Nat → Nat) (a2 : Option Addr) (c2 : Nat), m ≤ 3 ∧ mv' = .int .i64 m ∧ Hid (vs = us ++ extM h k left i wd m) ∧ ov = .slice a2 vs.length c2 ∧ Hid (OwnN wo.heap.size wr a2 c2 (ptV ms vs.length)) ∧ Hid (NdNew wo.heap.size wr (cntL (h + 1) 1) (cntL (h + 1) 1) i t ws ns vs ms) ∧ Hid (∀ x, x < vs.length → blk a2 ≠ some (ms x)) ∧ Below wo.heap.size wo wr) (fun _ mv' _ => 3 - (intOf mv').toNat)
          case atStart => exact ⟨0, us ++ extM h k left i wd 0, ms, a2, c2, by omega, rfl, hide rfl, by rw [extM_0, List.append_nil], hO4, hN4, hD4, hb4⟩
          case round =>
            obtain ⟨m, vs, ms, a2, c2, hm, rfl, hvs, rfl, hO2, hN2, hD2, hb2⟩ := hrel
            clear hO4 hN4 hD4 hb4
            by_cases hm3 : m < 3
            · have hm3' : (m : Int) < 3 := by omega
              have m0 : (0 : Int) ≤ (m : Int) := by omega
              have vm : IntKind.i64.wrap ((m : Int) + 1) = (m : Int) + 1 := IntWalk.i64_in _ (by omega)
              obtain ⟨L, hL⟩ : ∃ L, dluL[m]? = some L := ⟨dluL[m]'(by simp [dluL]; omega), List.getElem?_eq_getElem _⟩
              obtain ⟨hmv, hix, hLm, hm2⟩ := mv_dst m L hL
              have Hstep := hide (extM_step h k left i wd m L hL)
              have hx' := of_decide_eq_true Hx.out
              obtain ⟨H, hH⟩ : ∃ H : Nat, endH i wd = (H : Int) := ⟨(endH i wd).toNat, by omega⟩
              have HH := hide hH
              have hHh : H ≤ h := by omega
              obtain ⟨Q, hQ, hCh⟩ := HNy.out
              have hnode := hide ((hCh t (Nat.le_refl _)).2.below hb2)
              rw [← hQ, hg_end t wd Hu.out.1 Hu.out.2, hH] at hnode
              have rW := hide (wg_rng (p := cntP) (by decide) (cntL (h + 1) 1) (cntL (h + 1) 1) (strOfNums wd) i t)
              have h1 : hg (strOfNums (wd ++ [L])) i t = (H : Int) := by rw [hg_ext Hu.out.2 hLm t (by rw [Hu.out.1]; exact Nat.le_refl _), hg_end t wd Hu.out.1 Hu.out.2, hH]
              have h2 : bt (strOfNums (wd ++ [L])) t = L := by
                have q := bt_last Hu.out.2 hLm
                rwa [Hu.out.1] at q
              have h3 := wg_one (p := cntP) (cntL (h + 1) 1) (cntL (h + 1) 1) (strOfNums (wd ++ [L])) i t m H h1 (by rw [h2]; exact hix) hm2
              rw [wg_ext Hu.out.2 hLm t (by rw [Hu.out.1]; exact Nat.le_refl _)] at h3
              have H3 := hide h3
              have Hmv := hide (show endH i wd + mv L = (H : Int) + dst m by rw [hH, hmv])
              have HLm := hide hLm
              have Hix := hide hix
              have hbW := hide (hW.out.trans (hb2.mono (Nat.le_of_lt hz)))
              have SA := hide (HA.out.below hbW.out)
              have SB := hide (HB.out.below hbW.out)
              have f0 := cell_be hb2 hF.out.1
              have f1 := cell_be hb2 hF.out.2.1
              have f2 := cell_be hb2 hF.out.2.2
              clear hL hmv hix hLm h1 h2 h3 hx' hCh hQ hH
              go_wp2_with fail
              refine (goOn_g cntP a (h + 1) c (cntL (h + 1) 1) b d (cntL (h + 1) 1) (ns y) _ _ _ H m _ SA.out SB.out (by omega) (cnt_gw (h + 1) 1 (.inr rfl)) hnode.out (by omega) rW.out hm2).mono ?_
              rintro e w5 ⟨⟨hno, hyes⟩, t5⟩
              have hb5 := hb2.trans (t5.mono hb2.size)
              have hO5 := hide (hO2.out.below t5)
              have hN5 := hide (hN2.out.below t5)
              clear f0 f1 f2 hnode
              by_cases hy2 : 0 ≤ (H : Int) + dst m ∧ (H : Int) + dst m < ((h + 1 : Nat) : Int)
              · obtain ⟨qn, rfl, hqn, hNn⟩ := hyes hy2
                have HNn := hide (show Node w5 qn (some ⟨ns y, 0, none⟩) (ixR L) (hg (strOfNums (wd ++ [L])) i (t + 1)) (wg cntP (cntL (h + 1) 1) (cntL (h + 1) 1) (strOfNums (wd ++ [L])) i (t + 1)) by
                  rw [H3.out.1, H3.out.2.1, Hix.out]; exact hNn)
                obtain ⟨H2, hH2⟩ : ∃ H2 : Nat, (H : Int) + dst m = (H2 : Int) := ⟨((H : Int) + dst m).toNat, by omega⟩
                rw [hH2] at hNn hy2 Hmv
                have n2 := hNn.c2
                have v1 : IntKind.i64.wrap ((H2 : Int) - (k : Int)) = (H2 : Int) - (k : Int) := IntWalk.i64_in _ (by omega)
                have v2 : IntKind.i64.wrap ((k : Int) - (H2 : Int)) = (k : Int) - (H2 : Int) := IntWalk.i64_in _ (by omega)
                have hane := hide (show blk a2 ≠ some qn from fun e => by have := hO2.out.blkLtN qn e; omega)
                have hvsL := hide (show vs.length ≤ 1203 by
                  rw [hvs.out, List.length_append]; have := extM_len h k left i wd m; have := HusL.out; omega)
                have zq := hide (show wo.heap.size ≤ qn from Nat.le_trans hb2.size hqn)
                have hqlt := hide (show qn < w5.heap.size from World.block_lt_of_cell? _ _ n2)
                clear hno hyes hNn hH2 t5
                by_cases hmx : (k : Int) ≤ (H2 : Int)
                · have g1 : (k : Int) - (H2 : Int) ≤ (H2 : Int) - (k : Int) := by omega
                  by_cases hle : (H2 : Int) - (k : Int) ≤ left
                  · have hokk : okStep h k left (endH i wd + mv L) = true := decide_eq_true (by rw [Hmv.out]; omega)
                    have hvs2 := hide (show vs ++ [ws.getD y [] ++ [L]] = us ++ extM h k left i wd (m + 1) by
                      rw [hvs.out, Hstep.out, if_pos hokk, HWD.out, List.append_assoc])
                    clear hy2
                    go_wp2
                    go_quiet (fail)
                    generalize hwd6 : World.drewN _ _ = w6
                    have bd : Below w5.heap.size w5 w6 := by rw [← hwd6]; exact below_drewN (Below.refl _ _) _
                    have hb6 := hb5.trans (bd.mono hb5.size)
                    have hN6 := hide (hN5.out.below bd)
                    have HNn6 := hide (HNn.out.below bd)
                    have hq6 := hide (show qn < w6.heap.size from Nat.lt_of_lt_of_le hqlt.out bd.size)
                    have hba := bl1 w6 (.cells #[.pointer (some ⟨qn, 0, none⟩)] 50)
                    have hOa := hide ((hO5.out.below bd).below hba)
                    have hcl : (w6.alloc (.cells #[.pointer (some ⟨qn, 0, none⟩)] 50)).cell? ⟨w6.heap.size, 0, none⟩ = some (.pointer (some ⟨qn, 0, none⟩)) := by simp [go_sem]
                    have HZa := hide (show (w6.alloc (.cells #[.pointer (some ⟨qn, 0, none⟩)] 50)).heap.size = w6.heap.size + 1 by simp)
                    have hvl := hide (show (ptV ms vs.length).length = vs.length from ptV_len _ _)
                    have zb6 := hb6.size
                    clear bd hokk hO5 hN5
                    go_wp2_with (at_builtin; with_reducible refine wp_appN rfl _ _ rfl wo.heap.size _ _ _ _ rfl hvl.out.symm hOa.out _ _ _ rfl hcl rfl (by have := hvsL.out; omega) (by have := HZa.out; omega) ?_; intro ad' cap' w' hown' hgr hloc)
                    have hbg := OwnN.blkG hOa.out
                    have hb7 : Below wo.heap.size wo w' := (hb6.trans (hba.mono zb6)).grown hgr (by have := HZa.out; omega) hbg
                    have hN7 := hide (show NdNew wo.heap.size w' (cntL (h + 1) 1) (cntL (h + 1) 1) i t ws ns (vs ++ [ws.getD y [] ++ [L]]) (fun x => if x = vs.length then qn else ms x) from
                      ((hN6.out.below hba).grown hgr hD2.out).snoc zq.out hylt HLm.out (by rw [HWD.out]; exact (HNn6.out.below hba).grown hgr hane.out))
                    have hD7 := hide (show ∀ x, x < (vs ++ [ws.getD y [] ++ [L]]).length → blk ad' ≠ some ((fun x => if x = vs.length then qn else ms x) x) from fun x hx => by
                      rw [List.length_append, List.length_singleton] at hx
                      by_cases e : x = vs.length
                      · simp only [if_pos e]
                        rcases hloc with q | q
                        · rw [q]; exact hane.out
                        · rw [q]; intro e2
                          have e3 := Option.some.inj e2
                          have := hq6.out
                          have := HZa.out
                          omega
                      · simp only [if_neg e]
                        rcases hloc with q | q
                        · rw [q]; exact hD2.out x (by omega)
                        · rw [q]; intro e2
                          have e3 := Option.some.inj e2
                          obtain ⟨_, _, _, _, _, _, hNx⟩ := hN6.out x (by omega)
                          have h6 : ms x < w6.heap.size := World.block_lt_of_cell? _ _ hNx.c0
                          have := HZa.out
                          omega)
                    have Hown := hide (show OwnN wo.heap.size w' ad' cap' (ptV (fun x => if x = vs.length then qn else ms x) (vs ++ [ws.getD y [] ++ [L]]).length) by
                      rw [List.length_append, List.length_singleton, ← ptV_snoc, ptV_congr (g := ms) (fun j hj => by simp only [if_neg (show ¬ j = vs.length by omega)])]
                      simp only [if_true]
                      exact hown')
                    clear hown' hgr hloc hOa hO2 hcl hba hbg hN6
                    go_roundw
                    case rel => exact ⟨m + 1, _, _, ad', cap', by omega, by go_num, hvs2, by rw [hvl.out, List.length_append, List.length_singleton], Hown, hN7, hD7, hb7⟩
                    case measure => simp [intOf]; omega
                  · have hvs2 := hide (show vs = us ++ extM h k left i wd (m + 1) by
                      rw [hvs.out, Hstep.out, if_neg, List.append_nil]
                      intro q
                      have q := of_decide_eq_true q
                      rw [Hmv.out] at q
                      omega)
                    clear hy2
                    go_wp2
                    go_quiet (fail)
                    go_wp2
                    go_roundw
                    case rel => exact ⟨m + 1, vs, ms, a2, c2, by omega, by go_num, hvs2, rfl, hide (hO5.out.below (below_drewN (Below.refl _ _) _)), hide (hN5.out.below (below_drewN (Below.refl _ _) _)), hD2, below_drewN hb5 _⟩
                    case measure => simp [intOf]; omega
                · have g1 : ¬ (k : Int) - (H2 : Int) ≤ (H2 : Int) - (k : Int) := by omega
                  by_cases hle : (k : Int) - (H2 : Int) ≤ left
                  · have hokk : okStep h k left (endH i wd + mv L) = true := decide_eq_true (by rw [Hmv.out]; omega)
                    have hvs2 := hide (show vs ++ [ws.getD y [] ++ [L]] = us ++ extM h k left i wd (m + 1) by
                      rw [hvs.out, Hstep.out, if_pos hokk, HWD.out, List.append_assoc])
                    clear hy2
                    go_wp2
                    go_quiet (fail)
                    generalize hwd6 : World.drewN _ _ = w6
                    have bd : Below w5.heap.size w5 w6 := by rw [← hwd6]; exact below_drewN (Below.refl _ _) _
                    have hb6 := hb5.trans (bd.mono hb5.size)
                    have hN6 := hide (hN5.out.below bd)
                    have HNn6 := hide (HNn.out.below bd)
                    have hq6 := hide (show qn < w6.heap.size from Nat.lt_of_lt_of_le hqlt.out bd.size)
                    have hba := bl1 w6 (.cells #[.pointer (some ⟨qn, 0, none⟩)] 50)
                    have hOa := hide ((hO5.out.below bd).below hba)
                    have hcl : (w6.alloc (.cells #[.pointer (some ⟨qn, 0, none⟩)] 50)).cell? ⟨w6.heap.size, 0, none⟩ = some (.pointer (some ⟨qn, 0, none⟩)) := by simp [go_sem]
                    have HZa := hide (show (w6.alloc (.cells #[.pointer (some ⟨qn, 0, none⟩)] 50)).heap.size = w6.heap.size + 1 by simp)
                    have hvl := hide (show (ptV ms vs.length).length = vs.length from ptV_len _ _)
                    have zb6 := hb6.size
                    clear bd hokk hO5 hN5
                    go_wp2_with (at_builtin; with_reducible refine wp_appN rfl _ _ rfl wo.heap.size _ _ _ _ rfl hvl.out.symm hOa.out _ _ _ rfl hcl rfl (by have := hvsL.out; omega) (by have := HZa.out; omega) ?_; intro ad' cap' w' hown' hgr hloc)
                    have hbg := OwnN.blkG hOa.out
                    have hb7 : Below wo.heap.size wo w' := (hb6.trans (hba.mono zb6)).grown hgr (by have := HZa.out; omega) hbg
                    have hN7 := hide (show NdNew wo.heap.size w' (cntL (h + 1) 1) (cntL (h + 1) 1) i t ws ns (vs ++ [ws.getD y [] ++ [L]]) (fun x => if x = vs.length then qn else ms x) from
                      ((hN6.out.below hba).grown hgr hD2.out).snoc zq.out hylt HLm.out (by rw [HWD.out]; exact (HNn6.out.below hba).grown hgr hane.out))
                    have hD7 := hide (show ∀ x, x < (vs ++ [ws.getD y [] ++ [L]]).length → blk ad' ≠ some ((fun x => if x = vs.length then qn else ms x) x) from fun x hx => by
                      rw [List.length_append, List.length_singleton] at hx
                      by_cases e : x = vs.length
                      · simp only [if_pos e]
                        rcases hloc with q | q
                        · rw [q]; exact hane.out
                        · rw [q]; intro e2
                          have e3 := Option.some.inj e2
                          have := hq6.out
                          have := HZa.out
                          omega
                      · simp only [if_neg e]
                        rcases hloc with q | q
                        · rw [q]; exact hD2.out x (by omega)
                        · rw [q]; intro e2
                          have e3 := Option.some.inj e2
                          obtain ⟨_, _, _, _, _, _, hNx⟩ := hN6.out x (by omega)
                          have h6 : ms x < w6.heap.size := World.block_lt_of_cell? _ _ hNx.c0
                          have := HZa.out
                          omega)
                    have Hown := hide (show OwnN wo.heap.size w' ad' cap' (ptV (fun x => if x = vs.length then qn else ms x) (vs ++ [ws.getD y [] ++ [L]]).length) by
                      rw [List.length_append, List.length_singleton, ← ptV_snoc, ptV_congr (g := ms) (fun j hj => by simp only [if_neg (show ¬ j = vs.length by omega)])]
                      simp only [if_true]
                      exact hown')
                    clear hown' hgr hloc hOa hO2 hcl hba hbg hN6
                    go_roundw
                    case rel => exact ⟨m + 1, _, _, ad', cap', by omega, by go_num, hvs2, by rw [hvl.out, List.length_append, List.length_singleton], Hown, hN7, hD7, hb7⟩
                    case measure => simp [intOf]; omega
                  · have hvs2 := hide (show vs = us ++ extM h k left i wd (m + 1) by
                      rw [hvs.out, Hstep.out, if_neg, List.append_nil]
                      intro q
                      have q := of_decide_eq_true q
                      rw [Hmv.out] at q
                      omega)
                    clear hy2
                    go_wp2
                    go_quiet (fail)
                    go_wp2
                    go_roundw
                    case rel => exact ⟨m + 1, vs, ms, a2, c2, by omega, by go_num, hvs2, rfl, hide (hO5.out.below (below_drewN (Below.refl _ _) _)), hide (hN5.out.below (below_drewN (Below.refl _ _) _)), hD2, below_drewN hb5 _⟩
                    case measure => simp [intOf]; omega
              · obtain rfl := hno hy2
                have hvs2 := hide (show vs = us ++ extM h k left i wd (m + 1) by
                  rw [hvs.out, Hstep.out, if_neg, List.append_nil]
                  intro q
                  have q := of_decide_eq_true q
                  rw [Hmv.out] at q
                  push_cast at hy2
                  omega)
                clear hno hyes t5
                go_wp2
                go_quiet (fail)
                go_wp2
                go_roundw
                case rel => exact ⟨m + 1, vs, ms, a2, c2, by omega, by go_num, hvs2, rfl, hide (hO5.out.below (below_drewN (Below.refl _ _) _)), hide (hN5.out.below (below_drewN (Below.refl _ _) _)), hD2, below_drewN hb5 _⟩
                case measure => simp [intOf]; omega
            · have hm4 : m = 3 := by omega
              subst hm4
              have hus2 := hide (show vs = (ws.take (y + 1)).flatMap (ext1 h k left i) by rw [hvs.out, hus.out, Hus2.out, extM_3])
              clear hm3 hvs
              go_wp2
              go_roundw
              case rel => exact ⟨y + 1, vs, ms, a2, c2, by omega, by go_num, hus2, rfl, hO2, hN2, hD2, hb2⟩
              case measure => simp [intOf]; omega
        · have hye : y = ws.length := by omega
          have hge : ¬ (y : Int) < (ws.length : Int) := by omega
          have hfin := hide (show us = bfsL h k i n (t + 1) by rw [hus.out, hye, List.take_length, HE.out])
          have HNd2 := hide (show NdOk w.heap.size wr (cntL (h + 1) 1) (cntL (h + 1) 1) i (t + 1) (bfsL h k i n (t + 1)) ms by
            rw [← hfin.out]
            exact hN2.out.ok (hNd.out.below hb2) (Nat.le_of_lt hz) HWd.out)
          have HO3 := hide (show OwnN w.heap.size wr a2 c2 (ptV ms (bfsL h k i n (t + 1)).length) by
            rw [← hfin.out]
            exact hO2.out.monoN (Nat.le_of_lt hz))
          have HF3 := hide (And.intro (cell_be hb2 hF.out.1) (And.intro (cell_be hb2 hF.out.2.1) (cell_be hb2 hF.out.2.2)))
          have HW3 := hide (hW.out.trans (hb2.mono (Nat.le_of_lt hz)))
          have hl2 := hide (show left - 1 = (n : Int) - 1 - ((t + 1 : Nat) : Int) by have := hleft.out; omega)
          have hz3 : w.heap.size < wr.heap.size := by have := hb2.size; omega
          have HLn := hide (show us.length = (bfsL h k i n (t + 1)).length by rw [hfin.out])
          clear hye hylt hus hO2 hN2 hD2
          go_wp2
          go_roundw
          case rel => exact ⟨t + 1, left - 1, a2, c2, ms, by omega, hl2, rfl, by rw [HLn.out], HO3, HNd2, HW3, HF3, hz3⟩
          case measure => simp [intOf]; omega
    · have hte : t = n := by omega
      have hl1 : ¬ 0 ≤ left := by have := hleft.out; omega
      have Hte := hide hte
      clear hlt hte
      go_wp2
      refine bodyPost_ret (v := .slice a' (bfsL h k i n t).length c') (by simp [results, Try.results39]) rfl ?_
      refine ⟨a', c', by rw [← Hte.out], ns, ?_, ?_, hW.out⟩
      · have q := hO.out
        rw [Hte.out] at q
        exact q
      · have q := hNd.out
        rw [Hte.out] at q
        exact q
end Go.Proofs.Ythahcnmfaghohaa
