/- Contracts: AddPolys (program and model). -/
import Derived.Test.YtgkolocmlbnokaaCh
import Derived.Test.YtgkolocmlbnokaaAd
import Derived.Test.YtgkolocmlbnokaaOz
namespace Go.Proofs.Ytgkolocmlbnokaa
open Go.RowKit
set_option linter.unusedVariables false
set_option linter.unusedSimpArgs false

def addC (p : Int) (f g : List Int) (k : Int) : Int := if chk2 p f g = 0 then (if 0 ≤ k ∧ k < p then 0 else 2) else chk2 p f g
def addV (p : Int) (f g : List Int) (k : Int) : List Int := if addC p f g k = 0 then addM p f g k else []
theorem poly_len {p : Int} {f : List Int} (h : polyB p f = true) : f.length ≤ 25 := (polyB_rng h).1
theorem addM_len {p : Int} {f g : List Int} {k : Int} (h1 : f.length ≤ 1000) (h2 : g.length ≤ 1000) : (addM p f g k).length ≤ 1000 := by
  unfold addM
  rw [trimL_len]
  have := trimN_le (tab (max f.length g.length) (sumH p k f g g.length)) (tab (max f.length g.length) (sumH p k f g g.length)).length
  rw [tab_len] at *
  omega
theorem poly_are {p : Int} {f : List Int} (h : polyB p f = true) : areB p f = true := (polyB_rng h).2.1

set_option maxRecDepth 100000 in
set_option maxHeartbeats 1600000 in
theorem implAddPolys (p k : Int) (a1 : Option Addr) (n1 c1 : Nat) (f : List Int) (a2 : Option Addr) (n2 c2 : Nat) (g : List Int) (w : World) (h1 : SL w a1 n1 c1 f) (h2 : SL w a2 n2 c2 g) (b1 : n1 ≤ 4000000) (b2 : n2 ≤ 4000000) :
    Calls Try.prog 61 #[.int .i64 p, .slice a1 n1 c1, .slice a2 n2 c2, .int .i64 k] w (Res1 w (addV p f g k) (addC p f g k)) := by
  have hl1 := hide h1.len
  have hl2 := hide h2.len
  rcases chk2_cases p f g with hc | hc | ⟨hc, hf, hg, hp⟩
  · have HC := hide (show addC p f g k = 1 by simp [addC, hc])
    have HV := hide (show addV p f g k = [] by simp [addV, HC.out])
    have Hc := hide hc
    clear hc
    go_enter Try.func61, Try.ntmps61
    go_wp2_with (go_at_call 111; refine (check2 p _ _ _ f _ _ _ g 1 _ h1 h2 b1 b2 Hc.out).mono ?_; rintro e w1 ⟨rfl, hb1⟩)
    go_ret2
    exact Res1.nil HV.out HC.out hb1
  · have HC := hide (show addC p f g k = 2 by simp [addC, hc])
    have HV := hide (show addV p f g k = [] by simp [addV, HC.out])
    have Hc := hide hc
    clear hc
    go_enter Try.func61, Try.ntmps61
    go_wp2_with (go_at_call 111; refine (check2 p _ _ _ f _ _ _ g 2 _ h1 h2 b1 b2 Hc.out).mono ?_; rintro e w1 ⟨rfl, hb1⟩)
    go_ret2
    exact Res1.nil HV.out HC.out hb1
  · obtain ⟨hp1, hp2⟩ := primeB_lo hp
    by_cases hk : 0 ≤ k ∧ k < p
    · have HC := hide (show addC p f g k = 0 by simp [addC, hc, hk])
      have HV := hide (show addV p f g k = addM p f g k by simp [addV, HC.out])
      have Hc := hide hc
      have Hf := hide hf
      have Hg := hide hg
      clear hc hf hg hp
      go_enter Try.func61, Try.ntmps61
      go_wp2_with fail
      refine (check2 p _ _ _ f _ _ _ g 0 _ h1 h2 b1 b2 Hc.out).mono ?_
      rintro e w1 ⟨rfl, hb1⟩
      go_wp2_with fail
      refine (isNumber_yes _ _ _ hk.1 hk.2).mono ?_
      rintro e w2 ⟨rfl, rfl⟩
      go_wp2_with fail
      refine (addMultiple_any p k _ _ _ f _ _ _ g _ (h1.below hb1) (h2.below hb1) (by have := poly_len Hf.out; have := hl1.out; omega) (by have := poly_len Hg.out; have := hl2.out; omega) hp1 hp2 hk.1 hk.2 (poly_are Hf.out) (poly_are Hg.out)).mono ?_
      rintro e w3 ⟨a', c', rfl, hown, hb3⟩
      go_wp2
      go_ret2
      exact Res1.own HC.out (by rw [HV.out]) (by rw [HV.out]; exact hown.mono hb1.size) (by rw [HV.out]; exact Nat.le_trans (addM_len (by have := poly_len Hf.out; omega) (by have := poly_len Hg.out; omega)) (by omega)) (bnext hb1 hb3)
    · have HC := hide (show addC p f g k = 2 by simp [addC, hc, hk])
      have HV := hide (show addV p f g k = [] by simp [addV, HC.out])
      have Hc := hide hc
      clear hc hf hg hp
      go_enter Try.func61, Try.ntmps61
      go_wp2_with fail
      refine (check2 p _ _ _ f _ _ _ g 0 _ h1 h2 b1 b2 Hc.out).mono ?_
      rintro e w1 ⟨rfl, hb1⟩
      go_wp2_with fail
      refine (isNumber_no _ _ _ hk).mono ?_
      rintro e w2 ⟨rfl, rfl⟩
      go_wp2
      go_ret2
      exact Res1.nil HV.out HC.out hb1
end Go.Proofs.Ytgkolocmlbnokaa
