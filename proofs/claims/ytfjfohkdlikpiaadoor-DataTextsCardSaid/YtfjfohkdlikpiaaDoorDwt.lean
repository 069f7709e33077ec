/-
  The walk of DataTexts (by gen_dt.py).
-/
import Derived.Test.YtfjfohkdlikpiaaDoorDpr
import Derived.Test.YtfjfohkdlikpiaaDoorDa
import Derived.Test.YtfjfohkdlikpiaaDoorDo
import Derived.Test.YtfjfohkdlikpiaaDoorDtx
import Derived.Test.YtfjfohkdlikpiaaDoorDty
import Derived.Test.YtfjfohkdlikpiaaDoorRt3
namespace Go.Proofs.YtfjfohkdlikpiaaDoor.data
open Go.ChangeShapes Go.WideShapes Go.ChangeAt Go.RowKit
open Go.Proofs.YtfjfohkdlikpiaaDoor.opened Go.Proofs.YtfjfohkdlikpiaaDoor.block Go.Proofs.YtfjfohkdlikpiaaDoor.words Go.Proofs.YtfjfohkdlikpiaaDoor.region

def RowP (N : List Rc) : Value → World → Prop := fun u w => ∃ B c, u = .slice B N.length c ∧ Lr w B N
theorem keeps_rowP (N : List Rc) : Keeps (RowP N) := fun _ _ _ hb ⟨B, c, h1, h2⟩ => ⟨B, c, h1, h2.below hb⟩
theorem alike_self (A B : Option Addr) (c d : Nat) (N : List Rc) (hM : N.length ≤ 1000000) (w : World) (h1 : Lr w A N) (h2 : Lr w B N) :
    Calls Tryd.prog 9 #[.slice A N.length c, .slice B N.length d] w fun e w' => e = .returned (.bool true) ∧ Below w.heap.size w w' := by
  have h := alike_any A B c d N N hM w h1 h2
  rwa [decide_eq_true (rfl : N = N)] at h
theorem own_lr (A : Option Addr) (c : Nat) (L : List Rc) (mL : L.length ≤ 4096) (w : World) (hL : Lr w A L) :
    Calls Tryd.prog 7 #[.slice A L.length c] w fun e W' => ∃ B c', e = .returned (.slice B L.length c') ∧ Lr W' B L ∧ Below w.heap.size w W' := (own_any A c L mL w hL).mono fun _ _ ⟨B, c', he, ho, hb⟩ => ⟨B, c', he, ho.lg cellsR, hb⟩
set_option maxRecDepth 100000 in
set_option maxHeartbeats 8000000 in
theorem walkTexts (L : List Rc) (iL : InR L) (A : Option Addr) (c : Nat) (s : Bs) (w : World) (hE : Env w) (hL : Lr w A L) :
    Calls Tryd.prog 3 #[.slice A L.length c, sV s] w fun e w' => e = .returned (.bool true) ∧ Below w.heap.size w w' := by
  by_cases h1 : 300 < L.length
  · go_enter Tryd.func3, Tryd.ntmps3
    go_wp2_with fail
    go_ret
    exact ⟨rfl, Below.refl _ _⟩
  by_cases h2 : 5000 < s.length
  · go_enter Tryd.func3, Tryd.ntmps3
    go_wp2_with fail
    go_ret
    exact ⟨rfl, Below.refl _ _⟩
  have PA := Lib.hid (fun W (h : Env W) => parse_any s (by omega) W h)
  have PR := Lib.hid (fun W => parseR_any s (by omega) W)
  have OW := Lib.hid (fun W (h : Lr W A L) => own_lr A c L (by omega) W h)
  have TP := Lib.hid (fun B c' W (hE : Env W) (h : Lr W B L) => text_any L iL B c' (by omega) W hE h)
  have TR := Lib.hid (fun W (h : Lr W A L) => textR_any L iL A c (by omega) W h)
  have hpl := prs_len s
  have HE0 := Lib.hid hE
  have HL0 := Lib.hid hL
  clear hE hL iL
  generalize txtL L = X at TP TR
  generalize prsV s = P at PA PR hpl
  generalize prsE s = ee at PA PR
  go_enter Tryd.func3, Tryd.ntmps3
  have AL := Lib.hid (fun A B c d W (a : Lr W A P) (b : Lr W B P) => alike_self A B c d P (by omega) W a b)
  go_wp2_with (first
    | (go_at_call 9; refine (AL.out D1 D2 d1 d2 _ (HP2.out.below (B56.out.trans (b7.mono B56.out.size))) (HQ2.out.below (B56.out.trans (b7.mono B56.out.size)))).mono ?_; rintro e w8 ⟨rfl, b8⟩; have B8 := Lib.hid (BX.out.trans (((B56.out.trans (b7.mono B56.out.size)).trans (b8.mono (B56.out.trans (b7.mono B56.out.size)).size)).mono BX.out.size)))
    | (go_at_call 8; refine (TR.out _ (HL4.out.below B56.out)).mono ?_; rintro e w7 ⟨rfl, b7⟩)
    | (go_at_call 6; refine (TP.out B1 c1 _ (HE4.out.below b5) l1).mono ?_; rintro e w6 ⟨rfl, b6⟩; have B56 := Lib.hid (b5.trans (b6.mono b5.size)))
    | (go_at_call 7; refine (OW.out _ HL4.out).mono ?_; rintro e w5 ⟨B1, c1, rfl, l1, b5⟩)
    | (go_at_call 5; refine (PR.out _).mono ?_; rintro e w4 ⟨D2, d2, rfl, o2, b2⟩; have BX := Lib.hid (HB1.out.trans (b2.mono HB1.out.size)); have HP2 := Lib.hid (HP0.out.below b2); have HQ2 := Lib.hid (o2.lg cellsR); have HE4 := Lib.hid (HE0.out.below BX.out); have HL4 := Lib.hid (HL0.out.below BX.out); clear o2 b2)
    | (go_at_call 4; refine (PA.out _ HE0.out).mono ?_; rintro e w2 ⟨D1, d1, rfl, o1, b1⟩; have HB1 := Lib.hid b1; have HP0 := Lib.hid (o1.lg cellsR); clear o1 b1))
  go_ret
  exact ⟨by simp, B8.out⟩
end Go.Proofs.YtfjfohkdlikpiaaDoor.data
