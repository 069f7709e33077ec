/-
  MultiAnyhow: what was added, the other way round, comes to the same numbers.
-/
import Derived.Test.YtomekndinopoaaaJMuN
import Derived.Test.YtomekndinopoaaaJOs
import Derived.Test.YtomekndinopoaaaJSmQ
import Derived.Test.YtomekndinopoaaaJRt3
import Derived.Deep.Cut
namespace Go.Proofs.Ytomekndinopoaaa.multi
open Go.ChangeShapes Go.WideShapes Go.ChangeAt Go.RowKit Go.Maps Go.WideMaps
open Go.Proofs.Ytomekndinopoaaa.region
open Go.Proofs.Ytomekndinopoaaa.tm Go.Proofs.Ytomekndinopoaaa.opened Go.Proofs.Ytomekndinopoaaa.block Go.Proofs.Ytomekndinopoaaa.stamp Go.Proofs.Ytomekndinopoaaa.chain

def okA (a : Ac) : Bool := !(decide (1073741824 < a.n)) && !(decide (a.n < -1073741824))
def frontA (m : List Ac) : List Ac := match m with | [] => [] | a :: _ => [⟨0, a.t, 0⟩]
theorem back_front (m : List Ac) : backA m = frontA m ++ m.reverse := by cases m <;> rfl
theorem front_len (m : List Ac) : (frontA m).length ≤ 1 := by cases m <;> simp [frontA]
theorem ok_more {L : List Ac} {k : Nat} {x : Ac} (h : L[k]? = some x) : (L.take (k + 1)).filter okA = if okA x = true then (L.take k).filter okA ++ [x] else (L.take k).filter okA := by
  rw [List.take_add_one, h, Option.toList_some, List.filter_append]
  by_cases e : okA x = true <;> simp [e]
theorem MulP.belowB {w w' : World} {g b c : Nat} {d : Int} {A : Option Addr} {L : List Tm} {M : List TN} (h : MulP w g d b A c L M) (hb : Below w.heap.size w w') : MulP w' g d b A c L M := h.below hb
set_option maxRecDepth 100000 in
set_option maxHeartbeats 16000000 in
theorem walkAn (A : Option Addr) (c : Nat) (L : List Ac) (iL : ∀ a ∈ L, a.In) (mL : L.length ≤ 4611686018427387903) (w : World) (h : La w A L) :
    Calls Try.prog 5 #[.slice A L.length c] w fun e w' => e = .returned (.bool true) ∧ Below w.heap.size w w' := by
  have H := Lib.hid h
  have W0 := Lib.hid (works_any w)
  obtain ⟨i0, hi, hz0, hz1, hz2⟩ := infoA _ infoA1
  have iM : ∀ a ∈ (L.take 60).filter okA, a.In := fun a ha => iL a (List.mem_of_mem_take (List.mem_filter.1 ha).1)
  have bM : ∀ a ∈ (L.take 60).filter okA, -1073741824 ≤ a.n ∧ a.n ≤ 1073741824 := fun a ha => by
    have := (List.mem_filter.1 ha).2
    simp [okA] at this
    omega
  have lM : ((L.take 60).filter okA).length ≤ 60 := by
    have := List.length_filter_le okA (L.take 60)
    rw [List.length_take] at this
    omega
  clear h
  go_enter Try.func5, Try.ntmps5
  go_upto_region 3 with (go_at_call 28; refine W0.out.mono ?_; rintro e w1 ⟨rfl, b1⟩; have H1 := Lib.hid (H.out.below b1); have B1 := Lib.hid b1; clear b1)
  clear W0 H
  go_upto_block 0 with fail
  go_cut [3] from 9 (fun v wx => ∃ (D : Option Addr) (c' : Nat), v = .slice D ((L.take 60).filter okA).length c' ∧ Hid (OwnA 35 wx w1.heap.size (.slice D ((L.take 60).filter okA).length c') ((L.take 60).filter okA)) ∧ Below w1.heap.size w1 wx)
  case first =>
    go_wp2_with fail
    go_loopw [3, 4] (fun v s wr => ∃ (k : Nat) (D : Option Addr) (c' : Nat), k ≤ L.length ∧ k ≤ 60 ∧ v = .slice D ((L.take k).filter okA).length c' ∧ s = .int .i64 k ∧ Hid (OwnA 35 wr w1.heap.size (.slice D ((L.take k).filter okA).length c') ((L.take k).filter okA)) ∧ Below w1.heap.size w1 wr) (fun _ s _ => 60 - (intOf s).toNat)
    case atStart => exact ⟨0, none, 0, Nat.zero_le _, Nat.zero_le _, rfl, rfl, Lib.hid (ownA_nil _ _), Below.refl _ _⟩
    case round =>
      obtain ⟨k, D, c', hk, hk6, rfl, rfl, HO, BB⟩ := hrel
      by_cases hlt : k < L.length ∧ k < 60
      · obtain ⟨hl1, hl2⟩ := hlt
        obtain ⟨x, hx⟩ : ∃ x, L[k]? = some x := ⟨L[k], List.getElem?_eq_getElem hl1⟩
        obtain ⟨b0, o0, hA, hb0, c0, c1, c2, c3, c4, c5, c6⟩ := (H1.out.below BB).at hx
        subst hA
        have c2' : wr.cell? ⟨b0, o0 + k * 7 + 2, none⟩ = some (.int .i64 x.t.d) := c2
        have c3' : wr.cell? ⟨b0, o0 + k * 7 + 3, none⟩ = some (.int .u32 x.t.a) := c3
        have c4' : wr.cell? ⟨b0, o0 + k * 7 + 4, none⟩ = some (.int .u32 x.t.b) := c4
        have c5' : wr.cell? ⟨b0, o0 + k * 7 + 5, none⟩ = some (.int .u32 x.t.c) := c5
        have HP := Lib.hid (ok_more hx)
        have hNl : ((L.take k).filter okA).length ≤ 60 := by
          have := List.length_filter_le okA (L.take k)
          rw [List.length_take] at this
          omega
        clear hx c2 c3 c4 c5
        generalize (L.take k).filter okA = N at HP HO hNl
        by_cases p1 : 1073741824 < x.n
        · have HQ : Hid ((L.take (k + 1)).filter okA = N) := Lib.hid (by have := HP.out; rwa [if_neg (by simp [okA, p1])] at this)
          go_wp2_with fail
          go_roundw
          case rel => exact ⟨k + 1, D, c', by omega, by omega, by rw [HQ.out], by go_num, by rw [HQ.out]; exact HO, BB⟩
          case measure => simp [intOf]; omega
        · by_cases p2 : x.n < -1073741824
          · have HQ : Hid ((L.take (k + 1)).filter okA = N) := Lib.hid (by have := HP.out; rwa [if_neg (by simp [okA, p2])] at this)
            go_wp2_with fail
            go_roundw
            case rel => exact ⟨k + 1, D, c', by omega, by omega, by rw [HQ.out], by go_num, by rw [HQ.out]; exact HO, BB⟩
            case measure => simp [intOf]; omega
          · have HQ : Hid ((L.take (k + 1)).filter okA = N ++ [x]) := Lib.hid (by have := HP.out; rwa [if_pos (by simp [okA]; omega)] at this)
            have hBs := BB.size
            have hh := BB
            clear HP
            go_wp2_with (at_builtin; refine wpList_append_own _ rfl _ _ 22 rfl w1.heap.size 35 i0 (.agg (cA A0).toArray) 7 48 Try.underlying22 hi hz0 hz1 hz2 rfl (by decide) _ _ _ rfl (HO.out.below (fresh1 wr (.cells (cA x).toArray 35))) ⟨_, 0, none⟩ 1 1 (cA x) rfl rfl (cells_new _ _ _) (one_cA x) (by simp [maxLen]; omega) (by omega) (by simp; omega) ?_; intro v' w5 hown' hgrow _; obtain ⟨g', cap', rfl⟩ := ownsRow_succ hown'; have b5 := HO.out.grown hBs hgrow; have HO5 := Lib.hid hown'; clear hown' hgrow)
            go_roundw
            case rel => exact ⟨k + 1, some ⟨g', 0, none⟩, cap', by omega, by omega, by rw [HQ.out, List.length_append]; rfl, by go_num, by rw [HQ.out]; exact Lib.hid (by have := HO5.out; simpa [OwnA] using this), hh.trans b5⟩
            case measure => simp [intOf]; omega
      · have ht : Hid (L.take k = L.take 60) := Lib.hid (by
          by_cases e : k < L.length
          · have : k = 60 := by omega
            rw [this]
          · rw [List.take_of_length_le (by omega), List.take_of_length_le (by omega)])
        rw [ht.out] at HO
        have hh := BB
        rw [ht.out]
        go_wp2_with fail
        all_goals go_meet
        all_goals exact ⟨D, c', rfl, HO, hh⟩
  case rest =>
    obtain ⟨D, c', rfl, HO, BB⟩ := hcut
    clear H1
    generalize (L.take 60).filter okA = m at iM bM lM HO
    have HA := Lib.hid (any_how lM iM bM)
    have HB := Lib.hid (back_in iM)
    have hlb := back_len m
    have HD := Lib.hid (dep_back m)
    have MD := Lib.hid (fun W (hW : La W D m) => made_any D c' m iM (by omega) W hW)
    rw [List.take_of_length_le lM] at MD
    have GG := Lib.hid (sumA_good (d := depA m) iM)
    have LM := Lib.hid HO.out.lies
    have hBs := BB.size
    have B2 := Lib.hid (B1.out.trans (BB.mono B1.out.size))
    have hdm := depA_le m
    go_upto_if 46 with (go_at_call 29; refine (MD.out _ LM.out).mono ?_; rintro e w3 ⟨g, b, rfl, h3, b3⟩; have P3 := Lib.hid h3; have L3 := Lib.hid (LM.out.below b3); have B3 := Lib.hid (B2.out.trans (b3.mono B2.out.size)); clear h3 b3)
    clear MD LM HO hBs B2 BB B1
    have HF := front_len m
    have HBF := Lib.hid (back_front m)
    go_cut [6] from 44 to 54 (fun v wx => ∃ (D2 : Option Addr) (c2 : Nat), v = .slice D2 (frontA m).length c2 ∧ Hid (OwnA 35 wx w3.heap.size (.slice D2 (frontA m).length c2) (frontA m)) ∧ Below w3.heap.size w3 wx)
    case first =>
      by_cases hm : m = []
      · subst hm
        go_wp2_with fail
        go_meet
        exact ⟨none, 0, rfl, Lib.hid (ownA_nil _ _), Below.refl _ _⟩
      · obtain ⟨a, h0, hf⟩ : ∃ a, m[0]? = some a ∧ frontA m = [⟨0, a.t, 0⟩] := by
          cases m with
          | nil => exact absurd rfl hm
          | cons a r => exact ⟨a, rfl, rfl⟩
        have hl0 : 0 < m.length := List.length_pos_iff.2 hm
        have HFm := Lib.hid hf
        obtain ⟨b0, o0, hA, hb0, c0, c1, c2, c3, c4, c5, c6⟩ := L3.out.at h0
        subst hA
        rw [show o0 + 0 * 7 = o0 by omega] at c1 c2 c3 c4 c5
        have hl1 : (0 : Int) < (m.length : Int) := by omega
        clear h0 hf iM bM HA HB HD GG P3 HBF c0 c6
        go_wp2_with (at_builtin; refine wpList_append_own _ rfl _ _ 22 rfl w3.heap.size 35 i0 (.agg (cA A0).toArray) 7 48 Try.underlying22 hi hz0 hz1 hz2 rfl (by decide) _ 0 [] rfl (World.ownsRow_nil _ _ _ _) ⟨_, 0, none⟩ 1 1 (cA ⟨0, a.t, 0⟩) rfl rfl (cells_new _ _ _) (one_cA _) (by simp [maxLen]) (by omega) (by simp) ?_; intro v' w5 hown' hgrow _; obtain ⟨g', cap', rfl⟩ := ownsRow_succ hown'; have b5 := (ownA_nil (T := 35) w3 w3.heap.size).grown (Nat.le_refl _) hgrow; have HO5 := Lib.hid hown'; clear hown' hgrow)
        go_meet
        exact ⟨some ⟨g', 0, none⟩, cap', by rw [HFm.out]; rfl, by rw [HFm.out]; exact Lib.hid (by have := HO5.out; simpa [OwnA] using this), b5⟩
    case rest =>
      obtain ⟨D2, c2, rfl, HO, BB⟩ := hcut
      generalize frontA m = K at HF HBF HO
      go_wp2_with fail
      go_loopw [6, 7] (fun v s wr => ∃ (q : Nat) (D3 : Option Addr) (c3 : Nat), q ≤ m.length ∧ v = .slice D3 (K ++ m.reverse.take (m.length - q)).length c3 ∧ ((q = 0 ∧ s = .int .i64 (-1)) ∨ ∃ p : Nat, q = p + 1 ∧ s = .int .i64 p) ∧ Hid (OwnA 35 wr w3.heap.size (.slice D3 (K ++ m.reverse.take (m.length - q)).length c3) (K ++ m.reverse.take (m.length - q))) ∧ Below w3.heap.size w3 wr) (fun _ s _ => (intOf s + 1).toNat)
      case atStart =>
        refine ⟨m.length, D2, c2, Nat.le_refl _, by simp, ?_, by simpa using HO, BB⟩
        by_cases hz : m.length = 0
        · exact .inl ⟨hz, congrArg (Value.int .i64) (by omega)⟩
        · exact .inr ⟨m.length - 1, by omega, congrArg (Value.int .i64) (by omega)⟩
      case round =>
        clear HO BB
        obtain ⟨q, D3, c3, hq, rfl, hs, HO, BB⟩ := hrel
        rcases hs with ⟨rfl, rfl⟩ | ⟨p, rfl, rfl⟩
        · have HK : Hid (OwnA 35 wr w3.heap.size (.slice D3 (backA m).length c3) (backA m)) := Lib.hid (by
            have := HO.out
            rwa [Nat.sub_zero, List.take_of_length_le (by simp), ← HBF.out] at this)
          have hlen : K ++ m.reverse.take (m.length - 0) = backA m := by rw [Nat.sub_zero, List.take_of_length_le (by simp), ← HBF.out]
          rw [hlen]
          have LB := Lib.hid HK.out.lies
          have MB := Lib.hid (fun W (hW : La W D3 (backA m)) => made_any D3 c3 (backA m) HB.out (by omega) W hW)
          have BT := Lib.hid (B3.out.trans (BB.mono B3.out.size))
          have P4 := Lib.hid (P3.out.belowB BB)
          clear HO HK hlen BB P3 L3 HBF HF
          rw [HD.out] at MB
          have hME : (backA m).length ≤ 60 → (backA m).take 60 = backA m := fun h => List.take_of_length_le h
          have HME := Lib.hid hME
          clear hME
          generalize backA m = N at MB HA HME LB hlb
          by_cases h60 : 60 < N.length
          · clear MB
            have BT2 := BT.out
            go_wp2_with fail
            go_ret
            exact ⟨rfl, BT2⟩
          · rw [HME.out (by omega), HA.out] at MB
            have mG := GG.out.2
            have AA := Lib.hid (fun W g b (hW : MulP W g (depA m) b none 0 [] (sumA (depA m) m)) => all_any GG.out.1 GG.out.2 W hW)
            have YY := Lib.hid (fun W g b (hW : MulP W g (depA m) b none 0 [] (sumA (depA m) m)) => bytes_any GG.out.1 hdm.1 hdm.2 GG.out.2 W hW)
            generalize sumA (depA m) m = M at MB AA YY P4 mG
            generalize bytM (depA m) M = X at YY
            have FF := Lib.hid (fun W B1 e1 (hW : Lp W B1 M) => from_any B1 e1 M mG W hW)
            have SS := Lib.hid (fun W B1 B2 e1 e2 (h1 : Lp W B1 M) (h2 : Lp W B2 M) => sameQ_any B1 B2 e1 e2 M M (by omega) (by omega) W h1 h2)
            rw [decide_eq_true (p := M = M) rfl] at SS
            clear HA HME GG HD HB hlb iM bM
            go_upto_region 20 with (go_at_call 29; refine (MB.out _ LB.out).mono ?_; rintro e w5 ⟨g5, b5, rfl, h5, bb5⟩; have P5 := Lib.hid h5; have P6 := Lib.hid (P4.out.below bb5); have B5 := Lib.hid (BT.out.trans (bb5.mono BT.out.size)); clear h5 bb5)
            clear MB LB P4 BT
            go_wp2_with (first
              | (go_at_call 32; first
                | (with_reducible refine (AA.out _ _ _ P6.out).mono ?_; rintro e w6 ⟨C6, e6, rfl, l6, bb6⟩; have L6 := Lib.hid l6; have Q5 := Lib.hid (P5.out.below bb6); have Q6 := Lib.hid (P6.out.below bb6); have B6 := Lib.hid (B5.out.trans (bb6.mono B5.out.size)); clear l6 bb6)
                | (with_reducible refine (AA.out _ _ _ Q5'.out).mono ?_; rintro e w8 ⟨C8, e8, rfl, l8, bb8⟩; have L8 := Lib.hid l8; have L7' := Lib.hid (L7.out.below bb8); have R5 := Lib.hid (Q5'.out.below bb8); have R6 := Lib.hid (Q6'.out.below bb8); have B8 := Lib.hid (B7.out.trans (bb8.mono B7.out.size)); clear l8 bb8))
              | (go_at_call 31; first
                | (with_reducible refine (FF.out _ _ _ L6.out).mono ?_; rintro e w7 ⟨C7, e7, rfl, l7, bb7⟩; have L7 := Lib.hid l7; have Q5' := Lib.hid (Q5.out.below bb7); have Q6' := Lib.hid (Q6.out.below bb7); have B7 := Lib.hid (B6.out.trans (bb7.mono B6.out.size)); clear l7 bb7)
                | (with_reducible refine (FF.out _ _ _ L8.out).mono ?_; rintro e w9 ⟨C9, e9, rfl, l9, bb9⟩; have L9 := Lib.hid l9; have L10 := Lib.hid (L7'.out.below bb9); have S5 := Lib.hid (R5.out.below bb9); have S6 := Lib.hid (R6.out.below bb9); have B9 := Lib.hid (B8.out.trans (bb9.mono B8.out.size)); clear l9 bb9))
              | (go_at_call 30; refine (SS.out _ _ _ _ _ L10.out L9.out).mono ?_; rintro e w10 ⟨rfl, bb10⟩; have T5 := Lib.hid (S5.out.below bb10); have T6 := Lib.hid (S6.out.below bb10); have B10 := Lib.hid (B9.out.trans (bb10.mono B9.out.size)); clear bb10)
              | (go_at_call 20; first
                | (with_reducible refine (YY.out _ _ _ T6.out).mono ?_; rintro e w11 ⟨rfl, bb11⟩; have U5 := Lib.hid (T5.out.below bb11); have B11 := Lib.hid (B10.out.trans (bb11.mono B10.out.size)); clear bb11)
                | (with_reducible refine (YY.out _ _ _ U5.out).mono ?_; rintro e w12 ⟨rfl, bb12⟩; have B12 := Lib.hid (B11.out.trans (bb12.mono B11.out.size)); clear bb12)))
            go_ret
            exact ⟨rfl, B12.out⟩
        · obtain ⟨x, hx⟩ : ∃ x, m[p]? = some x := ⟨m[p], List.getElem?_eq_getElem (by omega)⟩
          have HT : Hid (K ++ m.reverse.take (m.length - p) = (K ++ m.reverse.take (m.length - (p + 1))) ++ [x]) := Lib.hid (by
            rw [show m.length - p = (m.length - (p + 1)) + 1 by omega, List.take_add_one, List.getElem?_reverse (by omega), show m.length - 1 - (m.length - (p + 1)) = p by omega, hx]
            simp)
          have hNl : (K ++ m.reverse.take (m.length - (p + 1))).length ≤ 61 := by
            rw [List.length_append, List.length_take, List.length_reverse]
            omega
          generalize K ++ m.reverse.take (m.length - (p + 1)) = N at HT HO hNl
          obtain ⟨b0, o0, hA, hb0, c0, c1, c2, c3', c4, c5, c6⟩ := (L3.out.below BB).at hx
          subst hA
          have d2 : wr.cell? ⟨b0, o0 + p * 7 + 2, none⟩ = some (.int .i64 x.t.d) := c2
          have d3 : wr.cell? ⟨b0, o0 + p * 7 + 3, none⟩ = some (.int .u32 x.t.a) := c3'
          have d4 : wr.cell? ⟨b0, o0 + p * 7 + 4, none⟩ = some (.int .u32 x.t.b) := c4
          have d5 : wr.cell? ⟨b0, o0 + p * 7 + 5, none⟩ = some (.int .u32 x.t.c) := c5
          clear hx c2 c3' c4 c5
          have hBs := BB.size
          have hh := BB
          go_wp2_with (at_builtin; refine wpList_append_own _ rfl _ _ 22 rfl w3.heap.size 35 i0 (.agg (cA A0).toArray) 7 48 Try.underlying22 hi hz0 hz1 hz2 rfl (by decide) _ _ _ rfl (HO.out.below (fresh1 wr (.cells (cA x).toArray 35))) ⟨_, 0, none⟩ 1 1 (cA x) rfl rfl (cells_new _ _ _) (one_cA x) (by simp [maxLen]; omega) (by omega) (by simp; omega) ?_; intro v' w5 hown' hgrow _; obtain ⟨g', cap', rfl⟩ := ownsRow_succ hown'; have b5 := HO.out.grown hBs hgrow; have HO5 := Lib.hid hown'; clear hown' hgrow)
          go_roundw
          case rel =>
            refine ⟨p, some ⟨g', 0, none⟩, cap', by omega, by rw [HT.out, List.length_append]; rfl, ?_, by rw [HT.out]; exact Lib.hid (by have := HO5.out; simpa [OwnA] using this), hh.trans b5⟩
            cases p with
            | zero => exact .inl ⟨rfl, congrArg (Value.int .i64) (by omega)⟩
            | succ p => exact .inr ⟨p, rfl, congrArg (Value.int .i64) (by omega)⟩
          case measure => simp [intOf]
end Go.Proofs.Ytomekndinopoaaa.multi
