/-
  The contract of the document's Parse.
-/
import Derived.Test.YtfjfohkdlikpiaaDoorDpm
import Derived.Test.YtfjfohkdlikpiaaDoorDpb
import Derived.Test.YtfjfohkdlikpiaaDoorDpp
import Derived.Test.YtfjfohkdlikpiaaDoorWt
import Derived.Test.YtfjfohkdlikpiaaDoorDe
import Derived.Test.YtfjfohkdlikpiaaDoorDg
import Derived.Test.YtfjfohkdlikpiaaDoorDr
namespace Go.Proofs.YtfjfohkdlikpiaaDoor.data
open Go.ChangeShapes Go.WideShapes Go.ChangeAt Go.RowKit
open Go.Proofs.YtfjfohkdlikpiaaDoor.opened Go.Proofs.YtfjfohkdlikpiaaDoor.block Go.Proofs.YtfjfohkdlikpiaaDoor.words

/-- Where the document's loop stands: the parts are whole, and the next one has begun; or all is read. -/
def At (s : Bs) (P : List Bs) (a k : Nat) : Prop := (k ≤ s.length ∧ SoFar s P a k) ∨ (k = s.length + 1 ∧ cutsL s = P)

theorem mid_ext (s : Bs) (a k : Nat) : (⟨s.toArray⟩ : ByteArray).extract a k = ⟨(mid s a k).toArray⟩ := by
  apply ByteArray.ext; simp [mid]

theorem byte_at {s : Bs} {k : Nat} {c : UInt8} (h : s[k]? = some c) (hk : k < (⟨s.toArray⟩ : ByteArray).size) : (⟨s.toArray⟩ : ByteArray)[k]'hk = c := by
  obtain ⟨h1, h2⟩ := List.getElem?_eq_some_iff.1 h
  exact h2
theorem cut_col {l : Bs} {j : Nat} (hj : l[j]? = some 58) (hn : ∀ i, i < j → l[i]? ≠ some 58) : Lib.cut l [58] = (l.take j, l.drop (j + 1), true) := by
  have hk : j < l.length := (List.getElem?_eq_some_iff.1 hj).1
  have ha : (58 : UInt8) ∉ l.take j := fun hm => by
    obtain ⟨i, hi, he⟩ := List.getElem_of_mem hm
    rw [List.length_take] at hi
    exact hn i (by omega) (by rw [List.getElem_take] at he; rw [List.getElem?_eq_getElem (by omega), he])
  have hs : l = l.take j ++ 58 :: l.drop (j + 1) := by
    obtain ⟨h3, h4⟩ := List.getElem?_eq_some_iff.1 hj
    conv => lhs; rw [← List.take_append_drop j l, List.drop_eq_getElem_cons hk, h4]
  conv => lhs; rw [hs]
  exact cut_at ha
theorem rec_nocol {l : Bs} (hn : ∀ i, i < l.length → l[i]? ≠ some 58) : recP l = none := by
  have : (58 : UInt8) ∉ l := fun hm => by
    obtain ⟨i, hi, he⟩ := List.getElem_of_mem hm
    exact hn i hi (by rw [List.getElem?_eq_getElem hi, he])
  simp [recP, cut_not this]

set_option maxRecDepth 100000 in
set_option maxHeartbeats 8000000 in
theorem parseR_any (s : Bs) (hlen : s.length ≤ 5000) (w : World) :
    Calls Tryd.prog 5 #[sV s] w fun e w' => ∃ A c, e = .returned (.tuple #[.slice A (prsV s).length c, .int .i64 (prsE s)]) ∧ OwnR w' w.heap.size (.slice A (prsV s).length c) (prsV s) ∧ Below w.heap.size w w' := by
  obtain ⟨i0, hi0, hz0, hz1, hz2⟩ := infoR_parts
  go_enter Tryd.func5, Tryd.ntmps5
  go_wp2_with fail
  · rename_i hq
    have hq : s = [45] := by simpa using hq
    subst hq
    go_ret2
    exact ⟨none, 0, by rw [prs_dash.1, prs_dash.2]; rfl, by rw [prs_dash.1]; exact ownG_nil _ _, Below.refl _ _⟩
  rename_i hq0 K1 a1
  have hq : s ≠ [45] := fun e => by rw [e] at hq0; cases hq0
  rw [hq0]
  clear hq0
  go_loopw [4, 5, 6] (fun v va vi wr => ∃ (k a : Nat) (P : List Bs) (N : List Rc) (D : Option Addr) (c : Nat), v = .slice D N.length c ∧ va = .int .i64 a ∧ vi = .int .i64 k ∧ Hid (At s P a k) ∧ Hid (recs P = some N) ∧ k ≤ s.length + 1 ∧ a ≤ 5001 ∧ N.length ≤ k ∧ Hid (OwnR wr w.heap.size (.slice D N.length c) N) ∧ Hid (Below w.heap.size w wr))
    (fun _ _ vi _ => s.length + 1 - (intOf vi).toNat)
  case atStart => exact ⟨0, 0, [], [], none, 0, rfl, rfl, rfl, Lib.hid (.inl ⟨by omega, far_start s⟩), Lib.hid rfl, by omega, by omega, by simp, Lib.hid (ownG_nil _ _), Lib.hid (Below.refl _ _)⟩
  case round =>
    obtain ⟨k, a, P, N, D, c, rfl, rfl, rfl, HA, HN, hk, ha, hNk, HO, HB⟩ := hrel
    have hfar : k ≤ s.length → SoFar s P a k := fun h => by
      rcases HA.out with ⟨_, h'⟩ | ⟨h', _⟩
      · exact h'
      · omega
    by_cases hlt : k ≤ s.length
    · have HF := Lib.hid (hfar hlt)
      clear hfar HA
      by_cases hch : k < s.length ∧ s[k]? ≠ some 44
      · obtain ⟨hk1, hk2⟩ := hch
        obtain ⟨ch, hch⟩ : ∃ ch, s[k]? = some ch := ⟨s[k], List.getElem?_eq_getElem hk1⟩
        have hne : ch ≠ 44 := fun e => hk2 (by rw [hch, e])
        have HC := Lib.hid hch
        have hn44 : ch.toNat ≠ 44 := fun e => hne (UInt8.toNat_inj.1 (by simpa using e))
        go_wp2_with fail
        · exact ⟨⟨k + 1, a, P, N, D, c, rfl, rfl, by simp, Lib.hid (.inl ⟨by omega, far_char HF.out HC.out hne⟩), HN, by omega, ha, by omega, HO, HB⟩, by simp [intOf]; omega⟩
        · rename (bne _ _) = false => hx
          exfalso
          rw [byte_at HC.out] at hx
          simp at hx
          omega
      · have hend : k = s.length ∨ s[k]? = some 44 := by
          rcases Nat.lt_or_ge k s.length with h | h
          · exact .inr (Classical.byContradiction fun e => hch ⟨h, e⟩)
          · exact .inl (by omega)
        have HE := Lib.hid hend
        have hak := HF.out.1
        clear hch
        have HBad : Hid (recP (mid s a k) = none → recs (cutsL s) = none) := Lib.hid (fun h => far_bad HF.out hend h)
        have HNext : Hid (At s (P ++ [mid s a k]) (k + 1) (k + 1)) := Lib.hid (by
          rcases hend with rfl | hc
          · exact .inr ⟨rfl, far_end HF.out⟩
          · exact .inl ⟨(List.getElem?_eq_some_iff.1 hc).1, far_comma HF.out hc⟩)
        have hpl : (mid s a k).length ≤ 5000 := by unfold mid; rw [List.length_take, List.length_drop]; omega
        clear HF HE
        rcases hend with hke | hch
        · clear hlt
          subst hke
          go_wp2_with fail
          rw [mid_ext]
          generalize mid s a s.length = pc at HBad HNext hpl ⊢
          go_loopw [8] (fun vj wr' => ∃ j : Nat, vj = .int .i64 j ∧ j ≤ pc.length ∧ Hid (∀ i, i < j → pc[i]? ≠ some 58) ∧ Hid (OwnR wr' w.heap.size (.slice D N.length c) N) ∧ Hid (Below w.heap.size w wr')) (fun vj _ => pc.length - (intOf vj).toNat)
          case atStart => exact ⟨0, rfl, Nat.zero_le _, Lib.hid (fun i h => absurd h (Nat.not_lt_zero _)), HO, HB⟩
          case round =>
            clear HO HB
            obtain ⟨j, rfl, hj, HJ, HO, HB⟩ := hrel
            by_cases hcol : j < pc.length ∧ pc[j]? ≠ some 58
            · obtain ⟨hj1, hj2⟩ := hcol
              obtain ⟨ch, hch⟩ : ∃ ch, pc[j]? = some ch := ⟨pc[j], List.getElem?_eq_getElem hj1⟩
              have hn58 : ch.toNat ≠ 58 := fun e => hj2 (by rw [hch, UInt8.toNat_inj.1 (show ch.toNat = (58 : UInt8).toNat by simpa using e)])
              have HC := Lib.hid hch
              have H2 := Lib.hid hj2
              clear hch hj2
              go_wp2_with fail
              · exact ⟨⟨j + 1, by simp, by omega, Lib.hid (fun i hi => by
                  rcases Nat.lt_or_ge i j with h | h
                  · exact HJ.out i h
                  · obtain rfl : i = j := by omega
                    exact H2.out), HO, HB⟩, by simp [intOf]; omega⟩
              · rename (bne _ _) = false => hx
                exfalso
                rw [byte_at HC.out] at hx
                simp at hx
                omega
            · by_cases hjl : j = pc.length
              · clear hcol
                subst hjl
                have hnr : recP pc = none := rec_nocol HJ.out
                obtain ⟨p1, p2⟩ := prs_none hq (HBad.out hnr)
                go_wp2_with fail
                go_ret2
                exact ⟨none, 0, by rw [p1, p2]; rfl, by rw [p1]; exact ownG_nil _ _, HB.out⟩
              · have hj1 : j < pc.length := by omega
                have hc58 : pc[j]? = some 58 := Classical.byContradiction fun e => hcol ⟨hj1, e⟩
                have hcut := cut_col hc58 HJ.out
                have HC := Lib.hid hc58
                clear hcol hc58
                have la : (pc.take j).length ≤ 100000 := by rw [List.length_take]; omega
                have lb : (pc.drop (j + 1)).length ≤ 100000 := by rw [List.length_drop]; omega
                have SA : ∀ x e, sgV (pc.take j) = x → sgE (pc.take j) = e → Hid (∀ W, Calls Tryd.prog 12 #[.string ((⟨pc.toArray⟩ : ByteArray).extract 0 j)] W fun r w' => r = .returned (.tuple #[.int .i64 x, .int .i64 e]) ∧ Below W.heap.size W w') := fun x e h1 h2 => Lib.hid (fun W => by
                  rw [ext_take, ← h1, ← h2]; exact signedR_any _ la W)
                have SB : ∀ x e, sgV (pc.drop (j + 1)) = x → sgE (pc.drop (j + 1)) = e → Hid (∀ W, Calls Tryd.prog 12 #[.string ((⟨pc.toArray⟩ : ByteArray).extract (j + 1) pc.length)] W fun r w' => r = .returned (.tuple #[.int .i64 x, .int .i64 e]) ∧ Below W.heap.size W w') := fun x e h1 h2 => Lib.hid (fun W => by
                  rw [ext_drop, ← h1, ← h2]; exact signedR_any _ lb W)
                have HR : Hid (recP pc = match sgP (pc.take j), sgP (pc.drop (j + 1)) with
                  | some k, some v => some ⟨k, v⟩
                  | _, _ => none) := Lib.hid (by unfold recP; rw [hcut]; rfl)
                have VA : Hid (sgV (pc.take j) = (sgP (pc.take j)).getD 0 ∧ sgE (pc.take j) = if (sgP (pc.take j)).isSome then 0 else 6) := Lib.hid ⟨rfl, rfl⟩
                have VB : Hid (sgV (pc.drop (j + 1)) = (sgP (pc.drop (j + 1))).getD 0 ∧ sgE (pc.drop (j + 1)) = if (sgP (pc.drop (j + 1))).isSome then 0 else 6) := Lib.hid ⟨rfl, rfl⟩
                clear hcut la lb
                cases ha : sgP (pc.take j) with
                | none =>
                  rw [ha] at HR VA
                  have SA := SA 0 6 VA.out.1 VA.out.2
                  have SB := SB _ _ rfl rfl
                  generalize sgV (pc.drop (j + 1)) = y at SB
                  generalize sgE (pc.drop (j + 1)) = ey at SB
                  obtain ⟨p1, p2⟩ := prs_none hq (HBad.out HR.out)
                  clear HR VA VB ha
                  go_wp2_with (first
                  | (go_at_call 12; with_reducible refine (SB.out _).mono ?_; rintro e w4 ⟨rfl, b4⟩; have B4 := Lib.hid (B3.out.trans (b4.mono B3.out.size)); have O4 : Hid (w4.ownsRow w.heap.size 34 2 (.slice D N.length c) N.length (N.flatMap cR)) := Lib.hid (O3.out.below b4))
                  | (go_at_call 12; with_reducible refine (SA.out _).mono ?_; rintro e w3 ⟨rfl, b3⟩; have B3 := Lib.hid (HB.out.trans (b3.mono HB.out.size)); have O3 := Lib.hid (HO.out.below b3)))
                  · rename (bne _ _) = true => hx
                    exfalso
                    rw [byte_at HC.out] at hx
                    simp at hx
                  · go_ret2
                    exact ⟨none, 0, by rw [p1, p2]; rfl, by rw [p1]; exact ownG_nil _ _, B4.out⟩
                | some x =>
                  rw [ha] at HR VA
                  have SA := SA x 0 VA.out.1 VA.out.2
                  cases hb : sgP (pc.drop (j + 1)) with
                  | none =>
                    rw [hb] at HR VB
                    have SB := SB 0 6 VB.out.1 VB.out.2
                    obtain ⟨p1, p2⟩ := prs_none hq (HBad.out HR.out)
                    clear HR VA VB ha hb
                    go_wp2_with (first
                  | (go_at_call 12; with_reducible refine (SB.out _).mono ?_; rintro e w4 ⟨rfl, b4⟩; have B4 := Lib.hid (B3.out.trans (b4.mono B3.out.size)); have O4 : Hid (w4.ownsRow w.heap.size 34 2 (.slice D N.length c) N.length (N.flatMap cR)) := Lib.hid (O3.out.below b4))
                  | (go_at_call 12; with_reducible refine (SA.out _).mono ?_; rintro e w3 ⟨rfl, b3⟩; have B3 := Lib.hid (HB.out.trans (b3.mono HB.out.size)); have O3 := Lib.hid (HO.out.below b3)))
                    · rename (bne _ _) = true => hx
                      exfalso
                      rw [byte_at HC.out] at hx
                      simp at hx
                    · go_ret2
                      exact ⟨none, 0, by rw [p1, p2]; rfl, by rw [p1]; exact ownG_nil _ _, B4.out⟩
                  | some y =>
                    rw [hb] at HR VB
                    have SB := SB y 0 VB.out.1 VB.out.2
                    clear VA VB ha hb
                    go_wp2_with (first
                  | (go_at_call 12; with_reducible refine (SB.out _).mono ?_; rintro e w4 ⟨rfl, b4⟩; have B4 := Lib.hid (B3.out.trans (b4.mono B3.out.size)); have O4 : Hid (w4.ownsRow w.heap.size 34 2 (.slice D N.length c) N.length (N.flatMap cR)) := Lib.hid (O3.out.below b4))
                  | (go_at_call 12; with_reducible refine (SA.out _).mono ?_; rintro e w3 ⟨rfl, b3⟩; have B3 := Lib.hid (HB.out.trans (b3.mono HB.out.size)); have O3 := Lib.hid (HO.out.below b3))
                  | (at_builtin; refine wpList_append_own _ rfl _ _ 22 rfl w.heap.size 34 i0 (.agg #[.int .i64 0, .int .i64 0]) 2 16 Tryd.underlying22 hi0 hz0 hz1 hz2 rfl (by decide) _ N.length (N.flatMap cR) rfl (O4.out.alloc _) ⟨w4.heap.size, 0, none⟩ 1 1 (cR ⟨x, y⟩) (by simp [Act.eval]) rfl (two_new _ _ _ _) (by simp [cR, Value.oneCell']) (by simp [maxLen]; omega) (by omega) (by have := B4.out.size; simp; omega) ?_; intro v' w6 hown' hgrow _; obtain ⟨g', cap', rfl⟩ := ownsRow_succ hown'; have O6 := Lib.hid (own_snoc hown'); have B6 := Lib.hid ((B4.out.alloc B4.out.size _).grown hgrow (by have := B4.out.size; simp; omega) (fun k e => (O4.out.lt k e).1)); clear hown' hgrow))
                    · rename (bne _ _) = true => hx
                      exfalso
                      rw [byte_at HC.out] at hx
                      simp at hx
                    · go_roundw
                      case rel => exact ⟨s.length + 1, s.length + 1, P ++ [pc], N ++ [⟨x, y⟩], _, cap', by rw [List.length_append]; rfl, by simp, by simp, HNext, Lib.hid (recs_some HN.out HR.out), by omega, by omega, by simp; omega, Lib.hid (by simpa using O6.out), B6⟩
                      case measure => first | (simp [intOf]; done) | (simp [intOf]; omega)
        · have hk1 := (List.getElem?_eq_some_iff.1 hch).1
          have HC := Lib.hid hch
          clear hch
          go_wp2_with fail
          · rename (bne _ _) = true => hx
            exfalso
            rw [byte_at HC.out] at hx
            simp at hx
          rename (bne _ _) = false => hx0
          clear hx0 HC
          rw [mid_ext]
          generalize mid s a k = pc at HBad HNext hpl ⊢
          go_loopw [8] (fun vj wr' => ∃ j : Nat, vj = .int .i64 j ∧ j ≤ pc.length ∧ Hid (∀ i, i < j → pc[i]? ≠ some 58) ∧ Hid (OwnR wr' w.heap.size (.slice D N.length c) N) ∧ Hid (Below w.heap.size w wr')) (fun vj _ => pc.length - (intOf vj).toNat)
          case atStart => exact ⟨0, rfl, Nat.zero_le _, Lib.hid (fun i h => absurd h (Nat.not_lt_zero _)), HO, HB⟩
          case round =>
            clear HO HB
            obtain ⟨j, rfl, hj, HJ, HO, HB⟩ := hrel
            by_cases hcol : j < pc.length ∧ pc[j]? ≠ some 58
            · obtain ⟨hj1, hj2⟩ := hcol
              obtain ⟨ch, hch⟩ : ∃ ch, pc[j]? = some ch := ⟨pc[j], List.getElem?_eq_getElem hj1⟩
              have hn58 : ch.toNat ≠ 58 := fun e => hj2 (by rw [hch, UInt8.toNat_inj.1 (show ch.toNat = (58 : UInt8).toNat by simpa using e)])
              have HC := Lib.hid hch
              have H2 := Lib.hid hj2
              clear hch hj2
              go_wp2_with fail
              · exact ⟨⟨j + 1, by simp, by omega, Lib.hid (fun i hi => by
                  rcases Nat.lt_or_ge i j with h | h
                  · exact HJ.out i h
                  · obtain rfl : i = j := by omega
                    exact H2.out), HO, HB⟩, by simp [intOf]; omega⟩
              · rename (bne _ _) = false => hx
                exfalso
                rw [byte_at HC.out] at hx
                simp at hx
                omega
            · by_cases hjl : j = pc.length
              · clear hcol
                subst hjl
                have hnr : recP pc = none := rec_nocol HJ.out
                obtain ⟨p1, p2⟩ := prs_none hq (HBad.out hnr)
                go_wp2_with fail
                go_ret2
                exact ⟨none, 0, by rw [p1, p2]; rfl, by rw [p1]; exact ownG_nil _ _, HB.out⟩
              · have hj1 : j < pc.length := by omega
                have hc58 : pc[j]? = some 58 := Classical.byContradiction fun e => hcol ⟨hj1, e⟩
                have hcut := cut_col hc58 HJ.out
                have HC := Lib.hid hc58
                clear hcol hc58
                have la : (pc.take j).length ≤ 100000 := by rw [List.length_take]; omega
                have lb : (pc.drop (j + 1)).length ≤ 100000 := by rw [List.length_drop]; omega
                have SA : ∀ x e, sgV (pc.take j) = x → sgE (pc.take j) = e → Hid (∀ W, Calls Tryd.prog 12 #[.string ((⟨pc.toArray⟩ : ByteArray).extract 0 j)] W fun r w' => r = .returned (.tuple #[.int .i64 x, .int .i64 e]) ∧ Below W.heap.size W w') := fun x e h1 h2 => Lib.hid (fun W => by
                  rw [ext_take, ← h1, ← h2]; exact signedR_any _ la W)
                have SB : ∀ x e, sgV (pc.drop (j + 1)) = x → sgE (pc.drop (j + 1)) = e → Hid (∀ W, Calls Tryd.prog 12 #[.string ((⟨pc.toArray⟩ : ByteArray).extract (j + 1) pc.length)] W fun r w' => r = .returned (.tuple #[.int .i64 x, .int .i64 e]) ∧ Below W.heap.size W w') := fun x e h1 h2 => Lib.hid (fun W => by
                  rw [ext_drop, ← h1, ← h2]; exact signedR_any _ lb W)
                have HR : Hid (recP pc = match sgP (pc.take j), sgP (pc.drop (j + 1)) with
                  | some k, some v => some ⟨k, v⟩
                  | _, _ => none) := Lib.hid (by unfold recP; rw [hcut]; rfl)
                have VA : Hid (sgV (pc.take j) = (sgP (pc.take j)).getD 0 ∧ sgE (pc.take j) = if (sgP (pc.take j)).isSome then 0 else 6) := Lib.hid ⟨rfl, rfl⟩
                have VB : Hid (sgV (pc.drop (j + 1)) = (sgP (pc.drop (j + 1))).getD 0 ∧ sgE (pc.drop (j + 1)) = if (sgP (pc.drop (j + 1))).isSome then 0 else 6) := Lib.hid ⟨rfl, rfl⟩
                clear hcut la lb
                cases ha : sgP (pc.take j) with
                | none =>
                  rw [ha] at HR VA
                  have SA := SA 0 6 VA.out.1 VA.out.2
                  have SB := SB _ _ rfl rfl
                  generalize sgV (pc.drop (j + 1)) = y at SB
                  generalize sgE (pc.drop (j + 1)) = ey at SB
                  obtain ⟨p1, p2⟩ := prs_none hq (HBad.out HR.out)
                  clear HR VA VB ha
                  go_wp2_with (first
                  | (go_at_call 12; with_reducible refine (SB.out _).mono ?_; rintro e w4 ⟨rfl, b4⟩; have B4 := Lib.hid (B3.out.trans (b4.mono B3.out.size)); have O4 : Hid (w4.ownsRow w.heap.size 34 2 (.slice D N.length c) N.length (N.flatMap cR)) := Lib.hid (O3.out.below b4))
                  | (go_at_call 12; with_reducible refine (SA.out _).mono ?_; rintro e w3 ⟨rfl, b3⟩; have B3 := Lib.hid (HB.out.trans (b3.mono HB.out.size)); have O3 := Lib.hid (HO.out.below b3)))
                  · rename (bne _ _) = true => hx
                    exfalso
                    rw [byte_at HC.out] at hx
                    simp at hx
                  · go_ret2
                    exact ⟨none, 0, by rw [p1, p2]; rfl, by rw [p1]; exact ownG_nil _ _, B4.out⟩
                | some x =>
                  rw [ha] at HR VA
                  have SA := SA x 0 VA.out.1 VA.out.2
                  cases hb : sgP (pc.drop (j + 1)) with
                  | none =>
                    rw [hb] at HR VB
                    have SB := SB 0 6 VB.out.1 VB.out.2
                    obtain ⟨p1, p2⟩ := prs_none hq (HBad.out HR.out)
                    clear HR VA VB ha hb
                    go_wp2_with (first
                  | (go_at_call 12; with_reducible refine (SB.out _).mono ?_; rintro e w4 ⟨rfl, b4⟩; have B4 := Lib.hid (B3.out.trans (b4.mono B3.out.size)); have O4 : Hid (w4.ownsRow w.heap.size 34 2 (.slice D N.length c) N.length (N.flatMap cR)) := Lib.hid (O3.out.below b4))
                  | (go_at_call 12; with_reducible refine (SA.out _).mono ?_; rintro e w3 ⟨rfl, b3⟩; have B3 := Lib.hid (HB.out.trans (b3.mono HB.out.size)); have O3 := Lib.hid (HO.out.below b3)))
                    · rename (bne _ _) = true => hx
                      exfalso
                      rw [byte_at HC.out] at hx
                      simp at hx
                    · go_ret2
                      exact ⟨none, 0, by rw [p1, p2]; rfl, by rw [p1]; exact ownG_nil _ _, B4.out⟩
                  | some y =>
                    rw [hb] at HR VB
                    have SB := SB y 0 VB.out.1 VB.out.2
                    clear VA VB ha hb
                    go_wp2_with (first
                  | (go_at_call 12; with_reducible refine (SB.out _).mono ?_; rintro e w4 ⟨rfl, b4⟩; have B4 := Lib.hid (B3.out.trans (b4.mono B3.out.size)); have O4 : Hid (w4.ownsRow w.heap.size 34 2 (.slice D N.length c) N.length (N.flatMap cR)) := Lib.hid (O3.out.below b4))
                  | (go_at_call 12; with_reducible refine (SA.out _).mono ?_; rintro e w3 ⟨rfl, b3⟩; have B3 := Lib.hid (HB.out.trans (b3.mono HB.out.size)); have O3 := Lib.hid (HO.out.below b3))
                  | (at_builtin; refine wpList_append_own _ rfl _ _ 22 rfl w.heap.size 34 i0 (.agg #[.int .i64 0, .int .i64 0]) 2 16 Tryd.underlying22 hi0 hz0 hz1 hz2 rfl (by decide) _ N.length (N.flatMap cR) rfl (O4.out.alloc _) ⟨w4.heap.size, 0, none⟩ 1 1 (cR ⟨x, y⟩) (by simp [Act.eval]) rfl (two_new _ _ _ _) (by simp [cR, Value.oneCell']) (by simp [maxLen]; omega) (by omega) (by have := B4.out.size; simp; omega) ?_; intro v' w6 hown' hgrow _; obtain ⟨g', cap', rfl⟩ := ownsRow_succ hown'; have O6 := Lib.hid (own_snoc hown'); have B6 := Lib.hid ((B4.out.alloc B4.out.size _).grown hgrow (by have := B4.out.size; simp; omega) (fun k e => (O4.out.lt k e).1)); clear hown' hgrow))
                    · rename (bne _ _) = true => hx
                      exfalso
                      rw [byte_at HC.out] at hx
                      simp at hx
                    · go_roundw
                      case rel => exact ⟨k + 1, k + 1, P ++ [pc], N ++ [⟨x, y⟩], _, cap', by rw [List.length_append]; rfl, by simp, by simp, HNext, Lib.hid (recs_some HN.out HR.out), by omega, by omega, by simp; omega, Lib.hid (by simpa using O6.out), B6⟩
                      case measure => first | (simp [intOf]; done) | (simp [intOf]; omega)
    · have hcut : cutsL s = P := by
        rcases HA.out with ⟨h', _⟩ | ⟨_, e⟩
        · omega
        · exact e
      have HR : Hid (recs (cutsL s) = some N) := Lib.hid (by rw [hcut]; exact HN.out)
      clear hfar HA hcut HN
      go_wp2_with fail
      · have hl : 64 < N.length := by omega
        go_ret2
        obtain ⟨p1, p2⟩ := prs_long hq HR.out hl
        exact ⟨none, 0, by rw [p1, p2]; rfl, by rw [p1]; exact ownG_nil _ _, HB.out⟩
      · have hl : ¬ 64 < N.length := by omega
        go_ret2
        obtain ⟨p1, p2⟩ := prs_some hq HR.out hl
        exact ⟨D, c, by rw [p1, p2]; rfl, by rw [p1]; exact HO.out, HB.out⟩
end Go.Proofs.YtfjfohkdlikpiaaDoor.data
