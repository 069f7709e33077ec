/-
  MultiMoves: what goes from the frontier, and what comes, lead from the empty one to the frontier now.
-/
import Derived.Test.YtomekndinopoaaaJMbB
import Derived.Test.YtomekndinopoaaaJMuN
import Derived.Test.YtomekndinopoaaaJRt3
namespace Go.Proofs.Ytomekndinopoaaa.multi
open Go.ChangeShapes Go.WideShapes Go.ChangeAt Go.RowKit Go.Maps Go.WideMaps
open Go.Proofs.Ytomekndinopoaaa.region
open Go.Proofs.Ytomekndinopoaaa.tm Go.Proofs.Ytomekndinopoaaa.opened Go.Proofs.Ytomekndinopoaaa.block Go.Proofs.Ytomekndinopoaaa.stamp Go.Proofs.Ytomekndinopoaaa.chain

/-- What the walk keeps: the Multi, its last frontier in the map, all behind the start. -/
structure Mo (w0 wr : World) (g : Nat) (d : Int) (b : Nat) (B : Option Addr) (c : Nat) (F : List Tm) (M : List TN) (ab : Nat) (S : List Tm) : Prop where
  m : MulP wr g d b B c F M
  s : OwnB wr ab S
  bel : Below w0.heap.size w0 wr
  ne : b ≠ ab
  hg : w0.heap.size ≤ g
  hb : w0.heap.size ≤ b
  ha : w0.heap.size ≤ ab
theorem Mo.ga {w0 wr : World} {g b c ab : Nat} {d : Int} {B : Option Addr} {F S : List Tm} {M : List TN} (h : Mo w0 wr g d b B c F M ab S) : g ≠ ab := h.m.apart h.s
theorem Mo.later {w0 wr w' : World} {g b c ab : Nat} {d : Int} {B : Option Addr} {F S : List Tm} {M : List TN} (h : Mo w0 wr g d b B c F M ab S) (hb : Below wr.heap.size wr w') : Mo w0 w' g d b B c F M ab S :=
  ⟨h.m.below hb, h.s.below hb h.s.lt, h.bel.trans (hb.mono h.bel.size), h.ne, h.hg, h.hb, h.ha⟩
theorem Mo.add {w0 wr w' : World} {g b c ab : Nat} {d : Int} {B : Option Addr} {F S : List Tm} {M N : List TN} (h : Mo w0 wr g d b B c F M ab S) (hm : MulP w' g d b B c F N) (hg : wr.grownBy w' (some b)) : Mo w0 w' g d b B c F N ab S :=
  ⟨hm, h.s.kept hg (by simpa using fun e => h.ne e.symm), h.bel.trans (add_below hg h.bel.size h.hb), h.ne, h.hg, h.hb, h.ha⟩
theorem Mo.moved {w0 wr w' : World} {g b c c' ab : Nat} {d : Int} {B B' : Option Addr} {F F' S : List Tm} {M : List TN} (h : Mo w0 wr g d b B c F M ab S) (hm : MulP w' g d b B' c' F' M) (hg : wr.grownBy w' (some g)) : Mo w0 w' g d b B' c' F' M ab S :=
  ⟨hm, h.s.kept hg (by simpa using fun e => h.ga e.symm), h.bel.trans (add_below hg h.bel.size h.hg), h.ne, h.hg, h.hb, h.ha⟩
theorem Mo.set {w0 wr w' : World} {g b c ab : Nat} {d : Int} {B : Option Addr} {F S S' : List Tm} {M : List TN} (h : Mo w0 wr g d b B c F M ab S) (hs : OwnB w' ab S') (hg : wr.grownBy w' (some ab)) : Mo w0 w' g d b B c F M ab S' :=
  ⟨h.m.past h.s h.ne hg, hs, h.bel.trans (add_below hg h.bel.size h.ha), h.ne, h.hg, h.hb, h.ha⟩
theorem in_left {L G : List Tm} {k : Nat} (h : ∀ s ∈ L, s.In) : ∀ s ∈ leftK L G k, s.In := fun s hs => h s (List.mem_filter.1 hs).1
theorem left_len (L G : List Tm) (k : Nat) : (leftK L G k).length ≤ L.length := List.length_filter_le _ _
theorem in_come {C R : List Tm} {k : Nat} (h : ∀ s ∈ C, s.In) (h' : ∀ s ∈ R, s.In) : ∀ s ∈ C.take k ++ R, s.In := fun s hs => (List.mem_append.1 hs).elim (fun e => h s (List.mem_of_mem_take e)) (h' s)
theorem start_map {w0 w1 : World} {g b : Nat} {d : Int} (h : MulP w1 g d b none 0 [] []) (hb : Below w0.heap.size w0 w1) (h1 : w0.heap.size ≤ g) (h2 : w0.heap.size ≤ b) : Mo w0 (w1.alloc (.map #[] 0)) g d b none 0 [] [] w1.heap.size [] :=
  ⟨h.below (fresh1 w1 _), ownB_made w1, hb.trans ((fresh1 w1 _).mono hb.size), by have := h.own.lt; omega, h1, h2, hb.size⟩

set_option maxRecDepth 100000 in
set_option maxHeartbeats 16000000 in
theorem walkMo (A : Option Addr) (c : Nat) (L : List Ac) (iL : ∀ a ∈ L, a.In) (mL : L.length ≤ 4611686018427387903) (w : World) (h : La w A L) :
    Calls Try.prog 6 #[.slice A L.length c] w fun e w' => e = .returned (.bool true) ∧ Below w.heap.size w w' := by
  have H := Lib.hid h
  have W0 := Lib.hid (works_any w)
  have hdep := depA_le L
  have hN := Lib.hid (fun W => new_good (depA L) hdep.1 hdep.2 W)
  have hmm := @run_makeMap Try.prog
  clear h
  cases L with
  | nil =>
    change Hid (∀ W, Calls _ _ #[.int .i64 0] _ _) at hN
    clear hdep H
    go_enter Try.func6, Try.ntmps6
    go_wp2_with (first
      | (go_at_call 28; refine W0.out.mono ?_; rintro e w1 ⟨rfl, b1⟩; have B1 := Lib.hid b1; clear b1)
      | (go_at_call 8; refine (hN.out _).mono ?_; rintro e w2 ⟨g, b, rfl, h2, b2, hg1, hb1⟩; have H2 := Lib.hid (start_map h2 (B1.out.trans (b2.mono B1.out.size)) (Nat.le_trans B1.out.size hg1) (Nat.le_trans B1.out.size hb1)); clear h2 b2 hg1 hb1))
    go_loopw [7] (fun v wr => v = .int .i64 0 ∧ Below w.heap.size w wr) (fun _ _ => 0)
    case atStart => exact ⟨rfl, H2.out.bel⟩
    case round =>
      obtain ⟨rfl, BB⟩ := hrel
      go_wp2_with fail
      go_ret
      exact ⟨rfl, BB⟩
  | cons a r =>
    generalize hL : a :: r = L at *
    have h0 : L[0]? = some a := by rw [← hL]; rfl
    have hl0 : 0 < L.length := by rw [← hL]; simp
    have hdp : Hid (depA L = a.t.d % 4) := Lib.hid (by rw [← hL]; rfl)
    clear hL
    generalize depA L = dp at *
    have ia := iL a (List.mem_of_getElem? h0)
    have i1 := ia.t.d0
    have i2 := ia.t.d1
    have HX0 := Lib.hid h0
    clear ia h0
    go_enter Try.func6, Try.ntmps6
    go_upto_region 5 with (go_at_call 28; refine W0.out.mono ?_; rintro e w1 ⟨rfl, b1⟩; have H1 := Lib.hid (H.out.below b1); have B1 := Lib.hid b1; clear b1)
    obtain ⟨b0, o0, hA, hb0, c0, c1, c2, c3, c4, c5, c6⟩ := H1.out.at HX0.out
    subst hA
    clear c0 c1 c3 c4 c5 c6 W0
    go_upto_region 6 with fail
    rw [dep_wrap, ← hdp.out]
    clear c2
    go_wp2_with ((go_at_call 8; refine (hN.out _).mono ?_; rintro e w2 ⟨g, b, rfl, h2, b2, hg1, hb1⟩; have H2 := Lib.hid (start_map h2 (B1.out.trans (b2.mono B1.out.size)) (Nat.le_trans B1.out.size hg1) (Nat.le_trans B1.out.size hb1)); have hs2 := Nat.le_trans B1.out.size b2.size; clear h2 b2 hg1 hb1))
    generalize w2.alloc (.map #[] 0) = w3 at H2 ⊢
    generalize w2.heap.size = ab at H2 ⊢
    clear hN hmm hs2 B1 H1
    go_loopw [7] (fun v wr => ∃ (k : Nat) (B : Option Addr) (cB : Nat) (F : List Tm), k ≤ L.length ∧ k ≤ 60 ∧ v = .int .i64 k ∧ Hid (Mo w wr g dp b B cB F (sumA dp (L.take k)) ab F) ∧ Hid (F.Nodup ∧ InL F) ∧ F.length ≤ 4096) (fun v _ => 60 - (intOf v).toNat)
    case atStart => exact ⟨0, none, 0, [], Nat.zero_le _, Nat.zero_le _, rfl, Lib.hid (by simpa [sumA] using H2.out), Lib.hid ⟨List.nodup_nil, by intro t ht; cases ht⟩, by simp⟩
    case round =>
      obtain ⟨k, B, cB, F, hk, hk6, rfl, HM, HF, hlF⟩ := hrel
      by_cases hlt : k < L.length
      · by_cases h6 : k < 60
        · obtain ⟨x, hx⟩ : ∃ x, L[k]? = some x := ⟨L[k], List.getElem?_eq_getElem hlt⟩
          have hs : Hid (sumA dp (L.take (k + 1)) = addV dp (sumA dp (L.take k)) x.t x.n) := Lib.hid (by rw [List.take_add_one, hx]; exact sumA_snoc dp (L.take k) x)
          have HGD := Lib.hid (sumA_good (d := dp) (L := L.take k) (fun y hy => iL y (List.mem_of_mem_take hy)))
          have HGN := Lib.hid (sumA_good (d := dp) (L := L.take (k + 1)) (fun y hy => iL y (List.mem_of_mem_take hy)))
          have ix := (iL x (List.mem_of_getElem? hx)).t
          have HXK := Lib.hid hx
          have HMD := Lib.hid (HM.out.later (Below.refl _ wr).drew)
          have hbd : Below w.heap.size w wr.drew := HMD.out.bel
          obtain ⟨b2, o2, hA2, hb2, d0, d1, d2, d3, d4, d5, d6⟩ := (H.out.below hbd).at hx
          simp only [Option.some.injEq, Addr.mk.injEq, and_true] at hA2
          obtain ⟨rfl, rfl⟩ := hA2
          have CA := Lib.hid (add_any x.t ix x.n HGD.out.1 HGD.out.2 wr.drew HMD.out.m)
          rw [← hs.out] at CA
          obtain ⟨M, hM⟩ : ∃ M, sumA dp (L.take (k + 1)) = M := ⟨_, rfl⟩
          rw [hM] at CA HGN
          have hs2 := Lib.hid hM
          clear hs hx hbd d0 hM
          go_upto_region 11 with fail
          go_still_tail 11, (by kernel_rfl)
          change wpList _ _ _ _ _ wr.drew
          go_upto_region 12 with ((go_at_call 10; refine CA.out.mono ?_; rintro e w7 ⟨rfl, h7, g7⟩; have H7 := Lib.hid (HMD.out.add h7 g7); clear h7 g7))
          clear CA HMD HM HGD d1 d2 d3 d4 d5 d6 hb2 ix
          obtain ⟨b2, o2, hA2, hb2, d0, d1, d2, d3, d4, d5, d6⟩ := (H.out.below H7.out.bel).at HXK.out
          simp only [Option.some.injEq, Addr.mk.injEq, and_true] at hA2
          obtain ⟨rfl, rfl⟩ := hA2
          clear d1 d2 d3 d4 d5 d6 hb2
          by_cases hk1 : x.k = 1
          · rw [hk1] at d0
            clear hk1
            rcases make_seven HGN.out.1 with hE | hE
            rotate_left
            · have MB := Lib.hid (moves_bad HGN.out.1 HGN.out.2 (by rw [hE]; decide) w7 H7.out.m)
              rw [hE] at MB
              clear hE
              go_wp2_with (go_at_call 12; refine MB.out.mono ?_; rintro e w8 ⟨rfl, b8⟩; have B8 := Lib.hid (H7.out.later b8).bel; clear b8)
              go_ret
              exact ⟨rfl, B8.out⟩
            have hFr := Lib.hid (make_zero hE).2.1
            have hiF := Lib.hid (front_in hFr.out)
            have hnF := Lib.hid (sort_nodup hFr.out.inc)
            have hlN : (makeV (present M) (inP HGN.out.1)).length ≤ 4096 := present_le M HGN.out.2 HGN.out.1
            have MG := Lib.hid (moves_good HGN.out.1 HGN.out.2 hlF hE w7 H7.out.m)
            have FR := Lib.hid (fun W B' c' (hW : MulP W g dp b B' c' (makeV (present M) (inP HGN.out.1)) M) => frontier_chain HGN.out.1 HGN.out.2 W hW)
            rw [hE] at FR
            clear hE
            generalize makeV (present M) _ = N at MG FR hFr hiF hnF hlN
            have hlG := Nat.le_trans (without_len F N) hlF
            have hlC := Nat.le_trans (without_len N F) hlN
            have HMV := Lib.hid (moved HF.out.1 hnF.out)
            have HGn := Lib.hid (without_nodup (F := N) HF.out.1)
            have HCn := Lib.hid (fun (k : Nat) (t : Tm) (h : (withoutV N F)[k]? = some t) => come_new (L := F) hnF.out h)
            have HGm : Hid (∀ t ∈ withoutV F N, t ∈ F ∧ t.In) := Lib.hid fun t ht => ⟨(mem_without.1 ht).1, HF.out.2 t (mem_without.1 ht).1⟩
            have HCi : Hid (∀ t ∈ withoutV N F, t.In) := Lib.hid fun t ht => hiF.out t (mem_without.1 ht).1
            generalize withoutV F N = G at MG HMV hlG HGn HGm
            generalize withoutV N F = C at MG HMV hlC HCn HCi
            clear hFr
            go_upto_region 14 with (go_at_call 12; refine MG.out.mono ?_; rintro e w8 ⟨D1, c1, D2, c2, B8, c8, rfl, l1, l2, h8, g8⟩; have L1 := Lib.hid l1; have L2 := Lib.hid l2; have H8 := Lib.hid (H7.out.moved h8 g8); clear l1 l2 h8 g8)
            clear MG H7 d0
            go_wp2_with fail
            go_loopw [11] (fun v wx => ∃ j : Nat, j ≤ G.length ∧ v = .int .i64 j ∧ Hid (Mo w wx g dp b B8 c8 N M ab (leftK F G j)) ∧ Hid (Lt wx D1 G) ∧ Hid (Lt wx D2 C)) (fun v _ => G.length - (intOf v).toNat)
            case atStart => exact ⟨0, Nat.zero_le _, rfl, Lib.hid (by rw [left_zero]; exact H8.out), L1, L2⟩
            case round =>
              obtain ⟨j, hj, rfl, HJ, LJ, LC⟩ := hrel
              clear H8 L1 L2
              by_cases hjl : j < G.length
              · obtain ⟨t, ht, htm⟩ := get_lt hjl
                obtain ⟨htF, it⟩ := HGm.out t htm
                obtain ⟨b3, o3, hA3, hb3, c30, c31, c32, c33, c34⟩ := LJ.out.at ht
                subst hA3
                have LK := lookB_run HJ.out.s (in_left HF.out.2) t it
                rw [decide_eq_true (mem_left HGn.out ht htF)] at LK
                obtain ⟨w9, hdel, hs9, hg9⟩ := delB_run HJ.out.s (in_left HF.out.2) t it 0
                rw [left_more ht] at hs9
                have H9 := Lib.hid (HJ.out.set hs9 hg9)
                have LJ9 := Lib.hid (lt_map LJ.out HJ.out.s hg9)
                have LC9 := Lib.hid (lt_map LC.out HJ.out.s hg9)
                clear hs9 hg9 ht htm htF
                go_wp2_with fail
                go_roundw
                case rel => exact ⟨j + 1, by omega, by go_num, H9, LJ9, LC9⟩
                case measure => simp [intOf]; omega
              · obtain rfl : j = G.length := by omega
                clear LJ
                have hlR := Nat.le_trans (left_len F G G.length) hlF
                have hiR := Lib.hid (in_left (G := G) (k := G.length) HF.out.2)
                have HCn2 := Lib.hid (fun k t h => HCn.out k t h G G.length)
                clear HCn
                generalize leftK F G G.length = R at HJ HMV hlR hiR HCn2
                go_wp2_with fail
                go_loopw [12] (fun v wy => ∃ j : Nat, j ≤ C.length ∧ v = .int .i64 j ∧ Hid (Mo w wy g dp b B8 c8 N M ab (C.take j ++ R)) ∧ Hid (Lt wy D2 C)) (fun v _ => C.length - (intOf v).toNat)
                case atStart => exact ⟨0, Nat.zero_le _, rfl, Lib.hid (by simpa using HJ.out), LC⟩
                case round =>
                  obtain ⟨j, hj, rfl, HK, LK2⟩ := hrel
                  clear HJ LC
                  by_cases hjl : j < C.length
                  · obtain ⟨t, ht, htm⟩ := get_lt hjl
                    have it := HCi.out t htm
                    obtain ⟨b3, o3, hA3, hb3, c30, c31, c32, c33, c34⟩ := LK2.out.at ht
                    subst hA3
                    have hlS : (C.take j ++ R).length ≤ 1000000 := by rw [List.length_append, List.length_take]; omega
                    have LK := lookB_run HK.out.s (in_come HCi.out hiR.out) t it
                    rw [decide_eq_false (HCn2.out j t ht)] at LK
                    obtain ⟨w9, hput, hs9, hg9⟩ := putB_run HK.out.s hlS (in_come HCi.out hiR.out) t it
                    have hs9 := hs9.perm (put_perm rfl ht (HCn2.out j t ht))
                    have H9 := Lib.hid (HK.out.set hs9 hg9)
                    have LC9 := Lib.hid (lt_map LK2.out HK.out.s hg9)
                    clear hs9 hg9 ht htm hlS
                    go_wp2_with fail
                    go_roundw
                    case rel => exact ⟨j + 1, by omega, by go_num, H9, LC9⟩
                    case measure => simp [intOf]; omega
                  · obtain rfl : j = C.length := by omega
                    have HZ : Hid (Mo w wr g dp b B8 c8 N M ab N) := Lib.hid (by
                      have h := HK.out
                      rw [List.take_length] at h
                      exact ⟨h.m, h.s.perm HMV.out, h.bel, h.ne, h.hg, h.hb, h.ha⟩)
                    clear HK LK2
                    go_upto_region 29 with (go_at_call 33; refine (FR.out _ _ _ HZ.out.m).mono ?_; rintro e w10 ⟨B10, c10, rfl, l10, b10⟩; have L10 := Lib.hid l10; have H10 := Lib.hid (HZ.out.later b10); clear l10 b10)
                    clear HZ FR
                    have LN := lenB_run H10.out.s
                    go_wp2_with fail
                    go_loopw [15] (fun v wz => ∃ j : Nat, j ≤ N.length ∧ v = .int .i64 j ∧ wz = w10) (fun v _ => N.length - (intOf v).toNat)
                    case atStart => exact ⟨0, Nat.zero_le _, rfl, rfl⟩
                    case round =>
                      obtain ⟨j, hj, rfl, rfl⟩ := hrel
                      by_cases hjl : j < N.length
                      · obtain ⟨t, ht, htm⟩ := get_lt hjl
                        obtain ⟨b3, o3, hA3, hb3, c30, c31, c32, c33, c34⟩ := L10.out.at ht
                        subst hA3
                        have LK := lookB_run H10.out.s hiF.out t (hiF.out t htm)
                        rw [decide_eq_true htm] at LK
                        clear ht htm
                        go_wp2_with fail
                        go_roundw
                        case rel => exact ⟨j + 1, by omega, by go_num, by first | rfl | trivial⟩
                        case measure => simp [intOf]; omega
                      · obtain rfl : j = N.length := by omega
                        go_wp2_with fail
                        go_roundw
                        case rel => exact ⟨k + 1, B8, c8, N, by omega, by omega, by go_num, by rw [hs2.out]; exact H10, Lib.hid ⟨hnF.out, hiF.out⟩, hlN⟩
                        case measure => simp [intOf]; omega
          · have e1 : (x.k != 1) = true := by simpa using hk1
            go_wp2_with fail
            go_roundw
            case rel => exact ⟨k + 1, B, cB, F, by omega, by omega, by go_num, by rw [hs2.out]; exact H7, HF, hlF⟩
            case measure => simp [intOf]; omega
        · obtain rfl : k = 60 := by omega
          have BB := HM.out.bel
          go_wp2_with fail
          go_ret
          exact ⟨rfl, BB⟩
      · obtain rfl : k = L.length := by omega
        have BB := HM.out.bel
        go_wp2_with fail
        go_ret
        exact ⟨rfl, BB⟩
end Go.Proofs.Ytomekndinopoaaa.multi
