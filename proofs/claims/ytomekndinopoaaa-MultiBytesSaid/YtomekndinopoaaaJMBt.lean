/-
  MultiBytes: the bytes of whatever was added; what any bytes are read as.
-/
import Derived.Test.YtomekndinopoaaaJRt7
import Derived.StillTailTactics
namespace Go.Proofs.Ytomekndinopoaaa.multi
open Go.ChangeShapes Go.WideShapes Go.ChangeAt Go.RowKit Go.Maps Go.WideMaps
open Go.Proofs.Ytomekndinopoaaa.region
open Go.Proofs.Ytomekndinopoaaa.tm Go.Proofs.Ytomekndinopoaaa.opened Go.Proofs.Ytomekndinopoaaa.block Go.Proofs.Ytomekndinopoaaa.stamp Go.Proofs.Ytomekndinopoaaa.chain Go.Proofs.Ytomekndinopoaaa.code Go.Proofs.Ytomekndinopoaaa.enc

set_option maxRecDepth 100000 in
set_option maxHeartbeats 16000000 in
theorem walkBt (d0 : Int) (A : Option Addr) (c : Nat) (L : List Ac) (iL : ∀ a ∈ L, a.In) (_mL : L.length ≤ 4611686018427387903) (l : List UInt8) (w : World) (h : La w A L) :
    Calls Try.prog 4 #[.int .i64 d0, .slice A L.length c, .string ⟨l.toArray⟩] w fun e w' => e = .returned (.bool true) ∧ Below w.heap.size w w' := by
  have H := Lib.hid h
  have iL := Lib.hid iL
  have hsz : (⟨l.toArray⟩ : ByteArray).size = l.length := by simp [ByteArray.size]
  clear h
  by_cases hl : 5000 < l.length
  · go_enter Try.func4, Try.ntmps4
    go_wp2_with fail
    go_ret
    exact ⟨rfl, Below.refl _ _⟩
  have N1 := Lib.hid (new_good (d0 % 4) (by omega) (by omega))
  have N2 := Lib.hid (newR_good (d0 % 4) (by omega) (by omega))
  obtain ⟨dp, hdp⟩ : ∃ dp, d0 % 4 = dp := ⟨_, rfl⟩
  have hp0 : 0 ≤ dp := by omega
  have hp1 : dp ≤ 3 := by omega
  have HDP := Lib.hid hdp
  rw [hdp] at N1 N2
  clear hdp
  go_enter Try.func4, Try.ntmps4
  go_upto_region 4 with fail
  rw [dep_wrap, HDP.out]
  go_upto_block 0 with (first
    | (go_at_call 8; refine (N1.out _).mono ?_; rintro e1 w1 ⟨g, b, rfl, h1, bb1, hg1, hb1⟩; have P1 := Lib.hid h1; have B1 := Lib.hid bb1; have HG1 := Lib.hid (And.intro hg1 hb1); clear h1 bb1 hg1 hb1)
    | (go_at_call 9; refine (N2.out _).mono ?_; rintro e2 w2 ⟨rfl, h2, b2⟩; have T2 : Hid (Two w w2 g dp b none 0 w1.heap.size none 0 none 0 [] []) := Lib.hid ⟨P1.out.below b2, h2, B1.out.trans (b2.mono B1.out.size), HG1.out.1, HG1.out.2, B1.out.size⟩; clear h2 b2))
  generalize w1.heap.size = r at T2 ⊢
  clear N1 N2 P1 B1 HG1
  go_cut [9] from 40 (fun v wx => v = .pointer (some ⟨r, 0, none⟩) ∧ ∃ (A' : Option Addr) (a : Nat) (M : List TN), Hid (Two w wx g dp b none 0 r A' a none 0 [] M) ∧ Hid (GoodM dp M ∧ M.length ≤ 4096))
  case first =>
    go_wp2_with fail
    go_loopw [11] (fun v wr => ∃ (k : Nat) (A' : Option Addr) (a : Nat) (M : List TN), k ≤ L.length ∧ k ≤ 40 ∧ v = .int .i64 k ∧ Hid (Two w wr g dp b none 0 r A' a none 0 [] M) ∧ Hid (GoodM dp M ∧ M.length ≤ 4096)) (fun v _ => 40 - (intOf v).toNat)
    case atStart => exact ⟨0, none, 0, [], Nat.zero_le _, Nat.zero_le _, rfl, T2, Lib.hid ⟨GoodM.nil dp, by simp⟩⟩
    case round =>
      obtain ⟨k, A', a, M, hk, hk4, rfl, HT0, HG⟩ := hrel
      clear T2
      by_cases hlt : k < L.length ∧ k < 40
      · obtain ⟨hl1, hl2⟩ := hlt
        obtain ⟨x, hx⟩ : ∃ x, L[k]? = some x := ⟨L[k], List.getElem?_eq_getElem hl1⟩
        have ix := Lib.hid (iL.out x (List.mem_of_getElem? hx)).t
        have HX := Lib.hid hx
        have hEV := add_good (d := dp) HG.out.1 HG.out.2 ix.out x.n
        have HG2 := Lib.hid hEV
        have HT1 := Lib.hid (HT0.out.later (Below.refl _ wr).drew)
        have CP := Lib.hid (add_any x.t ix.out x.n HG.out.1 HG.out.2 wr.drew HT1.out.p)
        have CR := Lib.hid (fun W (hW : MulR W r dp A' a M none 0 []) => addR_any x.t ix.out x.n HG.out.1 HG.out.2 W hW)
        obtain ⟨b0, o0, hA, hb0, c0, c1, c2, c3, c4, c5, c6⟩ := (H.out.below HT1.out.bel).at hx
        subst hA
        generalize addV dp M x.t x.n = M2 at CP CR HG2
        generalize addE dp M x.t x.n = E at CP CR
        clear hEV hx c0 HT0
        go_upto_region 11 with fail
        go_still_tail 11, (by kernel_rfl)
        change wpList _ _ _ _ _ wr.drew
        go_upto_region 12 with (go_at_call 10; refine CP.out.mono ?_; rintro e1 w7 ⟨rfl, h7, g7⟩; have P7 := Lib.hid h7; have Q7 := Lib.hid (HT1.out.q.pastB HT1.out.p.own g7); have B7 := Lib.hid (HT1.out.bel.trans (add_below g7 HT1.out.bel.size HT1.out.hb)); clear h7 g7)
        clear c1 c2 c3 c4 c5 c6 hb0 CP
        have P8 := Lib.hid (P7.out.below (Below.refl _ w7).drew)
        have Q8 := Lib.hid (Q7.out.below (Below.refl _ w7).drew)
        have B8 : Hid (Below w.heap.size w w7.drew) := Lib.hid B7.out.drew
        have CR2 := Lib.hid (CR.out w7.drew Q8.out)
        obtain ⟨b2, o2, hA2, hb2, d0', c1, c2, c3, c4, c5, c6⟩ := (H.out.below B8.out).at HX.out
        simp only [Option.some.injEq, Addr.mk.injEq, and_true] at hA2
        obtain ⟨rfl, rfl⟩ := hA2
        clear P7 Q7 B7 CR d0'
        go_still_tail 11, (by kernel_rfl)
        change wpList _ _ _ _ _ w7.drew
        go_wp2_with (go_at_call 11; refine CR2.out.mono ?_; rintro e2 w9 ⟨A9, a9, rfl, h9, g9⟩; have T9 : Hid (Two w w9 g dp b none 0 r A9 a9 none 0 [] M2) := Lib.hid ⟨P8.out.pastR Q8.out g9, h9, B8.out.trans (add_below g9 B8.out.size HT1.out.hr), HT1.out.hg, HT1.out.hb, HT1.out.hr⟩; clear h9 g9)
        go_roundw
        case rel => exact ⟨k + 1, A9, a9, M2, by omega, by omega, by go_num, T9, HG2⟩
        case measure => simp [intOf]; omega
      · go_wp2_with fail
        all_goals go_meet
        all_goals exact ⟨rfl, A', a, M, HT0, HG⟩
  case rest =>
    obtain ⟨rfl, A', a, M, HT, HG⟩ := hcut
    rename World => w3
    have YP := Lib.hid (bytes_any HG.out.1 hp0 hp1 HG.out.2 _ HT.out.p)
    have YR := Lib.hid (fun W (hW : MulR W r dp A' a M none 0 []) => bytesR_any HG.out.1 hp0 hp1 HG.out.2 W hW)
    generalize bytM dp M = X at YP YR
    have NQ := Lib.hid (fun W => newQ ⟨l.toArray⟩ l rfl W)
    clear T2 HDP
    go_upto_region 16 with (first
      | (go_at_call 20; refine YP.out.mono ?_; rintro e3 w4 ⟨rfl, b4⟩; have T4 := Lib.hid (HT.out.later b4); clear b4)
      | (go_at_call 21; refine (YR.out _ T4.out.q).mono ?_; rintro e4 w5 ⟨rfl, b5⟩; have B5 := Lib.hid (T4.out.later b5).bel; clear b5)
      | (go_at_call 22; refine (NQ.out _).mono ?_; rintro e5 w6 ⟨rfl, q6, b6⟩; have Q6 := Lib.hid q6; have B6 := Lib.hid (B5.out.trans (b6.mono B5.out.size)); clear q6 b6))
    have hb7 := fresh1 w6 (.cells #[.string ⟨l.toArray⟩, .int .i64 0, .int .i64 0] 52)
    have QA7 := Lib.hid (belowQ Q6.out hb7)
    have QB7 : Hid (QB (w6.alloc (.cells #[.string ⟨l.toArray⟩, .int .i64 0, .int .i64 0] 52)) w6.heap.size (l, 0)) := Lib.hid ⟨⟨l.toArray⟩, 0, Nat.zero_le _, by omega, by simp, Whole.fresh w6 _ _⟩
    have B7 := Lib.hid (B6.out.trans (hb7.mono B6.out.size))
    have hab : w5.heap.size ≠ w6.heap.size := by have := Q6.out.inside; omega
    have hga : w.heap.size ≤ w5.heap.size := B5.out.size
    have hgb : w.heap.size ≤ w6.heap.size := B6.out.size
    change Code.wp _ _ _ _ (w6.alloc (.cells #[.string ⟨l.toArray⟩, .int .i64 0, .int .i64 0] 52))
    generalize w6.alloc (.cells #[.string ⟨l.toArray⟩, .int .i64 0, .int .i64 0] 52) = w7 at QA7 QB7 B7 ⊢
    clear hb7 Q6 YP YR NQ HT T4 B5 B6 HG
    generalize w5.heap.size = ga at QA7 hab hga ⊢
    generalize w6.heap.size = gb at QB7 hab hgb ⊢
    go_wp2_with fail
    go_loopw [14] (fun v wr => ∃ (j : Nat) (q : Rq), j ≤ 2 ∧ v = .int .i64 j ∧ Hid (q.1.length ≤ 5000) ∧ Hid (QA wr ga q) ∧ Hid (QB wr gb q) ∧ Hid (Below w.heap.size w wr)) (fun v _ => 2 - (intOf v).toNat)
    case atStart => exact ⟨0, (l, 0), by omega, rfl, Lib.hid (by show l.length ≤ 5000; omega), QA7, QB7, B7⟩
    case round =>
      obtain ⟨j, q, hj, rfl, HQL, QAJ, QBJ, BJ⟩ := hrel
      clear QA7 QB7 B7
      by_cases hj2 : j < 2
      · have RP := Lib.hid (readP_any ga q (by have := HQL.out; omega) _ QAJ.out)
        have RR := Lib.hid (fun W (hW : QB W gb q) => readR_any gb q (by have := HQL.out; omega) W hW)
        have HMG := Lib.hid (fun h => mu_good (q := q) h)
        have HML : (muL q).length ≤ 4096 := by rw [muL_len]; exact muN_le q
        have hmd := muD_bd q
        cases hmb : muB q with
        | true =>
          rw [hmb] at RP RR HMG
          have G := Lib.hid (HMG.out rfl)
          go_upto_region 20 with (first
            | (go_at_call 23; refine RP.out.mono ?_; rintro e6 w8 ⟨q8, g8, hh, -⟩; obtain ⟨gm, bm, rfl, p8, i8, j8⟩ := hh (by trivial); have QA8 := Lib.hid q8; have P8 := Lib.hid p8; have QB8 := Lib.hid (QB.turned QBJ.out g8 (by simpa using fun e => hab e.symm)); have B8 := Lib.hid (BJ.out.trans (add_below g8 BJ.out.size hga)); have hgmb : gm ≠ gb ∧ bm ≠ gb := (by have := QBJ.out.inside; omega); clear q8 g8 hh p8)
            | (go_at_call 24; refine (RR.out _ QB8.out).mono ?_; rintro e7 w9 ⟨q9, g9, hh, -⟩; obtain ⟨gr, A9, a9, rfl, p9, i9⟩ := hh (by trivial); have QBX := Lib.hid q9; have R9 := Lib.hid p9; have QAX := Lib.hid (Whole.grown (show Whole _ ga _ _ from QA8.out) g9 (by simpa using hab)); have P9 := Lib.hid (P8.out.aside g9 hgmb.1 hgmb.2); have BX := Lib.hid (B8.out.trans (add_below g9 B8.out.size hgb)); clear q9 g9 hh p9))
          clear RP RR QAJ QBJ BJ QA8 QB8 B8 P8 HMG
          have C1 := Lib.hid (fun w2 (hb : Below w9.heap.size w9 w2) => (errQA ga (muR q) w2 (belowQ QAX.out hb)).mono fun e w' ⟨he, hw⟩ => (⟨he, hw ▸ Below.refl _ _⟩ : _ ∧ Below w2.heap.size w2 w'))
          have C2 := Lib.hid (fun w2 (hb : Below w9.heap.size w9 w2) => (leftQ ga (muR q) w2 (belowQ QAX.out hb)).mono fun e w' ⟨he, hw⟩ => (⟨he, hw ▸ Below.refl _ _⟩ : _ ∧ Below w2.heap.size w2 w'))
          have C3 := Lib.hid (fun w2 (hb : Below w9.heap.size w9 w2) => leftQB gb (muR q) w2 (QB.later QBX.out hb))
          have CE := Lib.hid (fun w2 (hb : Below w9.heap.size w9 w2) => (QB.later QBX.out hb).err)
          have C4 := Lib.hid (fun w2 (hb : Below w9.heap.size w9 w2) => same7 G.out HML w2 (P9.out.below hb) (R9.out.below hb))
          have C5 := Lib.hid (fun w2 (hb : Below w9.heap.size w9 w2) => bytes_any G.out hmd.1 hmd.2 HML w2 (P9.out.below hb))
          have C6 := Lib.hid (fun w2 (hb : Below w9.heap.size w9 w2) => bytesR_any G.out hmd.1 hmd.2 HML w2 (R9.out.below hb))
          generalize bytM (muD q) (muL q) = X at C5 C6
          generalize (muR q).2 = E at C1 CE
          generalize (muR q).1.length = N at C2 C3
          refine region_wantU 130 [Is (.pointer (some ⟨ga, 0, none⟩)), Is (.int .i64 E), Is (.pointer (some ⟨gb, 0, none⟩)), Is (.pointer (some ⟨gb, 0, none⟩)), Is (.pointer (some ⟨gb, 2, none⟩)), Is (.int .i64 E), Is (.bool false), Is (.bool false), Is (.pointer (some ⟨ga, 0, none⟩)), Is (.int .i64 (N : Int)), Is (.pointer (some ⟨gb, 0, none⟩)), Is (.int .i64 (N : Int)), Is (.bool false), Is (.bool false), Is (.bool false), Is (.pointer (some ⟨gm, 0, none⟩)), Is (.bool false), Is (.pointer (some ⟨gr, 0, none⟩)), Is (.bool false), Is (.bool false), Is (.bool false), Is (.bool false), Is (.pointer (some ⟨gm, 0, none⟩)), Is (.bool true), Is (.bool true), Is (.pointer (some ⟨gm, 0, none⟩)), Is (.pointer (some ⟨gr, 0, none⟩)), Is (.bool true), Is (.bool false), Is (.bool false), Is (.pointer (some ⟨gm, 0, none⟩)), Is (.string ⟨X.toArray⟩), Is (.pointer (some ⟨gr, 0, none⟩)), Is (.string ⟨X.toArray⟩), Is (.bool false), Is (.bool false), Is (.bool false), Is (.bool false)] (by kernel_rfl) rfl (by kernel_rfl) ?_ ?_
          · exact ⟨keeps_is _, keeps_is _, keeps_is _, keeps_is _, keeps_is _, keeps_is _, keeps_is _, keeps_is _, keeps_is _, keeps_is _, keeps_is _, keeps_is _, keeps_is _, keeps_is _, keeps_is _, keeps_is _, keeps_is _, keeps_is _, keeps_is _, keeps_is _, keeps_is _, keeps_is _, keeps_is _, keeps_is _, keeps_is _, keeps_is _, keeps_is _, keeps_is _, keeps_is _, keeps_is _, keeps_is _, keeps_is _, keeps_is _, keeps_is _, keeps_is _, keeps_is _, keeps_is _, keeps_is _, trivial⟩
          · intro fin hfin
            simp [lexPut, Act.put] at hfin
            refine ⟨⟨?_, ?_, ?_, ?_, ?_, ?_, ?_, ?_, ?_, ?_, ?_, ?_, ?_, ?_, ?_, ?_, ?_, ?_, ?_, ?_, ?_, ?_, ?_, ?_, ?_, ?_, ?_, ?_, ?_, ?_, ?_, ?_, ?_, ?_, ?_, ?_, ?_, ?_, trivial⟩, ?_⟩
            · intro v w2 hb hd
              exact doneU_plain rfl (yields_is (tells_move rfl (by rw [hfin]; rfl)) hb)
            · intro v w2 hb hd
              have h0 : v 0 = _ := hd 0 (by kernel_rfl)
              refine doneU_plain rfl (yields_call (f := 25) rfl (vs := #[.pointer (some ⟨ga, 0, none⟩)]) (by rw [hfin]; simp [Act.eval, h0]) rfl Try.func25 (by kernel_rfl) (by kernel_rfl) ?_)
              exact (C1.out w2 hb).mono fun e w' ⟨he, hb'⟩ => ⟨_, he, hb', rfl⟩
            · intro v w2 hb hd
              exact doneU_plain rfl (yields_is (tells_move rfl (by rw [hfin]; rfl)) hb)
            · intro v w2 hb hd
              have h2 : v 2 = _ := hd 2 (by kernel_rfl)
              refine doneU_plain rfl (yields_run (u := .pointer (some ⟨gb, 0, none⟩)) (w' := w2) ?_ (Below.refl _ _) rfl)
              rw [hfin]
              unfold execOp
              simp [go_sem, Act.eval, h2]
            · intro v w2 hb hd
              have h3 : v 3 = _ := hd 3 (by kernel_rfl)
              refine doneU_plain rfl (yields_run (u := .pointer (some ⟨gb, 2, none⟩)) (w' := w2) ?_ (Below.refl _ _) rfl)
              rw [hfin]
              unfold execOp
              simp [go_sem, Act.eval, h3]
            · intro v w2 hb hd
              have h4 : v 4 = _ := hd 4 (by kernel_rfl)
              have hc : w2.cell? ⟨gb, 2, none⟩ = some (.int .i64 E) := CE.out w2 hb
              refine doneU_plain rfl (yields_run (u := .int .i64 E) (w' := w2) ?_ (Below.refl _ _) rfl)
              rw [hfin]
              unfold execOp
              simp [go_sem, Act.eval, h4, hc]
            · intro v w2 hb hd
              have h1 : v 1 = _ := hd 1 (by kernel_rfl)
              have h5 : v 5 = _ := hd 5 (by kernel_rfl)
              refine doneU_plain rfl (yields_run (u := .bool false) (w' := w2) ?_ (Below.refl _ _) rfl)
              rw [hfin]
              unfold execOp
              simp [go_sem, Act.eval, h1, h5]
            · intro v w2 hb hd
              have h6 : v 6 = _ := hd 6 (by kernel_rfl)
              exact doneU_plain rfl (yields_is (tells_move rfl (by rw [hfin]; exact h6)) hb)
            · intro v w2 hb hd
              exact doneU_want 7 false rfl (hd 7 (by kernel_rfl)) (yields_is (tells_move rfl (by rw [hfin]; rfl)) hb)
            · intro v w2 hb hd
              have h8 : v 8 = _ := hd 8 (by kernel_rfl)
              refine doneU_want 7 false rfl (hd 7 (by kernel_rfl)) (yields_call (f := 26) rfl (vs := #[.pointer (some ⟨ga, 0, none⟩)]) (by rw [hfin]; simp [Act.eval, h8]) rfl Try.func26 (by kernel_rfl) (by kernel_rfl) ?_)
              exact (C2.out w2 hb).mono fun e w' ⟨he, hb'⟩ => ⟨_, he, hb', rfl⟩
            · intro v w2 hb hd
              exact doneU_want 7 false rfl (hd 7 (by kernel_rfl)) (yields_is (tells_move rfl (by rw [hfin]; rfl)) hb)
            · intro v w2 hb hd
              have h10 : v 10 = _ := hd 10 (by kernel_rfl)
              refine doneU_want 7 false rfl (hd 7 (by kernel_rfl)) (yields_call (f := 27) rfl (vs := #[.pointer (some ⟨gb, 0, none⟩)]) (by rw [hfin]; simp [Act.eval, h10]) rfl Try.func27 (by kernel_rfl) (by kernel_rfl) ?_)
              exact (C3.out w2 hb).mono fun e w' ⟨he, hb'⟩ => ⟨_, he, hb', rfl⟩
            · intro v w2 hb hd
              have h9 : v 9 = _ := hd 9 (by kernel_rfl)
              have h11 : v 11 = _ := hd 11 (by kernel_rfl)
              refine doneU_want 7 false rfl (hd 7 (by kernel_rfl)) (yields_run (u := .bool false) (w' := w2) ?_ (Below.refl _ _) rfl)
              rw [hfin]
              unfold execOp
              simp [go_sem, Act.eval, h9, h11]
            · intro v w2 hb hd
              have h7 : v 7 = _ := hd 7 (by kernel_rfl)
              have h12 : v 12 = _ := hd 12 (by kernel_rfl)
              refine doneU_plain rfl (yields_run (u := .bool false) (w' := w2) ?_ (Below.refl _ _) rfl)
              rw [hfin]
              unfold execOp
              simp [go_sem, Act.eval, h7, h12]
            · intro v w2 hb hd
              have h13 : v 13 = _ := hd 13 (by kernel_rfl)
              exact doneU_plain rfl (yields_is (tells_move rfl (by rw [hfin]; exact h13)) hb)
            · intro v w2 hb hd
              exact doneU_want 14 false rfl (hd 14 (by kernel_rfl)) (yields_is (tells_move rfl (by rw [hfin]; rfl)) hb)
            · intro v w2 hb hd
              have h15 : v 15 = _ := hd 15 (by kernel_rfl)
              refine doneU_want 14 false rfl (hd 14 (by kernel_rfl)) (yields_run (u := .bool false) (w' := w2) ?_ (Below.refl _ _) rfl)
              rw [hfin]
              unfold execOp
              simp [go_sem, Act.eval, h15]
            · intro v w2 hb hd
              exact doneU_want 14 false rfl (hd 14 (by kernel_rfl)) (yields_is (tells_move rfl (by rw [hfin]; rfl)) hb)
            · intro v w2 hb hd
              have h17 : v 17 = _ := hd 17 (by kernel_rfl)
              refine doneU_want 14 false rfl (hd 14 (by kernel_rfl)) (yields_run (u := .bool false) (w' := w2) ?_ (Below.refl _ _) rfl)
              rw [hfin]
              unfold execOp
              simp [go_sem, Act.eval, h17]
            · intro v w2 hb hd
              have h16 : v 16 = _ := hd 16 (by kernel_rfl)
              have h18 : v 18 = _ := hd 18 (by kernel_rfl)
              refine doneU_want 14 false rfl (hd 14 (by kernel_rfl)) (yields_run (u := .bool false) (w' := w2) ?_ (Below.refl _ _) rfl)
              rw [hfin]
              unfold execOp
              simp [go_sem, Act.eval, h16, h18]
            · intro v w2 hb hd
              have h14 : v 14 = _ := hd 14 (by kernel_rfl)
              have h19 : v 19 = _ := hd 19 (by kernel_rfl)
              refine doneU_plain rfl (yields_run (u := .bool false) (w' := w2) ?_ (Below.refl _ _) rfl)
              rw [hfin]
              unfold execOp
              simp [go_sem, Act.eval, h14, h19]
            · intro v w2 hb hd
              have h20 : v 20 = _ := hd 20 (by kernel_rfl)
              exact doneU_plain rfl (yields_is (tells_move rfl (by rw [hfin]; exact h20)) hb)
            · intro v w2 hb hd
              exact doneU_want 21 false rfl (hd 21 (by kernel_rfl)) (yields_is (tells_move rfl (by rw [hfin]; rfl)) hb)
            · intro v w2 hb hd
              have h22 : v 22 = _ := hd 22 (by kernel_rfl)
              refine doneU_want 21 false rfl (hd 21 (by kernel_rfl)) (yields_run (u := .bool true) (w' := w2) ?_ (Below.refl _ _) rfl)
              rw [hfin]
              unfold execOp
              simp [go_sem, Act.eval, h22]
            · intro v w2 hb hd
              have h23 : v 23 = _ := hd 23 (by kernel_rfl)
              exact doneU_want 21 false rfl (hd 21 (by kernel_rfl)) (yields_is (tells_move rfl (by rw [hfin]; exact h23)) hb)
            · intro v w2 hb hd
              exact doneU_want 24 true rfl (hd 24 (by kernel_rfl)) (yields_is (tells_move rfl (by rw [hfin]; rfl)) hb)
            · intro v w2 hb hd
              exact doneU_want 24 true rfl (hd 24 (by kernel_rfl)) (yields_is (tells_move rfl (by rw [hfin]; rfl)) hb)
            · intro v w2 hb hd
              have h25 : v 25 = _ := hd 25 (by kernel_rfl)
              have h26 : v 26 = _ := hd 26 (by kernel_rfl)
              refine doneU_want 24 true rfl (hd 24 (by kernel_rfl)) (yields_call (f := 19) rfl (vs := #[.pointer (some ⟨gm, 0, none⟩), .pointer (some ⟨gr, 0, none⟩)]) (by rw [hfin]; simp [Act.eval, h25, h26]) rfl Try.func19 (by kernel_rfl) (by kernel_rfl) ?_)
              exact (C4.out w2 hb).mono fun e w' ⟨he, hb'⟩ => ⟨_, he, hb', rfl⟩
            · intro v w2 hb hd
              have h27 : v 27 = _ := hd 27 (by kernel_rfl)
              refine doneU_want 24 true rfl (hd 24 (by kernel_rfl)) (yields_run (u := .bool false) (w' := w2) ?_ (Below.refl _ _) rfl)
              rw [hfin]
              unfold execOp
              simp [go_sem, Act.eval, h27]
            · intro v w2 hb hd
              have h28 : v 28 = _ := hd 28 (by kernel_rfl)
              exact doneU_want 24 true rfl (hd 24 (by kernel_rfl)) (yields_is (tells_move rfl (by rw [hfin]; exact h28)) hb)
            · intro v w2 hb hd
              exact doneU_want 29 false rfl (hd 29 (by kernel_rfl)) (yields_is (tells_move rfl (by rw [hfin]; rfl)) hb)
            · intro v w2 hb hd
              have h30 : v 30 = _ := hd 30 (by kernel_rfl)
              refine doneU_want 29 false rfl (hd 29 (by kernel_rfl)) (yields_call (f := 20) rfl (vs := #[.pointer (some ⟨gm, 0, none⟩)]) (by rw [hfin]; simp [Act.eval, h30]) rfl Try.func20 (by kernel_rfl) (by kernel_rfl) ?_)
              exact (C5.out w2 hb).mono fun e w' ⟨he, hb'⟩ => ⟨_, he, hb', rfl⟩
            · intro v w2 hb hd
              exact doneU_want 29 false rfl (hd 29 (by kernel_rfl)) (yields_is (tells_move rfl (by rw [hfin]; rfl)) hb)
            · intro v w2 hb hd
              have h32 : v 32 = _ := hd 32 (by kernel_rfl)
              refine doneU_want 29 false rfl (hd 29 (by kernel_rfl)) (yields_call (f := 21) rfl (vs := #[.pointer (some ⟨gr, 0, none⟩)]) (by rw [hfin]; simp [Act.eval, h32]) rfl Try.func21 (by kernel_rfl) (by kernel_rfl) ?_)
              exact (C6.out w2 hb).mono fun e w' ⟨he, hb'⟩ => ⟨_, he, hb', rfl⟩
            · intro v w2 hb hd
              have h31 : v 31 = _ := hd 31 (by kernel_rfl)
              have h33 : v 33 = _ := hd 33 (by kernel_rfl)
              refine doneU_want 29 false rfl (hd 29 (by kernel_rfl)) (yields_run (u := .bool false) (w' := w2) ?_ (Below.refl _ _) rfl)
              rw [hfin]
              unfold execOp
              simp [go_sem, Act.eval, h31, h33]
            · intro v w2 hb hd
              have h29 : v 29 = _ := hd 29 (by kernel_rfl)
              have h34 : v 34 = _ := hd 34 (by kernel_rfl)
              refine doneU_want 24 true rfl (hd 24 (by kernel_rfl)) (yields_run (u := .bool false) (w' := w2) ?_ (Below.refl _ _) rfl)
              rw [hfin]
              unfold execOp
              simp [go_sem, Act.eval, h29, h34]
            · intro v w2 hb hd
              have h24 : v 24 = _ := hd 24 (by kernel_rfl)
              have h35 : v 35 = _ := hd 35 (by kernel_rfl)
              refine doneU_want 21 false rfl (hd 21 (by kernel_rfl)) (yields_run (u := .bool false) (w' := w2) ?_ (Below.refl _ _) rfl)
              rw [hfin]
              unfold execOp
              simp [go_sem, Act.eval, h24, h35]
            · intro v w2 hb hd
              have h21 : v 21 = _ := hd 21 (by kernel_rfl)
              have h36 : v 36 = _ := hd 36 (by kernel_rfl)
              refine doneU_plain rfl (yields_run (u := .bool false) (w' := w2) ?_ (Below.refl _ _) rfl)
              rw [hfin]
              unfold execOp
              simp [go_sem, Act.eval, h21, h36]
            · intro v w2 hb hv
              have h37 : v 37 = _ := hv 37 (by decide)
              rw [hfin]
              clear hfin hv
              rw [h37]
              clear h37
              have QAZ := Lib.hid (belowQ QAX.out hb)
              have QBZ := Lib.hid (QB.later QBX.out hb)
              have BZ := Lib.hid (BX.out.trans (hb.mono BX.out.size))
              clear hb
              go_wp2_with fail
              go_roundw
              case rel => exact ⟨j + 1, muR q, by omega, by go_num, Lib.hid (by have := muR_len q; have := HQL.out; omega), QAZ, QBZ, BZ⟩
              case measure => simp [intOf]; omega
        | false =>
          rw [hmb] at RP RR
          clear HMG
          go_upto_region 20 with (first
            | (go_at_call 23; refine RP.out.mono ?_; rintro e6 w8 ⟨q8, g8, -, hh⟩; obtain rfl := hh (by trivial); have QA8 := Lib.hid q8; have QB8 := Lib.hid (QB.turned QBJ.out g8 (by simpa using fun e => hab e.symm)); have B8 := Lib.hid (BJ.out.trans (add_below g8 BJ.out.size hga)); clear q8 g8 hh)
            | (go_at_call 24; refine (RR.out _ QB8.out).mono ?_; rintro e7 w9 ⟨q9, g9, -, hh⟩; obtain rfl := hh (by trivial); have QBX := Lib.hid q9; have QAX := Lib.hid (Whole.grown (show Whole _ ga _ _ from QA8.out) g9 (by simpa using hab)); have BX := Lib.hid (B8.out.trans (add_below g9 B8.out.size hgb)); clear q9 g9 hh))
          clear RP RR QAJ QBJ BJ QA8 QB8 B8
          have C1 := Lib.hid (fun w2 (hb : Below w9.heap.size w9 w2) => (errQA ga (muR q) w2 (belowQ QAX.out hb)).mono fun e w' ⟨he, hw⟩ => (⟨he, hw ▸ Below.refl _ _⟩ : _ ∧ Below w2.heap.size w2 w'))
          have C2 := Lib.hid (fun w2 (hb : Below w9.heap.size w9 w2) => (leftQ ga (muR q) w2 (belowQ QAX.out hb)).mono fun e w' ⟨he, hw⟩ => (⟨he, hw ▸ Below.refl _ _⟩ : _ ∧ Below w2.heap.size w2 w'))
          have C3 := Lib.hid (fun w2 (hb : Below w9.heap.size w9 w2) => leftQB gb (muR q) w2 (QB.later QBX.out hb))
          have CE := Lib.hid (fun w2 (hb : Below w9.heap.size w9 w2) => (QB.later QBX.out hb).err)
          generalize (muR q).2 = E at C1 CE
          generalize (muR q).1.length = N at C2 C3
          refine region_wantU 130 [Is (.pointer (some ⟨ga, 0, none⟩)), Is (.int .i64 E), Is (.pointer (some ⟨gb, 0, none⟩)), Is (.pointer (some ⟨gb, 0, none⟩)), Is (.pointer (some ⟨gb, 2, none⟩)), Is (.int .i64 E), Is (.bool false), Is (.bool false), Is (.pointer (some ⟨ga, 0, none⟩)), Is (.int .i64 (N : Int)), Is (.pointer (some ⟨gb, 0, none⟩)), Is (.int .i64 (N : Int)), Is (.bool false), Is (.bool false), Is (.bool false), Is (.pointer none), Is (.bool true), Is (.pointer none), Is (.bool true), Is (.bool false), Is (.bool false), Is (.bool false), Is (.pointer none), Is (.bool false), Is (.bool false), Is (undef), Is (undef), Is (undef), Is (undef), Is (undef), Is (undef), Is (undef), Is (undef), Is (undef), Is (undef), Is (undef), Is (.bool false), Is (.bool false)] (by kernel_rfl) rfl (by kernel_rfl) ?_ ?_
          · exact ⟨keeps_is _, keeps_is _, keeps_is _, keeps_is _, keeps_is _, keeps_is _, keeps_is _, keeps_is _, keeps_is _, keeps_is _, keeps_is _, keeps_is _, keeps_is _, keeps_is _, keeps_is _, keeps_is _, keeps_is _, keeps_is _, keeps_is _, keeps_is _, keeps_is _, keeps_is _, keeps_is _, keeps_is _, keeps_is _, keeps_is _, keeps_is _, keeps_is _, keeps_is _, keeps_is _, keeps_is _, keeps_is _, keeps_is _, keeps_is _, keeps_is _, keeps_is _, keeps_is _, keeps_is _, trivial⟩
          · intro fin hfin
            simp [lexPut, Act.put] at hfin
            refine ⟨⟨?_, ?_, ?_, ?_, ?_, ?_, ?_, ?_, ?_, ?_, ?_, ?_, ?_, ?_, ?_, ?_, ?_, ?_, ?_, ?_, ?_, ?_, ?_, ?_, ?_, ?_, ?_, ?_, ?_, ?_, ?_, ?_, ?_, ?_, ?_, ?_, ?_, ?_, trivial⟩, ?_⟩
            · intro v w2 hb hd
              exact doneU_plain rfl (yields_is (tells_move rfl (by rw [hfin]; rfl)) hb)
            · intro v w2 hb hd
              have h0 : v 0 = _ := hd 0 (by kernel_rfl)
              refine doneU_plain rfl (yields_call (f := 25) rfl (vs := #[.pointer (some ⟨ga, 0, none⟩)]) (by rw [hfin]; simp [Act.eval, h0]) rfl Try.func25 (by kernel_rfl) (by kernel_rfl) ?_)
              exact (C1.out w2 hb).mono fun e w' ⟨he, hb'⟩ => ⟨_, he, hb', rfl⟩
            · intro v w2 hb hd
              exact doneU_plain rfl (yields_is (tells_move rfl (by rw [hfin]; rfl)) hb)
            · intro v w2 hb hd
              have h2 : v 2 = _ := hd 2 (by kernel_rfl)
              refine doneU_plain rfl (yields_run (u := .pointer (some ⟨gb, 0, none⟩)) (w' := w2) ?_ (Below.refl _ _) rfl)
              rw [hfin]
              unfold execOp
              simp [go_sem, Act.eval, h2]
            · intro v w2 hb hd
              have h3 : v 3 = _ := hd 3 (by kernel_rfl)
              refine doneU_plain rfl (yields_run (u := .pointer (some ⟨gb, 2, none⟩)) (w' := w2) ?_ (Below.refl _ _) rfl)
              rw [hfin]
              unfold execOp
              simp [go_sem, Act.eval, h3]
            · intro v w2 hb hd
              have h4 : v 4 = _ := hd 4 (by kernel_rfl)
              have hc : w2.cell? ⟨gb, 2, none⟩ = some (.int .i64 E) := CE.out w2 hb
              refine doneU_plain rfl (yields_run (u := .int .i64 E) (w' := w2) ?_ (Below.refl _ _) rfl)
              rw [hfin]
              unfold execOp
              simp [go_sem, Act.eval, h4, hc]
            · intro v w2 hb hd
              have h1 : v 1 = _ := hd 1 (by kernel_rfl)
              have h5 : v 5 = _ := hd 5 (by kernel_rfl)
              refine doneU_plain rfl (yields_run (u := .bool false) (w' := w2) ?_ (Below.refl _ _) rfl)
              rw [hfin]
              unfold execOp
              simp [go_sem, Act.eval, h1, h5]
            · intro v w2 hb hd
              have h6 : v 6 = _ := hd 6 (by kernel_rfl)
              exact doneU_plain rfl (yields_is (tells_move rfl (by rw [hfin]; exact h6)) hb)
            · intro v w2 hb hd
              exact doneU_want 7 false rfl (hd 7 (by kernel_rfl)) (yields_is (tells_move rfl (by rw [hfin]; rfl)) hb)
            · intro v w2 hb hd
              have h8 : v 8 = _ := hd 8 (by kernel_rfl)
              refine doneU_want 7 false rfl (hd 7 (by kernel_rfl)) (yields_call (f := 26) rfl (vs := #[.pointer (some ⟨ga, 0, none⟩)]) (by rw [hfin]; simp [Act.eval, h8]) rfl Try.func26 (by kernel_rfl) (by kernel_rfl) ?_)
              exact (C2.out w2 hb).mono fun e w' ⟨he, hb'⟩ => ⟨_, he, hb', rfl⟩
            · intro v w2 hb hd
              exact doneU_want 7 false rfl (hd 7 (by kernel_rfl)) (yields_is (tells_move rfl (by rw [hfin]; rfl)) hb)
            · intro v w2 hb hd
              have h10 : v 10 = _ := hd 10 (by kernel_rfl)
              refine doneU_want 7 false rfl (hd 7 (by kernel_rfl)) (yields_call (f := 27) rfl (vs := #[.pointer (some ⟨gb, 0, none⟩)]) (by rw [hfin]; simp [Act.eval, h10]) rfl Try.func27 (by kernel_rfl) (by kernel_rfl) ?_)
              exact (C3.out w2 hb).mono fun e w' ⟨he, hb'⟩ => ⟨_, he, hb', rfl⟩
            · intro v w2 hb hd
              have h9 : v 9 = _ := hd 9 (by kernel_rfl)
              have h11 : v 11 = _ := hd 11 (by kernel_rfl)
              refine doneU_want 7 false rfl (hd 7 (by kernel_rfl)) (yields_run (u := .bool false) (w' := w2) ?_ (Below.refl _ _) rfl)
              rw [hfin]
              unfold execOp
              simp [go_sem, Act.eval, h9, h11]
            · intro v w2 hb hd
              have h7 : v 7 = _ := hd 7 (by kernel_rfl)
              have h12 : v 12 = _ := hd 12 (by kernel_rfl)
              refine doneU_plain rfl (yields_run (u := .bool false) (w' := w2) ?_ (Below.refl _ _) rfl)
              rw [hfin]
              unfold execOp
              simp [go_sem, Act.eval, h7, h12]
            · intro v w2 hb hd
              have h13 : v 13 = _ := hd 13 (by kernel_rfl)
              exact doneU_plain rfl (yields_is (tells_move rfl (by rw [hfin]; exact h13)) hb)
            · intro v w2 hb hd
              exact doneU_want 14 false rfl (hd 14 (by kernel_rfl)) (yields_is (tells_move rfl (by rw [hfin]; rfl)) hb)
            · intro v w2 hb hd
              have h15 : v 15 = _ := hd 15 (by kernel_rfl)
              refine doneU_want 14 false rfl (hd 14 (by kernel_rfl)) (yields_run (u := .bool true) (w' := w2) ?_ (Below.refl _ _) rfl)
              rw [hfin]
              unfold execOp
              simp [go_sem, Act.eval, h15]
            · intro v w2 hb hd
              exact doneU_want 14 false rfl (hd 14 (by kernel_rfl)) (yields_is (tells_move rfl (by rw [hfin]; rfl)) hb)
            · intro v w2 hb hd
              have h17 : v 17 = _ := hd 17 (by kernel_rfl)
              refine doneU_want 14 false rfl (hd 14 (by kernel_rfl)) (yields_run (u := .bool true) (w' := w2) ?_ (Below.refl _ _) rfl)
              rw [hfin]
              unfold execOp
              simp [go_sem, Act.eval, h17]
            · intro v w2 hb hd
              have h16 : v 16 = _ := hd 16 (by kernel_rfl)
              have h18 : v 18 = _ := hd 18 (by kernel_rfl)
              refine doneU_want 14 false rfl (hd 14 (by kernel_rfl)) (yields_run (u := .bool false) (w' := w2) ?_ (Below.refl _ _) rfl)
              rw [hfin]
              unfold execOp
              simp [go_sem, Act.eval, h16, h18]
            · intro v w2 hb hd
              have h14 : v 14 = _ := hd 14 (by kernel_rfl)
              have h19 : v 19 = _ := hd 19 (by kernel_rfl)
              refine doneU_plain rfl (yields_run (u := .bool false) (w' := w2) ?_ (Below.refl _ _) rfl)
              rw [hfin]
              unfold execOp
              simp [go_sem, Act.eval, h14, h19]
            · intro v w2 hb hd
              have h20 : v 20 = _ := hd 20 (by kernel_rfl)
              exact doneU_plain rfl (yields_is (tells_move rfl (by rw [hfin]; exact h20)) hb)
            · intro v w2 hb hd
              exact doneU_want 21 false rfl (hd 21 (by kernel_rfl)) (yields_is (tells_move rfl (by rw [hfin]; rfl)) hb)
            · intro v w2 hb hd
              have h22 : v 22 = _ := hd 22 (by kernel_rfl)
              refine doneU_want 21 false rfl (hd 21 (by kernel_rfl)) (yields_run (u := .bool false) (w' := w2) ?_ (Below.refl _ _) rfl)
              rw [hfin]
              unfold execOp
              simp [go_sem, Act.eval, h22]
            · intro v w2 hb hd
              have h23 : v 23 = _ := hd 23 (by kernel_rfl)
              exact doneU_want 21 false rfl (hd 21 (by kernel_rfl)) (yields_is (tells_move rfl (by rw [hfin]; exact h23)) hb)
            · intro v w2 hb hd
              exact doneU_skip 24 true false rfl (hd 24 (by kernel_rfl)) (by decide) rfl
            · intro v w2 hb hd
              exact doneU_skip 24 true false rfl (hd 24 (by kernel_rfl)) (by decide) rfl
            · intro v w2 hb hd
              exact doneU_skip 24 true false rfl (hd 24 (by kernel_rfl)) (by decide) rfl
            · intro v w2 hb hd
              exact doneU_skip 24 true false rfl (hd 24 (by kernel_rfl)) (by decide) rfl
            · intro v w2 hb hd
              exact doneU_skip 24 true false rfl (hd 24 (by kernel_rfl)) (by decide) rfl
            · intro v w2 hb hd
              exact doneU_none 29 false rfl (hd 29 (by kernel_rfl)) rfl
            · intro v w2 hb hd
              exact doneU_none 29 false rfl (hd 29 (by kernel_rfl)) rfl
            · intro v w2 hb hd
              exact doneU_none 29 false rfl (hd 29 (by kernel_rfl)) rfl
            · intro v w2 hb hd
              exact doneU_none 29 false rfl (hd 29 (by kernel_rfl)) rfl
            · intro v w2 hb hd
              exact doneU_none 29 false rfl (hd 29 (by kernel_rfl)) rfl
            · intro v w2 hb hd
              exact doneU_skip 24 true false rfl (hd 24 (by kernel_rfl)) (by decide) rfl
            · intro v w2 hb hd
              have h24 : v 24 = _ := hd 24 (by kernel_rfl)
              have h35 : v 35 = _ := hd 35 (by kernel_rfl)
              refine doneU_want 21 false rfl (hd 21 (by kernel_rfl)) (yields_run (u := .bool false) (w' := w2) ?_ (Below.refl _ _) rfl)
              rw [hfin]
              unfold execOp
              simp [go_sem, Act.eval, h24, h35]
            · intro v w2 hb hd
              have h21 : v 21 = _ := hd 21 (by kernel_rfl)
              have h36 : v 36 = _ := hd 36 (by kernel_rfl)
              refine doneU_plain rfl (yields_run (u := .bool false) (w' := w2) ?_ (Below.refl _ _) rfl)
              rw [hfin]
              unfold execOp
              simp [go_sem, Act.eval, h21, h36]
            · intro v w2 hb hv
              have h37 : v 37 = _ := hv 37 (by decide)
              rw [hfin]
              clear hfin hv
              rw [h37]
              clear h37
              have QAZ := Lib.hid (belowQ QAX.out hb)
              have QBZ := Lib.hid (QB.later QBX.out hb)
              have BZ := Lib.hid (BX.out.trans (hb.mono BX.out.size))
              clear hb
              go_wp2_with fail
              go_roundw
              case rel => exact ⟨j + 1, muR q, by omega, by go_num, Lib.hid (by have := muR_len q; have := HQL.out; omega), QAZ, QBZ, BZ⟩
              case measure => simp [intOf]; omega
      · obtain rfl : j = 2 := by omega
        have BB := BJ.out
        go_wp2_with fail
        go_ret
        exact ⟨rfl, BB⟩
end Go.Proofs.Ytomekndinopoaaa.multi
