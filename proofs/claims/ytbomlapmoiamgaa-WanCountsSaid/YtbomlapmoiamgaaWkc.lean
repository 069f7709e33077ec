/-
  The walk of WanCounts (by mkwkc.py).
-/
import Derived.Test.YtbomlapmoiamgaaWkc0
import Derived.Carry
set_option linter.unusedSimpArgs false
set_option linter.unusedVariables false
namespace Go.Proofs.Ytbomlapmoiamgaa.wan
open Go.ChangeShapes Go.WideShapes Go.ChangeAt Go.RowKit
open Go.Proofs.Ytbomlapmoiamgaa.opened Go.Proofs.Ytbomlapmoiamgaa.block Go.Proofs.Ytbomlapmoiamgaa.words Go.Proofs.Ytbomlapmoiamgaa.region
section
variable {w : World} {gw gm : Nat} {wr w5 w6 : World} {k : Nat} {W V : Wn} {S : List Lt} {a b r : Int} {l : Lt}
theorem Ct.put (h : Ct w gw gm wr k W S a b r) (p : PP w.heap.size w5 gw V) (q : QQ w.heap.size wr w5) (m : Cnt (k + 1) V (l :: S) (a + 1) b r) (hm : ∃ xs c, w5.heap[gm]? = some (.map xs c)) (ht : TurnS w5 w6 (fun j => j = gm)) (ho : OwnS w6 gm (l :: S)) : Ct w gw gm w6 (k + 1) V (l :: S) (a + 1) b r := by
  have := h.b0; have := h.b1; have := h.r0; have := h.r1; have := h.s1; have := h.a0; have := h.a1
  refine ⟨m, by omega, by omega, by omega, by omega, by simp; omega, by omega, by omega, p.maps hm ht, ho, h.low, (h.h.trans q.below).trans (ht.below p.le fun j e => ?_)⟩
  rw [e]
  exact h.low
theorem Ct.call (h : Ct w gw gm wr k W S a b r) (p : PP w.heap.size w6 gw W) (q : QQ w.heap.size wr w6) : Ct w gw gm w6 k W S a b r :=
  ⟨h.m, h.b0, h.b1, h.r0, h.r1, h.s1, h.a0, h.a1, p, h.o.wb q, h.low, h.h.trans q.below⟩
theorem send_in (G : GoodW W) (h : sendE W l = 0) : l.In := by
  unfold sendE at h
  split at h
  · rename_i hl
    obtain ⟨f0, f1, t0, t1, -⟩ := link_of hl
    have := G.n1
    split at h
    · cases h
    · exact ⟨⟨by omega, by omega⟩, ⟨by omega, by omega⟩, by omega⟩
  · cases h
end
section
variable {w : World}
set_option maxRecDepth 100000 in
set_option maxHeartbeats 16000000 in
theorem walkCounts (nn : Int) (A : Option Addr) (c : Nat) (l : List Ox) (hl : l.length ≤ 4611686018427387903) (hL : Actx w A l) :
    Calls Try.prog 4 #[.int .i64 nn, .slice A l.length c] w fun e w' => e = .returned (.bool true) ∧ Below w.heap.size w w' := by
  have HW := Lib.hid (works_any w)
  have hmm := @run_makeMap Try.prog
  obtain ⟨m, h2, h16, hm⟩ := ends_is nn
  have HL := Lib.hid hL
  clear hL
  go_enter Try.func4, Try.ntmps4
  go_upto_region 4 with (go_at_call 24; refine HW.out.mono ?_; rintro e w1 ⟨rfl, b1⟩; have B1 := Lib.hid b1; clear b1)
  rw [hm]
  have hm1 : (m : Int) ≤ 16 := by omega
  have hm2 : (2 : Int) ≤ m := by omega
  generalize wrap64 ((IntKind.u64.wrap nn).tmod 15) = q1
  generalize (IntKind.u64.wrap nn).tmod 15 = q2
  generalize IntKind.u64.wrap nn = q3
  clear hm h2 h16 HW
  have HN := Lib.hid (new_any (w := w1) (m : Int) hm2 hm1)
  go_upto_region 7 with (go_at_call 7; refine HN.out.mono ?_; rintro e w3 ⟨rfl, rfl⟩)
  have P3 : Hid (PP w.heap.size (w1.alloc (.cells (wanC (m : Int) (.slice none 0 0) O0 0) 94)) w1.heap.size ⟨m, [], O0, 0⟩) := Lib.hid ⟨none, 0, Whole.fresh w1 _ _, ownG_nil _ _, B1.out.size⟩
  have Q3 : Hid (Below w.heap.size w (w1.alloc (.cells (wanC (m : Int) (.slice none 0 0) O0 0) 94))) := Lib.hid (then_below B1.out (fresh1 w1 _))
  have M3 := Lib.hid (cnt_new hm2 hm1)
  clear HN hm1 hm2
  generalize w1.alloc (.cells (wanC (m : Int) (.slice none 0 0) O0 0) 94) = w3 at P3 Q3 ⊢
  generalize w1.heap.size = gw at P3 ⊢
  generalize (⟨m, [], O0, 0⟩ : Wn) = W0 at P3 M3
  go_upto_region 8 with fail
  change Code.wp _ _ _ _ (w3.alloc (.map #[] 0))
  have C4 : Hid (Ct w gw w3.heap.size (w3.alloc (.map #[] 0)) 0 W0 [] 0 0 0) := Lib.hid ⟨M3.out, by omega, by omega, by omega, by omega, by simp, by omega, by omega, P3.out.below (fresh1 w3 _), ownS_made w3, Q3.out.size, then_below Q3.out (fresh1 w3 _)⟩
  clear P3 Q3 M3
  generalize w3.alloc (.map #[] 0) = w4 at C4 ⊢
  generalize w3.heap.size = gm at C4 ⊢
  go_upto_block 0 with fail
  go_wp2_with fail
  go_loopw [8, 9, 10, 11] (fun s8 s9 s10 i wr => ∃ (j : Nat) (W : Wn) (S : List Lt) (a b r : Int), j ≤ l.length ∧ j ≤ 200 ∧ i = .int .i64 (j : Int) ∧ s8 = .int .i64 a ∧ s9 = .int .i64 b ∧ s10 = .int .i64 r ∧ Hid (Ct w gw gm wr j W S a b r)) (fun _ _ _ i _ => l.length - (intOf i).toNat)
  case atStart => exact ⟨0, W0, [], 0, 0, 0, Nat.zero_le _, Nat.zero_le _, rfl, rfl, rfl, rfl, C4⟩
  case round => as_aux_lemma =>
    obtain ⟨j, W, S, a, b, r, hjl, hj2, rfl, rfl, rfl, rfl, HC⟩ := hrel
    clear C4
    by_cases h1 : j < l.length
    · by_cases h2 : j < 200
      · have h1i : (j : Int) < (l.length : Int) := by omega
        have h2i : (j : Int) < 200 := by omega
        obtain ⟨o, ho⟩ : ∃ o, l[j]? = some o := ⟨_, List.getElem?_eq_getElem h1⟩
        have HLr := HL.out.below (HC.out.h : Below w.heap.size w wr)
        obtain ⟨b', off, hA, hbi, c0, c1, c2, c3, c4, c5⟩ := HLr.at ho
        subst hA
        clear HLr ho hbi
        go_upto_region 13 with fail
        change Code.wp _ _ _ _ (wr.alloc (.cells #[.int .i64 o.k, .int .i64 o.f, .int .i64 o.t, sV o.s, .int .i64 o.i, .bool o.o] 31))
        have b4 := fresh1 wr (.cells #[.int .i64 o.k, .int .i64 o.f, .int .i64 o.t, sV o.s, .int .i64 o.i, .bool o.o] 31)
        have C4 := Lib.hid (HC.out.more b4)
        have X4 := Lib.hid (Whole.fresh wr 31 #[.int .i64 o.k, .int .i64 o.f, .int .i64 o.t, sV o.s, .int .i64 o.i, .bool o.o])
        clear b4 c0 c1 c2 c3 c4 c5 HC
        generalize wr.alloc (.cells #[.int .i64 o.k, .int .i64 o.f, .int .i64 o.t, sV o.s, .int .i64 o.i, .bool o.o] 31) = w4 at C4 X4 ⊢
        generalize wr.heap.size = go at X4 ⊢
        have x0 : w4.cell? ⟨go, 0, none⟩ = some (.int .i64 o.k) := X4.out.read 0
        have x3 : w4.cell? ⟨go, 3, none⟩ = some (sV o.s) := X4.out.read 3
        by_cases h8 : 10000 < o.s.length
        · have h8i : (10000 : Int) < (o.s.length : Int) := by omega
          go_wp2_with fail
          go_ret
          exact ⟨rfl, C4.out.h⟩
        · have h8i : ¬ (10000 : Int) < (o.s.length : Int) := by omega
          generalize o.k = ok at X4 x0
          go_upto_block 2 with fail
          have hj9 : (j : Int) ≤ 200 := by omega
          have hcb := C4.out.m.c
          have hc1 : W.c < 1000000 := by omega
          have hc2 : W.c + 96 ≤ 1000000 := by omega
          have ha0 := C4.out.a0; have ha1 := C4.out.a1; have hb0 := C4.out.b0; have hb1 := C4.out.b1; have hr0 := C4.out.r0; have hr1 := C4.out.r1
          have ha2 : a ≤ 200 := by omega
          have hb2 : b ≤ 200 := by omega
          have hr2 : r ≤ 200 := by omega
          have HIJ := Lib.hid (show a ≤ j ∧ b ≤ j ∧ r ≤ j from ⟨ha1, hb1, hr1⟩)
          clear hcb ha1 hb1 hr1 h8
          go_cut [8, 9, 10, 13, 14, 15] from 35 to 146 (fun s8 s9 s10 _ _ _ wx => ∃ (W : Wn) (S : List Lt) (a b r : Int), s8 = .int .i64 a ∧ s9 = .int .i64 b ∧ s10 = .int .i64 r ∧ Hid (Ct w gw gm wx (j + 1) W S a b r))
          case first => as_aux_lemma =>
            by_cases q0 : ok = 0
            · subst q0
              have x1 : w4.cell? ⟨go, 1, none⟩ = some (.int .i64 o.f) := X4.out.read 1
              have x2 : w4.cell? ⟨go, 2, none⟩ = some (.int .i64 o.t) := X4.out.read 2
              rcases C4.out.m.send (by omega) ⟨o.f, o.t, o.s⟩ with ⟨e1, m5⟩ | ⟨e1, m5⟩ | ⟨e1, m5⟩
              · have M5 := Lib.hid m5
                clear m5
                have HSd := Lib.hid (fun (w5 : World) (h : PP w.heap.size w5 gw W) => p_send (e := 0) (V := sendV W ⟨o.f, o.t, o.s⟩) h C4.out.m.good hc1 ⟨o.f, o.t, o.s⟩ (by show o.s.length ≤ _; omega) e1 rfl)
                have HIn : Hid (Lt.In ⟨o.f, o.t, o.s⟩) := Lib.hid (send_in C4.out.m.good e1)
                have HSl : Hid (S.length ≤ 200) := Lib.hid (by have := C4.out.s1; omega)
                clear e1
                generalize sendV W ⟨o.f, o.t, o.s⟩ = V at HSd M5
                go_upto_region 21 with (go_at_call 9; (with_reducible refine (HSd.out _ C4.out.p).mono ?_); rintro e w5 ⟨rfl, p5, q5⟩; have P5 := Lib.hid p5; have Q5 := Lib.hid q5; have HS := Lib.hid (C4.out.o.wb q5); have HM := Lib.hid (C4.out.o.wb q5).shape; have X5 := Lib.hid (Whole.wb X4.out q5 (by decide) (by decide)); clear p5 q5 x1 x2 x3)
                clear HSd X4
                refine wp_frame ?_
                intro a9 ha9
                have hN9 : a9.tmps.size = 147 := by rw [ha9]; rfl
                have e7 : a9.eval (.tmp 7) = .map (some gm) := by rw [ha9]; rfl
                have e12 : a9.eval (.tmp 12) = .pointer (some ⟨go, 0, none⟩) := by rw [ha9]; rfl
                have HA9 := Lib.hid ha9
                clear ha9
                refine region_fullZ 147 [(12, 10), (12, 11), (10, 12), (10, 11)] [(12, 8), (12, 10)] [(12, 10), (12, 11)] (fun k => k == 8 || k == 10 || k == 12) (fun w7 => TurnS w5 w7 (fun k => k = gm)) ?hR ?r0 [pdOne 0 (Is (.map (some gm))), pdOne 1 (Is (.pointer (some ⟨go, 1, none⟩))), pdOne 2 (Is (.int .i64 o.f)), pdOne 3 (Is (.pointer (some ⟨go, 2, none⟩))), pdOne 4 (Is (.int .i64 o.t)), pdOne 5 (Is (.pointer (some ⟨go, 3, none⟩))), pdOne 6 (Is (sV o.s)), pdOne 7 (Is (⟨o.f, o.t, o.s⟩ : Lt).val), pdOne 8 (NumK 0 S.length), pdOne 9 (NumK 1 (S.length + 1)), pdOne 10 (TupH gm (⟨o.f, o.t, o.s⟩ : Lt) S), pdOne 11 (StH gm (⟨o.f, o.t, o.s⟩ : Lt) S), pdOne 12 (OwnQ gm ((⟨o.f, o.t, o.s⟩ : Lt) :: S))] (fun k w7 => (k = 8 → LookL w7 gm (⟨o.f, o.t, o.s⟩ : Lt) S.length) ∧ (k = 10 → OwnS w7 gm S)) (by kernel_rfl) hN9 (by kernel_rfl) (by kernel_rfl) (by kernel_rfl) (by kernel_rfl) (by kernel_rfl) ?keep ?hO ?h0 ?tell
                case hR => exact fun w7 w8 hb h1 => h1.later hb
                case r0 => exact TurnS.refl _ _
                case keep => exact ⟨keep_one (keeps_is _), keep_one (keeps_is _), keep_one (keeps_is _), keep_one (keeps_is _), keep_one (keeps_is _), keep_one (keeps_is _), keep_one (keeps_is _), keep_one (keeps_is _), keep_one (keeps_numK _ _), keep_one (keeps_numK _ _), keep_one (keeps_tupH _ _ _), keep_one (keeps_stH _ _ _), keep_one (keeps_ownQ _ _), trivial⟩
                case hO => exact fun k w7 w8 hb ⟨h1, h2⟩ => ⟨fun e => (h1 e).below hb, fun e => (h2 e).below hb⟩
                case h0 => exact fun k _ => ⟨fun _ => lookL_of HS.out _ HIn.out, fun _ => HS.out⟩
                case tell =>
                  intro fin hfin
                  refine ⟨?tells, ?after⟩
                  case' tells => (simp only [TellZ]; refine ⟨?_, ?_, ?_, ?_, ?_, ?_, ?_, ?_, ?_, ?_, ?_, ?_, ?_, trivial⟩)
                  · intro v2 w7 hr hd
                    refine ⟨(fun j b h => nomatch h), ?_⟩
                    refine yields_run (u := .map (some gm)) (w' := w7) ?_ (Below.refl _ _) rfl
                    unfold execOp
                    (try simp only [ev_ne, ev_eq, ev_const, put_size, hN9, ne_eq, Nat.reduceEqDiff, not_false_eq_true, Nat.reduceLT, e7, e12])
                    (try simp [go_sem])
                  · intro v2 w7 hr hd
                    refine ⟨(fun j b h => nomatch h), ?_⟩
                    refine yields_run (u := .pointer (some ⟨go, 1, none⟩)) (w' := w7) ?_ (Below.refl _ _) rfl
                    unfold execOp
                    (try simp only [ev_ne, ev_eq, ev_const, put_size, hN9, ne_eq, Nat.reduceEqDiff, not_false_eq_true, Nat.reduceLT, e7, e12])
                    (try simp [go_sem])
                  · intro v2 w7 hr hd
                    have h1 : v2 1 = .pointer (some ⟨go, 1, none⟩) := hd 1 (by kernel_rfl)
                    have hx : w7.cell? ⟨go, 1, none⟩ = some (.int .i64 o.f) := (Whole.maps X5.out HM.out hr).read 1
                    refine ⟨(fun j b h => nomatch h), ?_⟩
                    refine yields_run (u := .int .i64 o.f) (w' := w7) ?_ (Below.refl _ _) rfl
                    unfold execOp
                    (try simp only [ev_ne, ev_eq, ev_const, put_size, hN9, ne_eq, Nat.reduceEqDiff, not_false_eq_true, Nat.reduceLT, e7, e12, h1])
                    (try simp [go_sem, hx])
                  · intro v2 w7 hr hd
                    refine ⟨(fun j b h => nomatch h), ?_⟩
                    refine yields_run (u := .pointer (some ⟨go, 2, none⟩)) (w' := w7) ?_ (Below.refl _ _) rfl
                    unfold execOp
                    (try simp only [ev_ne, ev_eq, ev_const, put_size, hN9, ne_eq, Nat.reduceEqDiff, not_false_eq_true, Nat.reduceLT, e7, e12])
                    (try simp [go_sem])
                  · intro v2 w7 hr hd
                    have h3 : v2 3 = .pointer (some ⟨go, 2, none⟩) := hd 3 (by kernel_rfl)
                    have hx : w7.cell? ⟨go, 2, none⟩ = some (.int .i64 o.t) := (Whole.maps X5.out HM.out hr).read 2
                    refine ⟨(fun j b h => nomatch h), ?_⟩
                    refine yields_run (u := .int .i64 o.t) (w' := w7) ?_ (Below.refl _ _) rfl
                    unfold execOp
                    (try simp only [ev_ne, ev_eq, ev_const, put_size, hN9, ne_eq, Nat.reduceEqDiff, not_false_eq_true, Nat.reduceLT, e7, e12, h3])
                    (try simp [go_sem, hx])
                  · intro v2 w7 hr hd
                    refine ⟨(fun j b h => nomatch h), ?_⟩
                    refine yields_run (u := .pointer (some ⟨go, 3, none⟩)) (w' := w7) ?_ (Below.refl _ _) rfl
                    unfold execOp
                    (try simp only [ev_ne, ev_eq, ev_const, put_size, hN9, ne_eq, Nat.reduceEqDiff, not_false_eq_true, Nat.reduceLT, e7, e12])
                    (try simp [go_sem])
                  · intro v2 w7 hr hd
                    have h5 : v2 5 = .pointer (some ⟨go, 3, none⟩) := hd 5 (by kernel_rfl)
                    have hx : w7.cell? ⟨go, 3, none⟩ = some (sV o.s) := (Whole.maps X5.out HM.out hr).read 3
                    refine ⟨(fun j b h => nomatch h), ?_⟩
                    refine yields_run (u := sV o.s) (w' := w7) ?_ (Below.refl _ _) rfl
                    unfold execOp
                    (try simp only [ev_ne, ev_eq, ev_const, put_size, hN9, ne_eq, Nat.reduceEqDiff, not_false_eq_true, Nat.reduceLT, e7, e12, h5])
                    (try simp [go_sem, hx])
                  · intro v2 w7 hr hd
                    have h2 : v2 2 = .int .i64 o.f := hd 2 (by kernel_rfl)
                    have h4 : v2 4 = .int .i64 o.t := hd 4 (by kernel_rfl)
                    have h6 : v2 6 = sV o.s := hd 6 (by kernel_rfl)
                    refine ⟨(fun j b h => nomatch h), ?_⟩
                    refine yields_run (u := (⟨o.f, o.t, o.s⟩ : Lt).val) (w' := w7) ?_ (Below.refl _ _) rfl
                    unfold execOp
                    have hb : Try.prog.built 36 [(0, .int .i64 o.f), (1, .int .i64 o.t), (2, sV o.s)] = some #[.int .i64 o.f, .int .i64 o.t, sV o.s] := by kernel_rfl
                    (try simp only [List.map_toArray, List.map_cons, List.map_nil, ev_ne, ev_eq, ev_const, put_size, hN9, ne_eq, Nat.reduceEqDiff, not_false_eq_true, Nat.reduceLT, e7, e12, h2, h4, h6, hb])
                    (try simp [go_sem, h2, h4, h6, hb])
                  · intro v2 w7 hr ho hd
                    have h0 : v2 0 = .map (some gm) := hd 0 (by kernel_rfl)
                    have h7 : v2 7 = (⟨o.f, o.t, o.s⟩ : Lt).val := hd 7 (by kernel_rfl)
                    refine ⟨(fun j b h => nomatch h), ?_⟩
                    obtain ⟨ob, hob, k, hk, hrun⟩ := ho.1 trivial
                    have hrun := hrun w7 hob
                    refine .inl (.inl ⟨.int .i64 (k : Int), w7, ?_, hr, fun _ _ _ _ hu => hu, fun _ _ _ _ hu => hu, k, rfl, Nat.zero_le _, hk⟩)
                    unfold execOp
                    (try simp only [ev_ne, ev_eq, ev_const, put_size, hN9, ne_eq, Nat.reduceEqDiff, not_false_eq_true, Nat.reduceLT, e7, e12, h0, h7, hrun])
                    (try simp [go_sem, h0, h7, hrun])
                  · intro v2 w7 hr hd
                    obtain ⟨k, h8, -, hk⟩ : NumK 0 S.length (v2 8) w7 := hd 8 (by kernel_rfl)
                    have hw : IntKind.i64.wrap ((k : Int) + 1) = (k : Int) + 1 := by have := HSl.out; rw [IntKind.wrap_i64]; omega
                    refine ⟨(fun j b h => nomatch h), ?_⟩
                    refine yields_run (u := .int .i64 ((k + 1 : Nat) : Int)) (w' := w7) ?_ (Below.refl _ _) ⟨k + 1, rfl, by omega, by omega⟩
                    unfold execOp
                    (try simp only [ev_ne, ev_eq, ev_const, put_size, hN9, ne_eq, Nat.reduceEqDiff, not_false_eq_true, Nat.reduceLT, e7, e12, h8, hw])
                    (try simp [go_sem, h8, hw])
                  · intro v2 w7 hr ho hd
                    have h0 : v2 0 = .map (some gm) := hd 0 (by kernel_rfl)
                    have h7 : v2 7 = (⟨o.f, o.t, o.s⟩ : Lt).val := hd 7 (by kernel_rfl)
                    refine ⟨(fun j b h => nomatch h), ?_⟩
                    obtain ⟨v0, st, ob, hrun, hhalf, hlook⟩ := entryS_run (ho.2 trivial) (⟨o.f, o.t, o.s⟩ : Lt) HIn.out (by have := HSl.out; omega)
                    have hg := setB_grown w7 gm ob
                    refine .inl (.inl ⟨.tuple #[v0, goInt st], ChangeMaps.setBlock w7 gm ob, ?_, hr.grown hg (fun j e => .inl (Option.some.inj e).symm), ?_, ?_, v0, st, rfl, hhalf⟩)
                    · unfold execOp
                      (try simp only [ev_ne, ev_eq, ev_const, put_size, hN9, ne_eq, Nat.reduceEqDiff, not_false_eq_true, Nat.reduceLT, e7, e12, h0, h7, hrun])
                      (try simp [go_sem, h0, h7, hrun])
                    · intro k2 v' hk2 hc hu
                      exact match k2, hk2, hc, hu with
                        | 0, _, _, hu => hu
                        | 1, _, _, hu => hu
                        | 2, _, _, hu => hu
                        | 3, _, _, hu => hu
                        | 4, _, _, hu => hu
                        | 5, _, _, hu => hu
                        | 6, _, _, hu => hu
                        | 7, _, _, hu => hu
                        | 8, _, _, hu => hu
                        | 9, _, _, hu => hu
                        | 10, hk2, _, _ => absurd rfl hk2
                        | 11, _, hc, _ => absurd hc (by decide)
                        | 12, _, hc, _ => absurd hc (by decide)
                        | _ + 13, _, _, _ => trivial
                    · intro k2 hk2 hn hc2 ⟨h1, h2⟩
                      exact ⟨fun _ => hlook, fun e => absurd e hk2⟩
                  · intro v2 w7 hr hd
                    obtain ⟨v0, st, h10, hh⟩ : TupH gm (⟨o.f, o.t, o.s⟩ : Lt) S (v2 10) w7 := hd 10 (by kernel_rfl)
                    refine ⟨(fun j b h => nomatch h), ?_⟩
                    refine yields_run (u := goInt st) (w' := w7) ?_ (Below.refl _ _) ⟨st, rfl, hh⟩
                    unfold execOp
                    (try simp only [ev_ne, ev_eq, ev_const, put_size, hN9, ne_eq, Nat.reduceEqDiff, not_false_eq_true, Nat.reduceLT, e7, e12, h10])
                    (try simp [go_sem, h10])
                  · intro v2 w7 hr ho hd
                    have h0 : v2 0 = .map (some gm) := hd 0 (by kernel_rfl)
                    obtain ⟨k, h9, hk1, hk2⟩ : NumK 1 (S.length + 1) (v2 9) w7 := hd 9 (by kernel_rfl)
                    obtain ⟨st, h11, es1, c1, hb1, hst⟩ : StH gm (⟨o.f, o.t, o.s⟩ : Lt) S (v2 11) w7 := hd 11 (by kernel_rfl)
                    refine ⟨(fun j b h => nomatch h), ?_⟩
                    obtain ⟨es2, c2, hrun, hown⟩ := hst w7 k hb1 hk1 hk2
                    have hrun2 := hrun
                    simp only [goInt] at hrun2
                    have hg := setB_grown w7 gm (.map es2 c2)
                    refine .inr ⟨ChangeMaps.setBlock w7 gm (.map es2 c2), ?_, hr.grown hg (fun j e => .inl (Option.some.inj e).symm), ?_, ?_, hown⟩
                    · unfold execOp
                      (try simp only [ev_ne, ev_eq, ev_const, put_size, hN9, ne_eq, Nat.reduceEqDiff, not_false_eq_true, Nat.reduceLT, e7, e12, h0, h9, h11, goInt, hrun2])
                      (try simp [go_sem, h0, h9, h11, goInt, hrun2])
                    · intro k2 v' hk2 hc hu
                      exact match k2, hk2, hc, hu with
                        | 0, _, _, hu => hu
                        | 1, _, _, hu => hu
                        | 2, _, _, hu => hu
                        | 3, _, _, hu => hu
                        | 4, _, _, hu => hu
                        | 5, _, _, hu => hu
                        | 6, _, _, hu => hu
                        | 7, _, _, hu => hu
                        | 8, _, _, hu => hu
                        | 9, _, _, hu => hu
                        | 10, _, hc, _ => absurd hc (by decide)
                        | 11, _, hc, _ => absurd hc (by decide)
                        | 12, hk2, _, _ => absurd rfl hk2
                        | _ + 13, _, _, _ => trivial
                    · intro k2 hk2 hn hc2 ⟨h1, h2⟩
                      exact ⟨fun e => by subst e; exact absurd hc2 (by decide), fun e => by subst e; exact absurd hc2 (by decide)⟩
                  · intro v2 w6 hr hv
                    have h12 : OwnS w6 gm ((⟨o.f, o.t, o.s⟩ : Lt) :: S) := hv 12 (by decide) (by decide)
                    have hf := hfin v2
                    rw [HA9.out] at hf
                    simp [lexPut, Act.put] at hf
                    rw [hf]
                    have C6 := Lib.hid (C4.out.put P5.out Q5.out M5.out HM.out hr h12)
                    clear hf HA9 hN9 e7 e12 hv hfin hr h12 HS X5 HM P5 Q5 C4 M5
                    go_wp2_with fail
                    go_meet
                    case rel => exact ⟨V, _ :: S, a + 1, b, r, by go_num, rfl, rfl, C6⟩
              · have M5 := Lib.hid m5
                clear m5
                rcases e1 with e1 | e1
                · have HSd := Lib.hid (fun (w5 : World) (h : PP w.heap.size w5 gw W) => p_send (e := 14) (V := sendV W ⟨o.f, o.t, o.s⟩) h C4.out.m.good hc1 ⟨o.f, o.t, o.s⟩ (by show o.s.length ≤ _; omega) e1 rfl)
                  clear e1
                  generalize sendV W ⟨o.f, o.t, o.s⟩ = V at HSd M5
                  go_wp2_with (go_at_call 9; (with_reducible refine (HSd.out _ C4.out.p).mono ?_); rintro e w5 ⟨rfl, p5, q5⟩; have C5 := Lib.hid (C4.out.sub p5 q5 M5.out (by omega) (by omega) (by omega)); clear p5 q5 x1 x2 x3)
                  go_meet
                  case rel => exact ⟨V, S, a, b, r + 1, rfl, rfl, by go_num, C5⟩
                · have HSd := Lib.hid (fun (w5 : World) (h : PP w.heap.size w5 gw W) => p_send (e := 2) (V := sendV W ⟨o.f, o.t, o.s⟩) h C4.out.m.good hc1 ⟨o.f, o.t, o.s⟩ (by show o.s.length ≤ _; omega) e1 rfl)
                  clear e1
                  generalize sendV W ⟨o.f, o.t, o.s⟩ = V at HSd M5
                  go_wp2_with (go_at_call 9; (with_reducible refine (HSd.out _ C4.out.p).mono ?_); rintro e w5 ⟨rfl, p5, q5⟩; have C5 := Lib.hid (C4.out.sub p5 q5 M5.out (by omega) (by omega) (by omega)); clear p5 q5 x1 x2 x3)
                  go_meet
                  case rel => exact ⟨V, S, a, b, r + 1, rfl, rfl, by go_num, C5⟩
              · have M5 := Lib.hid m5
                clear m5
                rcases e1 with e1 | e1
                · have HSd := Lib.hid (fun (w5 : World) (h : PP w.heap.size w5 gw W) => p_send (e := 1) (V := sendV W ⟨o.f, o.t, o.s⟩) h C4.out.m.good hc1 ⟨o.f, o.t, o.s⟩ (by show o.s.length ≤ _; omega) e1 rfl)
                  clear e1
                  generalize sendV W ⟨o.f, o.t, o.s⟩ = V at HSd M5
                  go_wp2_with (go_at_call 9; (with_reducible refine (HSd.out _ C4.out.p).mono ?_); rintro e w5 ⟨rfl, p5, q5⟩; have C5 := Lib.hid (C4.out.sub p5 q5 M5.out (by omega) (by omega) (by omega)); clear p5 q5 x1 x2 x3)
                  go_meet
                  case rel => exact ⟨V, S, a, b, r, rfl, rfl, rfl, C5⟩
                · have HSd := Lib.hid (fun (w5 : World) (h : PP w.heap.size w5 gw W) => p_send (e := 7) (V := sendV W ⟨o.f, o.t, o.s⟩) h C4.out.m.good hc1 ⟨o.f, o.t, o.s⟩ (by show o.s.length ≤ _; omega) e1 rfl)
                  clear e1
                  generalize sendV W ⟨o.f, o.t, o.s⟩ = V at HSd M5
                  go_wp2_with (go_at_call 9; (with_reducible refine (HSd.out _ C4.out.p).mono ?_); rintro e w5 ⟨rfl, p5, q5⟩; have C5 := Lib.hid (C4.out.sub p5 q5 M5.out (by omega) (by omega) (by omega)); clear p5 q5 x1 x2 x3)
                  go_meet
                  case rel => exact ⟨V, S, a, b, r, rfl, rfl, rfl, C5⟩
            · have n0 : (ok == 0) = false := by simpa using q0
              by_cases q1 : ok = 1
              · subst q1
                have x4 : w4.cell? ⟨go, 4, none⟩ = some (.int .i64 o.i) := X4.out.read 4
                rcases C4.out.m.take o.i with ⟨e1, hin, hout, m5⟩ | ⟨e1, m5⟩
                · have M5 := Lib.hid m5
                  obtain ⟨x, hx⟩ : ∃ x, x = atV W o.i := ⟨_, rfl⟩
                  rw [← hx] at hin hout
                  have HTk := Lib.hid (fun (w5 : World) (h : PP w.heap.size w5 gw W) => p_take (l := x) (e := 0) (V := takeV W o.i) h C4.out.m.good o.i hx.symm e1 rfl)
                  have HO9 : Hid (outB (takeV W o.i) x.f x.t = false) := Lib.hid hout
                  have HIN := Lib.hid hin
                  clear m5 e1 hin hout hx
                  generalize takeV W o.i = V at HTk M5 HO9
                  go_upto_region 28 with (go_at_call 11; (with_reducible refine (HTk.out _ C4.out.p).mono ?_); rintro e w5 ⟨rfl, p5, q5⟩; have C5 := Lib.hid (C4.out.sub p5 q5 M5.out (by omega) (by omega) (by omega)); clear p5 q5 x4)
                  change Code.wp _ _ _ _ (w5.alloc (.cells (cL x).toArray 34))
                  have b6 := fresh1 w5 (.cells (cL x).toArray 34)
                  have C6 := Lib.hid (C5.out.more b6)
                  have X6 := Lib.hid (Whole.fresh w5 34 (cL x).toArray)
                  clear b6 C5 HTk X4 C4
                  generalize w5.alloc (.cells (cL x).toArray 34) = w6 at C6 X6 ⊢
                  generalize w5.heap.size = gx at X6 ⊢
                  have k0 : w6.cell? ⟨gx, 0, none⟩ = some (.int .i64 x.f) := X6.out.read 0
                  have k1 : w6.cell? ⟨gx, 1, none⟩ = some (.int .i64 x.t) := X6.out.read 1
                  have k2 : w6.cell? ⟨gx, 2, none⟩ = some (sV x.s) := X6.out.read 2
                  have HFr := Lib.hid (fun (w7 : World) => from_any x w7)
                  have HOu := Lib.hid (fun (w7 : World) (h : PP w.heap.size w7 gw V) => p_out h M5.out.good x.f x.t HO9.out)
                  have HK : Hid (∀ w7, Below w6.heap.size w6 w7 → ∃ k : Nat, (Instr.lookup 54 (.map (some gm)) x.val false).run Try.prog w7 = .ok (.int .i64 (k : Int)) w7 ∧ ((k : Int) == 0) = false) := Lib.hid fun w7 hb => by
                    have C7 := C6.out.more hb
                    obtain ⟨k, h1, h2, -⟩ := lookS_run C7.o x (C7.o.inn x HIN.out)
                    exact ⟨k, h1, beq_eq_false_iff_ne.2 fun e => (h2.1 (by omega)) HIN.out⟩
                  go_wp2_with (first
                    | (go_at_call 20; (with_reducible refine (HOu.out _ C7.out.p).mono ?_); rintro e w8 ⟨rfl, p8, q8⟩; have C8 := Lib.hid (C7.out.call p8 q8); clear p8 q8)
                    | (go_at_call 13; (with_reducible refine (HFr.out w6).mono ?_); rintro e w7 ⟨rfl, b7⟩; have C7 := Lib.hid (C6.out.more b7); obtain ⟨kk, hkrun, hkne⟩ := HK.out w7 b7; have X7 := X6.out.below b7 X6.out.inside; clear k0 k1 k2; have k0 : w7.cell? ⟨gx, 0, none⟩ = some (.int .i64 x.f) := X7.read 0; have k1 : w7.cell? ⟨gx, 1, none⟩ = some (.int .i64 x.t) := X7.read 1; clear b7 X7))
                  go_meet
                  case rel => exact ⟨V, S, a, b + 1, r, rfl, by go_num, rfl, C8⟩
                · have M5 := Lib.hid m5
                  have HTk := Lib.hid (fun (w5 : World) (h : PP w.heap.size w5 gw W) => p_take (l := atV W o.i) (e := 1) (V := takeV W o.i) h C4.out.m.good o.i rfl e1 rfl)
                  clear m5 e1
                  generalize takeV W o.i = V at HTk M5
                  generalize atV W o.i = x at HTk
                  go_upto_region 28 with (go_at_call 11; (with_reducible refine (HTk.out _ C4.out.p).mono ?_); rintro e w5 ⟨rfl, p5, q5⟩; have C5 := Lib.hid (C4.out.sub p5 q5 M5.out (by omega) (by omega) (by omega)); clear p5 q5 x4)
                  change Code.wp _ _ _ _ (w5.alloc (.cells (cL x).toArray 34))
                  have C6 := Lib.hid (C5.out.more (fresh1 w5 (.cells (cL x).toArray 34)))
                  clear C5 HTk X4 C4
                  generalize w5.alloc (.cells (cL x).toArray 34) = w6 at C6 ⊢
                  go_wp2_with fail
                  go_meet
                  case rel => exact ⟨V, S, a, b, r, rfl, rfl, rfl, C6⟩
              · have n1 : (ok == 1) = false := by simpa using q1
                by_cases q2 : ok = 2
                · subst q2
                  have x4 : w4.cell? ⟨go, 4, none⟩ = some (.int .i64 o.i) := X4.out.read 4
                  rcases C4.out.m.double o.i with ⟨e1, m5⟩ | ⟨e1, m5⟩
                  · have M5 := Lib.hid m5
                    clear m5
                    have HDb := Lib.hid (fun (w5 : World) (h : PP w.heap.size w5 gw W) => p_double (e := 0) (V := dblV W o.i) h C4.out.m.good o.i e1 rfl)
                    clear e1
                    generalize dblV W o.i = V at HDb M5
                    go_wp2_with (go_at_call 14; (with_reducible refine (HDb.out _ C4.out.p).mono ?_); rintro e w5 ⟨rfl, p5, q5⟩; have C5 := Lib.hid (C4.out.sub p5 q5 M5.out (by omega) (by omega) (by omega)); clear p5 q5 x4)
                    go_meet
                    case rel => exact ⟨V, S, a + 1, b, r, by go_num, rfl, rfl, C5⟩
                  · have M5 := Lib.hid m5
                    clear m5
                    rcases e1 with e1 | e1
                    · have HDb := Lib.hid (fun (w5 : World) (h : PP w.heap.size w5 gw W) => p_double (e := 1) (V := dblV W o.i) h C4.out.m.good o.i e1 rfl)
                      clear e1
                      generalize dblV W o.i = V at HDb M5
                      go_wp2_with (go_at_call 14; (with_reducible refine (HDb.out _ C4.out.p).mono ?_); rintro e w5 ⟨rfl, p5, q5⟩; have C5 := Lib.hid (C4.out.sub p5 q5 M5.out (by omega) (by omega) (by omega)); clear p5 q5 x4)
                      go_meet
                      case rel => exact ⟨V, S, a, b, r, rfl, rfl, rfl, C5⟩
                    · have HDb := Lib.hid (fun (w5 : World) (h : PP w.heap.size w5 gw W) => p_double (e := 2) (V := dblV W o.i) h C4.out.m.good o.i e1 rfl)
                      clear e1
                      generalize dblV W o.i = V at HDb M5
                      go_wp2_with (go_at_call 14; (with_reducible refine (HDb.out _ C4.out.p).mono ?_); rintro e w5 ⟨rfl, p5, q5⟩; have C5 := Lib.hid (C4.out.sub p5 q5 M5.out (by omega) (by omega) (by omega)); clear p5 q5 x4)
                      go_meet
                      case rel => exact ⟨V, S, a, b, r, rfl, rfl, rfl, C5⟩
                · have n2 : (ok == 2) = false := by simpa using q2
                  have x1 : w4.cell? ⟨go, 1, none⟩ = some (.int .i64 o.f) := X4.out.read 1
                  have x2 : w4.cell? ⟨go, 2, none⟩ = some (.int .i64 o.t) := X4.out.read 2
                  have x5 : w4.cell? ⟨go, 5, none⟩ = some (.bool o.o) := X4.out.read 5
                  have M5 := Lib.hid (C4.out.m.cut (by omega) o.f o.t o.o)
                  have HCu := Lib.hid (fun (w5 : World) (h : PP w.heap.size w5 gw W) => p_cut (e := cutE W o.f o.t) (V := cutV W o.f o.t o.o) h C4.out.m.good hc2 o.f o.t o.o rfl rfl)
                  generalize cutV W o.f o.t o.o = V at HCu M5
                  generalize cutE W o.f o.t = ce at HCu
                  go_wp2_with (go_at_call 16; (with_reducible refine (HCu.out _ C4.out.p).mono ?_); rintro e w5 ⟨rfl, p5, q5⟩; have C5 := Lib.hid (C4.out.sub p5 q5 M5.out (by omega) (by omega) (by omega)); clear p5 q5 x1 x2 x5)
                  go_meet
                  case rel => exact ⟨V, S, a, b, r, rfl, rfl, rfl, C5⟩
          case rest => as_aux_lemma =>
            obtain ⟨W9, S9, a9, b9, r9, rfl, rfl, rfl, HC9⟩ := hcut
            clear C4 X4 x0 x3 hc1 hc2 ha0 ha2 hb0 hb2 hr0 hr2 HIJ
            have hs := HC9.out.m.sum
            have z0 := HC9.out.m.good.l
            have z1 := HC9.out.m.good.c0
            have z2 : W9.c ≤ 19296 := by have := HC9.out.m.c; omega
            have z3 := HC9.out.b0
            have z4 : b9 ≤ 201 := by have := HC9.out.b1; omega
            have z5 := HC9.out.r0
            have z6 : r9 ≤ 201 := by have := HC9.out.r1; omega
            have HWt := Lib.hid (fun (w5 : World) (h : PP w.heap.size w5 gw W9) => p_waits h rfl)
            have HLo := Lib.hid (fun (w5 : World) (h : PP w.heap.size w5 gw W9) => p_lost h HC9.out.m.good)
            obtain ⟨n, hn⟩ : ∃ n, n = W9.L.length := ⟨_, rfl⟩
            obtain ⟨x, hx⟩ : ∃ x, x = W9.c := ⟨_, rfl⟩
            rw [← hn] at hs z0 HWt
            rw [← hx] at hs z1 z2 HLo
            subst hs
            have z7 : (n : Int) ≤ 96 := by omega
            clear hn hx
            go_wp2_with (first
              | (go_at_call 19; (with_reducible refine (HLo.out _ C6.out.p).mono ?_); rintro e w7 ⟨rfl, p7, q7⟩; have C7 := Lib.hid (C6.out.call p7 q7); clear p7 q7)
              | (go_at_call 18; (with_reducible refine (HWt.out _ C5.out.p).mono ?_); rintro e w6 ⟨rfl, p6, q6⟩; have C6 := Lib.hid (C5.out.call p6 q6); clear p6 q6)
              | (go_at_call 18; (with_reducible refine (HWt.out _ HC9.out.p).mono ?_); rintro e w5 ⟨rfl, p5, q5⟩; have C5 := Lib.hid (HC9.out.call p5 q5); clear p5 q5))
            go_roundw
            case rel => exact ⟨j + 1, W9, S9, _, b9, r9, by omega, by omega, by go_num, rfl, rfl, rfl, C7⟩
            case measure => simp [intOf]; omega
      · have hj : j = 200 := by omega
        subst hj
        have h1i : (200 : Int) < (l.length : Int) := by omega
        go_wp2_with fail
        go_ret
        exact ⟨rfl, HC.out.h⟩
    · have h1i : ¬ (j : Int) < (l.length : Int) := by omega
      go_wp2_with fail
      go_ret
      exact ⟨rfl, HC.out.h⟩
end
end Go.Proofs.Ytbomlapmoiamgaa.wan
