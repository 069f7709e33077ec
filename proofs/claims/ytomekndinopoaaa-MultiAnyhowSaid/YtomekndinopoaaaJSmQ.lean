/-
  watershedref07.Same.
  same: the program's Multi and the document's, of the same numbers, tell the same.
-/
import Derived.Test.YtomekndinopoaaaJFm
namespace Go.Proofs.Ytomekndinopoaaa.multi
open Go.ChangeShapes Go.WideShapes Go.ChangeAt Go.RowKit
open Go.Proofs.Ytomekndinopoaaa.tm Go.Proofs.Ytomekndinopoaaa.opened Go.Proofs.Ytomekndinopoaaa.block Go.Proofs.Ytomekndinopoaaa.stamp Go.Proofs.Ytomekndinopoaaa.chain

theorem takeQ {L M : List TN} {k : Nat} {x y : TN} (hx : L[k]? = some x) (hy : M[k]? = some y) (h : L.take k = M.take k) (e : x = y) : L.take (k + 1) = M.take (k + 1) := by
  rw [List.take_add_one, List.take_add_one, hx, hy, h, e]
set_option maxRecDepth 100000 in
set_option maxHeartbeats 1000000 in
theorem sameQ_any (A B : Option Addr) (c d : Nat) (L M : List TN) (mL : L.length ≤ 4611686018427387903) (_mM : M.length ≤ 4611686018427387903) (w : World) (hL : Lp w A L) (hM : Lp w B M) :
    Calls Try.prog 30 #[.slice A L.length c, .slice B M.length d] w fun e w' => e = .returned (.bool (decide (L = M))) ∧ Below w.heap.size w w' := by
  by_cases hl : L.length = M.length
  · have HL := Lib.hid hL
    have HM := Lib.hid hM
    have e1 : ((L.length : Int) != (M.length : Int)) = false := by simp [hl]
    go_enter Try.func30, Try.ntmps30
    go_wp2_with fail
    go_loopw [5] (fun s wr => ∃ k : Nat, k ≤ L.length ∧ s = .int .i64 k ∧ L.take k = M.take k ∧ Below w.heap.size w wr) (fun s _ => L.length - (intOf s).toNat)
    case atStart => exact ⟨0, Nat.zero_le _, rfl, rfl, Below.refl _ _⟩
    case round =>
      obtain ⟨k, hk, rfl, hn, hb⟩ := hrel
      by_cases hlt : k < L.length
      · have hlt2 : k < M.length := by omega
        obtain ⟨x, hx⟩ : ∃ x, L[k]? = some x := ⟨L[k], List.getElem?_eq_getElem hlt⟩
        obtain ⟨y, hy⟩ : ∃ y, M[k]? = some y := ⟨M[k], List.getElem?_eq_getElem hlt2⟩
        obtain ⟨b1, o1, hA, hb1, c0, c1, c2, c3, c4, c5⟩ := (HL.out.below hb).at hx
        obtain ⟨b2, o2, hB, hb2, d0, d1, d2, d3, d4, d5⟩ := (HM.out.below hb).at hy
        subst hA hB
        have HX := Lib.hid hx
        have HY := Lib.hid hy
        have HN := Lib.hid hn
        clear hx hy hn
        have ne := run_neQ x y
        obtain ⟨v, hv⟩ : ∃ v, eqQ x y = v := ⟨_, rfl⟩
        rw [hv] at ne
        have HV := Lib.hid hv
        clear hv
        go_wp2_with fail
        have s0 : ∀ y : Since wr, y.1.cell? ⟨b1, o1 + k * 6, none⟩ = some (.int .u32 x.1.e) := fun y => (y.2.cell hb1).trans c0
        have s1 : ∀ y : Since wr, y.1.cell? ⟨b1, o1 + k * 6 + 1, none⟩ = some (.int .i64 x.1.d) := fun y => (y.2.cell hb1).trans c1
        have s2 : ∀ y : Since wr, y.1.cell? ⟨b1, o1 + k * 6 + 2, none⟩ = some (.int .u32 x.1.a) := fun y => (y.2.cell hb1).trans c2
        have s3 : ∀ y : Since wr, y.1.cell? ⟨b1, o1 + k * 6 + 3, none⟩ = some (.int .u32 x.1.b) := fun y => (y.2.cell hb1).trans c3
        have s4 : ∀ y : Since wr, y.1.cell? ⟨b1, o1 + k * 6 + 4, none⟩ = some (.int .u32 x.1.c) := fun y => (y.2.cell hb1).trans c4
        have t0 : ∀ z : Since wr, z.1.cell? ⟨b2, o2 + k * 6, none⟩ = some (.int .u32 y.1.e) := fun z => (z.2.cell hb2).trans d0
        have t1 : ∀ z : Since wr, z.1.cell? ⟨b2, o2 + k * 6 + 1, none⟩ = some (.int .i64 y.1.d) := fun z => (z.2.cell hb2).trans d1
        have t2 : ∀ z : Since wr, z.1.cell? ⟨b2, o2 + k * 6 + 2, none⟩ = some (.int .u32 y.1.a) := fun z => (z.2.cell hb2).trans d2
        have t3 : ∀ z : Since wr, z.1.cell? ⟨b2, o2 + k * 6 + 3, none⟩ = some (.int .u32 y.1.b) := fun z => (z.2.cell hb2).trans d3
        have t4 : ∀ z : Since wr, z.1.cell? ⟨b2, o2 + k * 6 + 4, none⟩ = some (.int .u32 y.1.c) := fun z => (z.2.cell hb2).trans d4
        have s5 : ∀ y : Since wr, y.1.cell? ⟨b1, o1 + k * 6 + 5, none⟩ = some (.int .i64 x.2) := fun y => (y.2.cell hb1).trans c5
        have t5 : ∀ z : Since wr, z.1.cell? ⟨b2, o2 + k * 6 + 5, none⟩ = some (.int .i64 y.2) := fun z => (z.2.cell hb2).trans d5
        clear c0 c1 c2 c3 c4 c5 d0 d1 d2 d3 d4 d5
        refine region_since wr (by kernel_rfl) (by kernel_rfl) (Below.refl _ _) ?_
        repeat (go_big_quiet_step (fail))
        refine wpQuiet_nil ?_
        rintro w4 ⟨z, hw⟩
        have B4 := hb.trans ((hw ▸ z.2 : Below wr.heap.size wr w4).mono hb.size)
        clear hw z s0 s1 s2 s3 s4 s5 t0 t1 t2 t3 t4 t5 hb ne
        cases v
        · go_wp2_with fail
          go_ret
          refine ⟨?_, B4⟩
          rw [decide_eq_false (p := L = M) (fun e => by
            have hx := HX.out
            rw [e, HY.out] at hx
            have := HV.out
            rw [Option.some.inj hx, show eqQ x x = true from by simp [eqQ]] at this
            cases this)]
          rfl
        · go_wp2_with fail
          go_roundw
          case rel => exact ⟨k + 1, by omega, by go_num, takeQ HX.out HY.out HN.out (by simpa [eqQ] using HV.out), B4⟩
          case measure => simp [intOf]; omega
      · have hkk : k = L.length := by omega
        have HN := Lib.hid hn
        clear hn
        go_wp2_with fail
        go_ret
        refine ⟨?_, hb⟩
        rw [decide_eq_true (p := L = M) (by
          have := HN.out
          rw [hkk, List.take_length, hl, List.take_length] at this
          exact this)]
        rfl
  · have e1 : ((L.length : Int) != (M.length : Int)) = true := by simp; omega
    go_enter Try.func30, Try.ntmps30
    go_wp2_with fail
    go_ret
    refine ⟨?_, Below.refl _ _⟩
    rw [decide_eq_false (p := L = M) (fun e => hl (by rw [e]))]
    rfl
end Go.Proofs.Ytomekndinopoaaa.multi
namespace Go.Proofs.Ytomekndinopoaaa.multi
open Go.ChangeShapes Go.WideShapes Go.ChangeAt Go.RowKit
open Go.Proofs.Ytomekndinopoaaa.region
open Go.Proofs.Ytomekndinopoaaa.tm Go.Proofs.Ytomekndinopoaaa.opened Go.Proofs.Ytomekndinopoaaa.block Go.Proofs.Ytomekndinopoaaa.stamp Go.Proofs.Ytomekndinopoaaa.chain

/-- A row of these pairs. -/
def RowM (M : List TN) : Value → World → Prop := fun u w => ∃ B c, u = .slice B M.length c ∧ Lp w B M
theorem keeps_rowM (M : List TN) : Keeps (RowM M) := fun _ _ _ hb ⟨B, c, h1, h2⟩ => ⟨B, c, h1, h2.below hb⟩
set_option maxRecDepth 100000 in
set_option maxHeartbeats 4000000 in
theorem same7 {g b c r a e : Nat} {d : Int} {A A' B' : Option Addr} {L L' : List Tm} {M : List TN} (G : GoodM d M) (hm : M.length ≤ 4096) (w : World) (h : MulP w g d b A c L M) (h' : MulR w r d A' a M B' e L') :
    Calls Try.prog 19 #[.pointer (some ⟨g, 0, none⟩), .pointer (some ⟨r, 0, none⟩)] w fun x w' => x = .returned (.bool true) ∧ Below w.heap.size w w' := by
  have H := Lib.hid h
  have H' := Lib.hid h'
  clear h h'
  have F1 := Lib.hid (frontier_chain G hm w H.out)
  have F2 := Lib.hid (fun W hW => frontierR_any (g := r) (c := a) (e := e) (A := A') (B := B') (L := L') G hm W hW)
  have hlF : (makeV (present M) (inP G)).length ≤ 4096 := present_le M hm G
  have hG := Lib.hid G
  generalize makeV (present M) (inP G) = F at F1 F2 hlF
  generalize makeE (present M) (inP G) = E at F1 F2
  go_enter Try.func19, Try.ntmps19
  go_upto_region 3 with (first
    | (go_at_call 33; refine F1.out.mono ?_; rintro e1 w1 ⟨B1, c1, rfl, l1, b1⟩; have L1 := Lib.hid l1; have HB1 := Lib.hid b1; clear l1 b1)
    | (go_at_call 40; refine (F2.out w1 (H'.out.below HB1.out)).mono ?_; rintro e2 w2 ⟨B2, c2, rfl, l2, b2⟩; have L2 := Lib.hid l2; have HB2 := Lib.hid b2; clear l2 b2))
  have HM := Lib.hid ((H.out.below HB1.out).below HB2.out)
  have HR := Lib.hid ((H'.out.below HB1.out).below HB2.out)
  have LA := Lib.hid (L1.out.below HB2.out)
  have HBB := Lib.hid (HB1.out.trans (HB2.out.mono HB1.out.size))
  refine region_want 37 [Is (.pointer (some ⟨g, 0, none⟩)), RowM M, RowM M, Is (.pointer (some ⟨r, 0, none⟩)), Is (.pointer (some ⟨r, 0, none⟩)), Is (.pointer (some ⟨r, 1, none⟩)), Is (.slice A' M.length a), Is (.bool true), Is (.bool true), Is (.slice B1 F.length c1), Is (.slice B2 F.length c2), Is (.bool true), Is (.bool true), Is (.bool true), Is (.int .i64 E), Is (.int .i64 E), Is (.bool true), Is (.bool true), Is (.bool true)] (by kernel_rfl) rfl (by kernel_rfl) ?_ ?_
  · exact ⟨keeps_is _, keeps_rowM _, keeps_rowM _, keeps_is _, keeps_is _, keeps_is _, keeps_is _, keeps_is _, keeps_is _, keeps_is _, keeps_is _, keeps_is _, keeps_is _, keeps_is _, keeps_is _, keeps_is _, keeps_is _, keeps_is _, keeps_is _, trivial⟩
  · intro fin hfin
    simp [lexPut, Act.put] at hfin
    refine ⟨⟨?_, ?_, ?_, ?_, ?_, ?_, ?_, ?_, ?_, ?_, ?_, ?_, ?_, ?_, ?_, ?_, ?_, ?_, ?_, trivial⟩, ?_⟩
    · intro v w3 hb hd
      exact done_plain rfl (yields_is (tells_move rfl (by rw [hfin]; rfl)) hb)
    · intro v w3 hb hd
      have h0 : v 0 = _ := hd 0 (by kernel_rfl)
      refine done_plain rfl (yields_call (f := 32) rfl (vs := #[.pointer (some ⟨g, 0, none⟩)]) (by rw [hfin]; simp [Act.eval, h0]) rfl Try.func32 (by kernel_rfl) (by kernel_rfl) ?_)
      exact (all_any hG.out hm w3 (HM.out.below hb)).mono fun e w' ⟨B, c', he, hl, hb'⟩ => ⟨_, he, hb', B, c', rfl, hl⟩
    · intro v w3 hb hd
      obtain ⟨B3, c3, h1, l3⟩ : RowM M (v 1) w3 := hd 1 (by kernel_rfl)
      refine done_plain rfl (yields_call (f := 31) rfl (vs := #[.slice B3 M.length c3]) (by rw [hfin]; simp [Act.eval, h1]) rfl Try.func31 (by kernel_rfl) (by kernel_rfl) ?_)
      exact (from_any B3 c3 M hm w3 l3).mono fun e w' ⟨B, c', he, hl, hb'⟩ => ⟨_, he, hb', B, c', rfl, hl⟩
    · intro v w3 hb hd
      exact done_plain rfl (yields_is (tells_move rfl (by rw [hfin]; rfl)) hb)
    · intro v w3 hb hd
      have h3 : v 3 = _ := hd 3 (by kernel_rfl)
      refine done_plain rfl (yields_run (u := .pointer (some ⟨r, 0, none⟩)) (w' := w3) ?_ (Below.refl _ _) rfl)
      rw [hfin]
      unfold execOp
      simp [go_sem, Act.eval, h3]
    · intro v w3 hb hd
      have h3 : v 4 = _ := hd 4 (by kernel_rfl)
      refine done_plain rfl (yields_run (u := .pointer (some ⟨r, 1, none⟩)) (w' := w3) ?_ (Below.refl _ _) rfl)
      rw [hfin]
      unfold execOp
      simp [go_sem, Act.eval, h3]
    · intro v w3 hb hd
      have h3 : v 5 = _ := hd 5 (by kernel_rfl)
      have hc : w3.cell? ⟨r, 1, none⟩ = some (.slice A' M.length a) := (HR.out.below hb).cells.read 1
      refine done_plain rfl (yields_run (u := .slice A' M.length a) (w' := w3) ?_ (Below.refl _ _) rfl)
      rw [hfin]
      unfold execOp
      simp [go_sem, Act.eval, h3, hc]
    · intro v w3 hb hd
      obtain ⟨B3, c3, h2, l3⟩ : RowM M (v 2) w3 := hd 2 (by kernel_rfl)
      have h6 : v 6 = _ := hd 6 (by kernel_rfl)
      refine done_plain rfl (yields_call (f := 30) rfl (vs := #[.slice B3 M.length c3, .slice A' M.length a]) (by rw [hfin]; simp [Act.eval, h2, h6]) rfl Try.func30 (by kernel_rfl) (by kernel_rfl) ?_)
      have := sameQ_any B3 A' c3 a M M (by omega) (by omega) w3 l3 (HR.out.below hb).pairs
      rw [decide_eq_true (p := M = M) rfl] at this
      exact this.mono fun e w' ⟨he, hb'⟩ => ⟨_, he, hb', rfl⟩
    · intro v w3 hb hd
      have h3 : v 7 = _ := hd 7 (by kernel_rfl)
      exact done_plain rfl (yields_is (tells_move rfl (by rw [hfin]; exact h3)) hb)
    · intro v w3 hb hd
      exact done_want 8 true rfl (hd 8 (by kernel_rfl)) (yields_is (tells_move rfl (by rw [hfin]; rfl)) hb)
    · intro v w3 hb hd
      exact done_want 8 true rfl (hd 8 (by kernel_rfl)) (yields_is (tells_move rfl (by rw [hfin]; rfl)) hb)
    · intro v w3 hb hd
      have h9 : v 9 = _ := hd 9 (by kernel_rfl)
      have h10 : v 10 = _ := hd 10 (by kernel_rfl)
      refine done_want 8 true rfl (hd 8 (by kernel_rfl)) (yields_call (f := 14) rfl (vs := #[.slice B1 F.length c1, .slice B2 F.length c2]) (by rw [hfin]; simp [Act.eval, h9, h10]) rfl Try.func14 (by kernel_rfl) (by kernel_rfl) ?_)
      exact (same_self B1 B2 c1 c2 F (by omega) w3 (LA.out.below hb) (L2.out.below hb)).mono fun e w' ⟨he, hb'⟩ => ⟨_, he, hb', rfl⟩
    · intro v w3 hb hd
      have h8 : v 8 = _ := hd 8 (by kernel_rfl)
      have h11 : v 11 = _ := hd 11 (by kernel_rfl)
      refine done_plain rfl (yields_run (u := .bool true) (w' := w3) ?_ (Below.refl _ _) rfl)
      rw [hfin]
      unfold execOp
      simp [go_sem, Act.eval, h8, h11]
    · intro v w3 hb hd
      have h3 : v 12 = _ := hd 12 (by kernel_rfl)
      exact done_plain rfl (yields_is (tells_move rfl (by rw [hfin]; exact h3)) hb)
    · intro v w3 hb hd
      exact done_want 13 true rfl (hd 13 (by kernel_rfl)) (yields_is (tells_move rfl (by rw [hfin]; rfl)) hb)
    · intro v w3 hb hd
      exact done_want 13 true rfl (hd 13 (by kernel_rfl)) (yields_is (tells_move rfl (by rw [hfin]; rfl)) hb)
    · intro v w3 hb hd
      have h14 : v 14 = _ := hd 14 (by kernel_rfl)
      have h15 : v 15 = _ := hd 15 (by kernel_rfl)
      refine done_want 13 true rfl (hd 13 (by kernel_rfl)) (yields_run (u := .bool true) (w' := w3) ?_ (Below.refl _ _) rfl)
      rw [hfin]
      unfold execOp
      simp [go_sem, Act.eval, h14, h15]
    · intro v w3 hb hd
      have h13 : v 13 = _ := hd 13 (by kernel_rfl)
      have h16 : v 16 = _ := hd 16 (by kernel_rfl)
      refine done_plain rfl (yields_run (u := .bool true) (w' := w3) ?_ (Below.refl _ _) rfl)
      rw [hfin]
      unfold execOp
      simp [go_sem, Act.eval, h13, h16]
    · intro v w3 hb hd
      have h3 : v 17 = _ := hd 17 (by kernel_rfl)
      exact done_plain rfl (yields_is (tells_assign rfl (by rw [hfin]; exact h3)) hb)
    · intro v w3 hb hv
      have h18 : v 18 = _ := hv 18 (by decide)
      rw [hfin]
      clear hfin hv
      rw [h18]
      clear h18
      have B3 := Lib.hid (HBB.out.trans (hb.mono HBB.out.size))
      clear hb
      go_wp2_with fail
      go_ret
      exact ⟨rfl, B3.out⟩
end Go.Proofs.Ytomekndinopoaaa.multi
