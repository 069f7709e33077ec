/-
  The contract of Drop.
  The contracts of head, endsWithDigit and check.
-/
import Derived.Test.YtfpmcomigolacaaGreatDoorJLayD
import Derived.Test.YtfpmcomigolacaaGreatDoorJSq
set_option linter.unusedSimpArgs false
set_option linter.unusedVariables false
namespace Go.Proofs.YtfpmcomigolacaaGreatDoor.wal
open Go.ChangeShapes Go.WideShapes Go.ChangeAt Go.RowKit Go.Maps Go.WideMaps
open Go.Proofs.YtfpmcomigolacaaGreatDoor.opened Go.Proofs.YtfpmcomigolacaaGreatDoor.block Go.Proofs.YtfpmcomigolacaaGreatDoor.words Go.Proofs.YtfpmcomigolacaaGreatDoor.disk Go.Proofs.YtfpmcomigolacaaGreatDoor.tailed Go.Proofs.YtfpmcomigolacaaGreatDoor.enc Go.Proofs.YtfpmcomigolacaaGreatDoor.code
/-- How many files the log at a block has. -/
def filesAt (gl : Nat) (w : World) : Nat := match w.cell? ⟨gl, 4, none⟩ with
  | some (.slice _ n _) => n
  | _ => 0
theorem drF_no {k : Nat} {L : Lg} {D : Dk} {m : Int} (h : pastB L m = false) : drF k L D m = (0, L, D) := by
  cases k with
  | zero => rfl
  | succ k => rw [drF, if_neg (by rw [h]; simp)]
theorem drF_err {k : Nat} {L : Lg} {D : Dk} {m : Int} (h : pastB L m = true) (he : dfE L D ≠ 0) : drF (k + 1) L D m = (dfE L D, noteL L (dfE L D), dfD L D) := by rw [drF, if_pos h, if_pos he]
theorem drF_go {k : Nat} {L : Lg} {D : Dk} {m : Int} (h : pastB L m = true) (he : dfE L D = 0) : drF (k + 1) L D m = drF k (dfV L) (dfD L D) m := by rw [drF, if_pos h, if_neg (by simpa using he)]
theorem past_len {L : Lg} {m : Int} (h : pastB L m = true) : 2 ≤ L.heads.length := by
  unfold pastB at h
  cases e : L.heads with
  | nil => rw [e] at h; cases h
  | cons a t =>
    cases e2 : t with
    | nil => rw [e, e2] at h; cases h
    | cons b r => simp
section
variable {gl gd : Nat} {L : Lg} {A : Option Addr} {c : Nat} {R : Option Addr} {d : Nat} {w : World} {B : Nat} {D : Dk}
set_option maxRecDepth 100000 in
set_option maxHeartbeats 4000000 in
theorem drop_log (G : GoodL L) (hn : nextN L ≤ 1125899906842624) (GD : GoodD D) (hF : D.F.length ≤ 998) (hE : EnvB B w) (h : LogE w gl gd L A c R d) (hD : DiskB w B gd D) (hlb : ∀ k, lblk gl A R k → B ≤ k) (m : Int) :
    Calls Tryz.prog 13 #[.pointer (some ⟨gl, 0, none⟩), .int .i64 m] w fun e w' => e = .returned (.int .i64 (drV L D m).1) ∧ LTurn B gl gd A R (drV L D m).2.1 (drV L D m).2.2 w w' := by
  have hB := hE.le
  have hgl := hlb gl (.inl rfl)
  have HLB := Lib.hid hlb
  have HEn := Lib.hid hE
  have c8 : w.cell? ⟨gl, 8, none⟩ = some (.bool L.fail) := h.cells.read 8
  have f8 : w.frozen? ⟨gl, 8, none⟩ = false := h.cells.soft 8
  have HP := Lib.hid (past_any G m h)
  have HS : Hid (∀ w1, Below w.heap.size w w1 → Calls Tryz.prog 12 #[.pointer (some ⟨gl, 0, none⟩)] w1 fun e w' => e = .returned (.int .i64 (syE L D)) ∧ LTurn B gl gd A R (syL L D) (syD L D) w w') := Lib.hid fun w1 b =>
    (sync_log G hn GD (by omega) (hE.below b) (h.below b) (hD.below b) hgl).mono fun e w' ⟨e1, e2, e3, e4, e5⟩ => ⟨e1, LTurn.pre b hB (lturn_of e2 e3 e4 e5)⟩
  have HT0 : Hid (∀ w1, Below w.heap.size w w1 → LTurn B gl gd A R L D w w1) := Lib.hid fun w1 b => lturn_of (h.below b) (hD.below b) (wt_below b _) (b.mono hB)
  have HV : Hid (drV L D m = if L.fail = true then (14, L, D) else if pastB L m = false then (0, L, D) else if syE L D ≠ 0 then (syE L D, syL L D, syD L D) else drF L.heads.length (syL L D) (syD L D) m) := Lib.hid rfl
  have G1 := Lib.hid (good_sy G D)
  have GD1 := Lib.hid (good_syD GD L).1
  have hn1 : Hid (nextN (syL L D) ≤ 1125899906842624) := Lib.hid (by rw [(sy_next L D).1]; exact hn)
  have hh1 : Hid ((syL L D).heads.length = L.heads.length) := Lib.hid (by rw [(sy_fields L D).2.2.2.1])
  clear h hD hE G GD hF hlb hn
  generalize drV L D m = V at HV ⊢
  generalize L.fail = fl at c8 HV
  cases fl
  case true =>
    obtain rfl : V = (14, L, D) := HV.out
    clear HV HP HS G1 GD1 hn1 hh1
    go_enter Tryz.func13, Tryz.ntmps13
    go_wp2_with fail
    go_ret
    exact ⟨rfl, HT0.out _ (Below.refl _ _)⟩
  have hv := HV.out
  rw [if_neg (by simp)] at hv
  clear HV
  cases hp : pastB L m with
  | false =>
    rw [if_pos hp] at hv
    subst hv
    rw [hp] at HP
    clear hp HS G1 GD1 hn1 hh1
    go_enter Tryz.func13, Tryz.ntmps13
    go_wp2_with (go_at_call 40; refine HP.out.mono ?_; rintro e w1 ⟨rfl, b1⟩; have B1 := Lib.hid b1; clear b1)
    go_ret
    exact ⟨rfl, HT0.out _ B1.out⟩
  | true =>
    rw [if_neg (by rw [hp]; simp)] at hv
    rw [hp] at HP
    clear hp HT0
    generalize syL L D = L1 at HS G1 hn1 hh1 hv
    generalize syD L D = D1 at HS GD1 hv
    by_cases q : syE L D = 0
    case neg =>
      rw [if_pos q] at hv
      subst hv
      have q2 : (syE L D != 0) = true := by simpa using q
      clear q G1 GD1 hn1 hh1
      generalize syE L D = se at HS q2 ⊢
      go_enter Tryz.func13, Tryz.ntmps13
      go_wp2_with (first
        | (go_at_call 40; refine HP.out.mono ?_; rintro e w1 ⟨rfl, b1⟩; have B1 := Lib.hid b1; clear b1)
        | (go_at_call 12; refine (HS.out _ B1.out).mono ?_; rintro e w2 ⟨rfl, t2⟩; have T2 := Lib.hid t2; clear t2))
      go_ret
      exact ⟨rfl, T2.out⟩
    rw [if_neg (by simpa using q)] at hv
    rw [q] at HS
    have HV := Lib.hid hv
    clear q hv
    generalize L.heads.length = hl at HV hh1
    go_enter Tryz.func13, Tryz.ntmps13
    go_upto_region 8 with (first
        | (go_at_call 40; refine HP.out.mono ?_; rintro e w1 ⟨rfl, b1⟩; have B1 := Lib.hid b1; clear b1)
        | (go_at_call 12; refine (HS.out _ B1.out).mono ?_; rintro e w2 ⟨rfl, t2⟩; have T2 := Lib.hid t2; clear t2))
    go_loopw [6] (fun _ wr => ∃ (k : Nat) (L2 : Lg) (D2 : Dk), Hid (V = drF k L2 D2 m) ∧ Hid (L2.heads.length = k) ∧ Hid (GoodL L2) ∧ Hid (nextN L2 ≤ 1125899906842624) ∧ Hid (GoodD D2) ∧ Hid (LTurn B gl gd A R L2 D2 w wr)) (fun _ wr => filesAt gl wr)
    case atStart => exact ⟨hl, L1, D1, HV, hh1, G1, hn1, GD1, T2⟩
    case round =>
      obtain ⟨k, L2, D2, HV2, HK, HG, HN, HGD, HT⟩ := hrel
      clear HV hh1 G1 hn1 GD1 T2 HS HP B1
      obtain ⟨A', c', R', d', l2, i2⟩ := HT.out.log
      have hB2 : B ≤ wr.heap.size := Nat.le_trans hB HT.out.wt.size
      have HP2 := Lib.hid (past_any HG.out m l2)
      have HT2 : Hid (∀ w1, Below wr.heap.size wr w1 → LTurn B gl gd A R L2 D2 w w1) := Lib.hid fun w1 b => HT.out.post hB b
      have HDf : Hid (pastB L2 m = true → ∀ w1, Below wr.heap.size wr w1 → Calls Tryz.prog 41 #[.pointer (some ⟨gl, 0, none⟩)] w1 fun e w' => e = .returned (.int .i64 (dfE L2 D2)) ∧ LTurn B gl gd A R (if dfE L2 D2 ≠ 0 then L2 else dfV L2) (dfD L2 D2) w w') := Lib.hid fun hp w1 b => by
        have t := HT.out.post hB b
        refine (dropFirst_any HG.out HN.out hp HGD.out (HEn.out.step t.below) (l2.below b) t.disk (lb_of HLB.out hB i2)).mono fun e w' ⟨e1, e2⟩ => ⟨e1, t.then_ i2 e2⟩
      have HNo : Hid (∀ w1, LTurn B gl gd A R L2 (dfD L2 D2) w w1 → Calls Tryz.prog 38 #[.pointer (some ⟨gl, 0, none⟩), .int .i64 (dfE L2 D2)] w1 fun x w' => x = .returned (.int .i64 (dfE L2 D2)) ∧ LTurn B gl gd A R (noteL L2 (dfE L2 D2)) (dfD L2 D2) w w') := Lib.hid fun w1 t => by
        obtain ⟨A2, c2, R2, d2, k1, k2⟩ := t.log
        exact (note_any (dfE L2 D2) k1).mono fun e w' ⟨e1, e2, e3⟩ => ⟨e1, t.own_set hB hgl k2 k1 e2 e3⟩
      have HM : Hid (filesAt gl wr = L2.heads.length) := Lib.hid (by
        unfold filesAt
        have := l2.cells.read 4
        rw [this]
        rfl)
      clear l2 i2
      cases hp : pastB L2 m with
      | false =>
        have hv := HV2.out
        rw [drF_no hp] at hv
        subst hv
        rw [hp] at HP2
        clear HDf HNo hp HV2
        go_wp2_with (go_at_call 40; refine HP2.out.mono ?_; rintro e w3 ⟨rfl, b3⟩; have B3 := Lib.hid b3; clear b3)
        go_ret
        exact ⟨rfl, HT2.out _ B3.out⟩
      | true =>
        have hlen := past_len hp
        rw [HK.out] at hlen
        obtain ⟨k', rfl⟩ : ∃ k', k = k' + 1 := ⟨k - 1, by omega⟩
        replace HDf := Lib.hid (HDf.out hp)
        rw [hp] at HP2
        by_cases q : dfE L2 D2 = 0
        case neg =>
          have hv := HV2.out
          rw [drF_err hp q] at hv
          subst hv
          rw [if_pos q] at HDf
          have q2 : (dfE L2 D2 != 0) = true := by simpa using q
          clear q hp hlen HV2
          go_wp2_with (first
            | (go_at_call 40; refine HP2.out.mono ?_; rintro e w3 ⟨rfl, b3⟩; have B3 := Lib.hid b3; clear b3)
            | (go_at_call 41; refine (HDf.out _ B3.out).mono ?_; rintro e w4 ⟨rfl, t4⟩; have T4 := Lib.hid t4; clear t4)
            | (go_at_call 38; refine (HNo.out _ T4.out).mono ?_; rintro e w5 ⟨rfl, t5⟩; have T5 := Lib.hid t5; clear t5))
          go_ret
          exact ⟨rfl, T5.out⟩
        have HV3 : Hid (V = drF k' (dfV L2) (dfD L2 D2) m) := Lib.hid (by rw [HV2.out, drF_go hp q])
        obtain ⟨GV, p1, p2, p3, p4, p5⟩ := good_df HG.out hp
        have HG3 := Lib.hid GV
        have HN3 : Hid (nextN (dfV L2) ≤ 1125899906842624) := Lib.hid (by rw [p3]; exact HN.out)
        have HGD3 := Lib.hid (good_rem HGD.out (fn L2.nm L2.least))
        have HK3 : Hid ((dfV L2).heads.length = k') := Lib.hid (by show L2.heads.tail.length = _; have := HK.out; simp; omega)
        rw [if_neg (by simpa using q)] at HDf
        rw [q] at HDf
        clear q hp hlen HV2 GV p1 p2 p3 p4 p5 HNo
        go_wp2_with (first
            | (go_at_call 40; refine HP2.out.mono ?_; rintro e w3 ⟨rfl, b3⟩; have B3 := Lib.hid b3; clear b3)
            | (go_at_call 41; refine (HDf.out _ B3.out).mono ?_; rintro e w4 ⟨rfl, t4⟩; have T4 := Lib.hid t4; clear t4))
        go_roundw
        case rel => exact ⟨k', dfV L2, dfD L2 D2, HV3, HK3, HG3, HN3, HGD3, T4⟩
        case measure =>
          obtain ⟨A2, c2, R2, d2, k1, k2⟩ := T4.out.log
          have e1 : filesAt gl w4 = (dfV L2).heads.length := by
            unfold filesAt
            have := k1.cells.read 4
            rw [this]
            rfl
          rw [e1, HK3.out, HM.out, HK.out]
          omega
end
end Go.Proofs.YtfpmcomigolacaaGreatDoor.wal
set_option linter.unusedSimpArgs false
set_option linter.unusedVariables false
namespace Go.Proofs.YtfpmcomigolacaaGreatDoor.wal
open Go.ChangeShapes Go.WideShapes Go.ChangeAt Go.RowKit Go.Maps Go.WideMaps
open Go.Proofs.YtfpmcomigolacaaGreatDoor.opened Go.Proofs.YtfpmcomigolacaaGreatDoor.block Go.Proofs.YtfpmcomigolacaaGreatDoor.words Go.Proofs.YtfpmcomigolacaaGreatDoor.disk Go.Proofs.YtfpmcomigolacaaGreatDoor.tailed Go.Proofs.YtfpmcomigolacaaGreatDoor.enc Go.Proofs.YtfpmcomigolacaaGreatDoor.code
section
variable {gl gd : Nat} {L : Lg} {A : Option Addr} {c : Nat} {R : Option Addr} {d : Nat} {w : World} {B : Nat} {D : Dk}
theorem below_own {w w1 w2 : World} {g : Nat} (h : Below w.heap.size w w1) (hg : w.heap.size ≤ g) (k : w1.grownBy w2 (some g)) : Below w.heap.size w w2 := h.grown k h.size fun j e => by cases e; exact hg
set_option maxRecDepth 100000 in
theorem head_any (G : GoodL L) (hn : nextN L ≤ 1125899906842624) (t : Bs) (ht : t.length ≤ 100000) (h : LogE w gl gd L A c R d) :
    Calls Tryz.prog 60 #[.pointer (some ⟨gl, 0, none⟩), sV t] w fun e w' => e = .returned (.tuple #[.int .i64 (headV L t), .bool (headB L t)]) ∧ Below w.heap.size w w' := by
  have HF := Lib.hid (files_any h)
  have HN : Hid (∀ w1, Below w.heap.size w w1 → Calls Tryz.prog 16 #[.pointer (some ⟨gl, 0, none⟩)] w1 fun e w' => e = .returned (.int .i64 (nextN L)) ∧ Below w1.heap.size w1 w') := Lib.hid fun w1 b => next_any G hn (h.below b)
  have hN0 : 0 ≤ nextN L := by have := G.base; unfold nextN; omega
  have HNu : Hid (∀ w1, Calls Tryz.prog 76 #[.int .u64 (nextN L)] w1 fun e w' => e = .returned (sV (enc (nextN L).toNat)) ∧ Below w1.heap.size w1 w') := Lib.hid fun w1 => by
    have := num_any (nextN L).toNat (by omega) w1
    rwa [Int.toNat_of_nonneg hN0] at this
  have hwr : IntKind.u64.wrap (nextN L) = nextN L := by simp only [IntKind.wrap_u64]; omega
  have HV : Hid (headV L t = if L.heads = [] then (rInt t 0 1099511627776).1 else nextN L) := Lib.hid rfl
  have HB : Hid (headB L t = if L.heads = [] then decide (rEnd (t.drop (rInt t 0 1099511627776).2.1) (rInt t 0 1099511627776).2.2 = 0) else (t == enc (nextN L).toNat)) := Lib.hid rfl
  have NW : Hid (∀ w1, Calls Tryz.prog 77 #[sV t] w1 fun e w' => e = .returned (.pointer (some ⟨w1.heap.size, 0, none⟩)) ∧ RdA w' w1.heap.size t 0 ∧ w1.grownBy w' none) := Lib.hid fun w1 => new_l t w1
  have IN := Lib.hid (fun g W (h : RdA W g t 0) => intA g t 0 1099511627776 (by omega) (by omega) (by omega) W h)
  have EN := Lib.hid (fun g l e W (h : RdA W g l e) => endA g l e W h)
  clear h G
  generalize headV L t = hv at HV ⊢
  generalize headB L t = hb at HB ⊢
  by_cases hh : L.heads = []
  · have e1 := HV.out
    have e2 := HB.out
    rw [if_pos hh] at e1 e2
    have hz : L.heads.length = 0 := by rw [hh]; rfl
    rw [hz] at HF
    subst e1
    clear HV HB HN HNu hwr hn hN0 hh hz
    generalize (rInt t 0 1099511627776).2.2 = er at IN e2
    generalize (rInt t 0 1099511627776).2.1 = u at IN e2
    generalize (rInt t 0 1099511627776).1 = n at IN ⊢
    have fin : ∀ hb, hb = decide (rEnd (t.drop u) er = 0) → Calls Tryz.prog 60 #[.pointer (some ⟨gl, 0, none⟩), sV t] w fun e w' => e = .returned (.tuple #[.int .i64 n, .bool hb]) ∧ Below w.heap.size w w' := by
      intro hb e2
      have HE2 := Lib.hid e2
      clear e2
      obtain rfl : hb = (rEnd (t.drop u) er == 0) := by rw [HE2.out]; exact Bool.eq_iff_iff.2 (by simp)
      clear HE2
      go_enter Tryz.func60, Tryz.ntmps60
      go_wp2_with (first
        | (go_at_call 18; refine HF.out.mono ?_; rintro e w1 ⟨rfl, b1⟩; have B1 := Lib.hid b1; clear b1)
        | (go_at_call 77; refine (NW.out w1).mono ?_; rintro e w2 ⟨rfl, r2, g2⟩; have R2 := Lib.hid r2; have B2 := Lib.hid (B1.out.grown g2 B1.out.size (fun j e => by cases e)); have hsz := B1.out.size; obtain ⟨g, hg⟩ : ∃ g, w1.heap.size = g := ⟨_, rfl⟩; rw [hg] at R2 hsz ⊢; clear r2 g2 hg)
        | (go_at_call 78; refine (IN.out _ _ R2.out).mono ?_; rintro e w3 ⟨rfl, r3, g3⟩; have R3 := Lib.hid r3; have B3 := Lib.hid (below_own B2.out hsz g3); clear r3 g3)
        | (go_at_call 89; refine (EN.out _ _ _ _ R3.out).mono ?_; rintro e w4 ⟨rfl, r4, g4⟩; have B4 := Lib.hid (below_own B3.out hsz g4); clear r4 g4))
      go_ret2
      exact ⟨rfl, B4.out⟩
    exact fin hb e2
  · have e1 := HV.out
    have e2 := HB.out
    rw [if_neg hh] at e1 e2
    subst e1
    have hz : (0 : Int) < (L.heads.length : Int) := by
      have : L.heads.length ≠ 0 := fun e => hh (List.eq_nil_of_length_eq_zero e)
      omega
    clear HV HB NW IN EN hh
    generalize enc (nextN L).toNat = x at HNu e2
    generalize nextN L = m at HN HNu hwr ⊢
    generalize L.heads.length = n at HF hz
    by_cases q : t = x
    · subst q
      obtain rfl : hb = true := by rw [e2]; simp
      clear e2
      go_enter Tryz.func60, Tryz.ntmps60
      go_wp2_with (first
          | (go_at_call 18; refine HF.out.mono ?_; rintro e w1 ⟨rfl, b1⟩; have B1 := Lib.hid b1; clear b1)
          | (go_at_call 76; refine (HNu.out _).mono ?_; rintro e w4 ⟨rfl, b4⟩; have B4 := Lib.hid (then_below B3.out b4); clear b4)
          | (go_at_call 16; refine (HN.out _ B2.out).mono ?_; rintro e w3 ⟨rfl, b3⟩; have B3 := Lib.hid (then_below B2.out b3); clear b3)
          | (go_at_call 16; refine (HN.out _ B1.out).mono ?_; rintro e w2 ⟨rfl, b2⟩; have B2 := Lib.hid (then_below B1.out b2); clear b2))
      go_ret2
      exact ⟨rfl, B4.out⟩
    · obtain rfl : hb = false := by rw [e2]; simpa using q
      have q2 : (t == x) = false := by simpa using q
      clear e2 q
      go_enter Tryz.func60, Tryz.ntmps60
      go_wp2_with (first
          | (go_at_call 18; refine HF.out.mono ?_; rintro e w1 ⟨rfl, b1⟩; have B1 := Lib.hid b1; clear b1)
          | (go_at_call 76; refine (HNu.out _).mono ?_; rintro e w4 ⟨rfl, b4⟩; have B4 := Lib.hid (then_below B3.out b4); clear b4)
          | (go_at_call 16; refine (HN.out _ B2.out).mono ?_; rintro e w3 ⟨rfl, b3⟩; have B3 := Lib.hid (then_below B2.out b3); clear b3)
          | (go_at_call 16; refine (HN.out _ B1.out).mono ?_; rintro e w2 ⟨rfl, b2⟩; have B2 := Lib.hid (then_below B1.out b2); clear b2))
      go_ret2
      exact ⟨rfl, B4.out⟩
end
theorem digit_end (nm : Bs) (hl : nm.length ≤ 100000) (hne : nm ≠ []) (w : World) :
    Calls Tryz.prog 53 #[sV nm] w fun e w' => e = .returned (.bool (isDig (nm.getLast?.getD 0))) ∧ Below w.heap.size w w' := by
  obtain ⟨k, hk⟩ : ∃ k, nm.length = k + 1 := ⟨nm.length - 1, by have : nm.length ≠ 0 := fun e => hne (List.eq_nil_of_length_eq_zero e); omega⟩
  have hkl : k < nm.length := by omega
  have hx : nm.getLast?.getD 0 = nm[k] := by
    have h1 : nm[nm.length - 1]? = some nm[k] := by
      have h2 : nm.length - 1 = k := by omega
      rw [h2]
      exact List.getElem?_eq_getElem hkl
    rw [List.getLast?_eq_getElem?, h1]
    rfl
  rw [hx]
  have hidx : ∀ W, (Instr.index 9 (sV nm) (.int .i64 (k : Int))).run Tryz.prog W = .ok (.int .u8 (nm[k].toNat : Int)) W := fun W => by
    have hsz : (⟨nm.toArray⟩ : ByteArray).size = nm.length := by show nm.toArray.size = _; simp
    go_simp
    rw [dif_pos (by omega)]
    rfl
  have hw : wrap64 ((nm.length : Int) - 1) = (k : Int) := by unfold wrap64; omega
  have hwi : (nm.length : Int) - 1 = (k : Int) := by omega
  have hc : Hid (isDig nm[k] = decide (48 ≤ (nm[k].toNat : Int) ∧ (nm[k].toNat : Int) ≤ 57)) := Lib.hid (by unfold isDig; rw [decide_eq_decide]; omega)
  generalize isDig nm[k] = r at hc ⊢
  generalize (nm[k].toNat : Int) = x at hidx hc
  clear hx hk hne
  by_cases h1 : 48 ≤ x
  · by_cases h2 : x ≤ 57
    · obtain rfl : r = true := by rw [hc.out]; simp [h1, h2]
      clear hc
      go_enter Tryz.func53, Tryz.ntmps53
      go_wp2_with fail
      go_ret
      exact ⟨rfl, Below.refl _ _⟩
    · obtain rfl : r = false := by rw [hc.out]; simp [h2]
      clear hc
      go_enter Tryz.func53, Tryz.ntmps53
      go_wp2_with fail
      go_ret
      exact ⟨rfl, Below.refl _ _⟩
  · obtain rfl : r = false := by rw [hc.out]; simp [h1]
    clear hc
    go_enter Tryz.func53, Tryz.ntmps53
    go_wp2_with fail
    go_ret
    exact ⟨rfl, Below.refl _ _⟩
section
variable {gd B : Nat} {D : Dk} {w : World}
set_option maxHeartbeats 1000000 in
theorem check_log (nm : Bs) (hl : nm.length ≤ 100000) (per : Int) (hD : DiskB w B gd D) :
    Calls Tryz.prog 31 #[.pointer (some ⟨gd, 0, none⟩), sV nm, .int .i64 per] w fun e w' => e = .returned (.int .i64 (chkE D nm per)) ∧ Below w.heap.size w w' := by
  have HDn := Lib.hid (downB hD)
  have HN := Lib.hid (fun W => name_any nm hl W)
  have hnz : nameB nm = true → nm ≠ [] := fun h e => by subst e; cases h
  have HG : Hid (nameB nm = true → ∀ W, Calls Tryz.prog 53 #[sV nm] W fun e w' => e = .returned (.bool (isDig (nm.getLast?.getD 0))) ∧ Below W.heap.size W w') := Lib.hid fun h W => digit_end nm hl (hnz h) W
  have HC : Hid (chkE D nm per = if D.off = true then 14 else if nameB nm = false then 6 else if 8 < nm.length then 6 else if isDig (nm.getLast?.getD 0) = true then 6 else if per < 1 ∨ 64 < per then 1 else 0) := Lib.hid rfl
  clear hD hnz
  generalize chkE D nm per = ce at HC ⊢
  generalize isDig (nm.getLast?.getD 0) = dg at HG HC
  have hc := HC.out
  clear HC
  cases ho : D.off with
  | true =>
    rw [if_pos ho] at hc
    subst hc
    rw [ho] at HDn
    go_enter Tryz.func31, Tryz.ntmps31
    go_wp2_with (go_at_call 51; refine HDn.out.mono ?_; rintro e w1 ⟨rfl, rfl⟩)
    go_ret
    exact ⟨rfl, Below.refl _ _⟩
  | false =>
  rw [if_neg (by rw [ho]; simp)] at hc
  rw [ho] at HDn
  clear ho
  cases hn : nameB nm with
  | false =>
    rw [if_pos hn] at hc
    subst hc
    rw [hn] at HN
    clear HG hn
    go_enter Tryz.func31, Tryz.ntmps31
    go_wp2_with (first
      | (go_at_call 51; refine HDn.out.mono ?_; rintro e w1 ⟨rfl, rfl⟩)
      | (go_at_call 52; refine (HN.out _).mono ?_; rintro e w2 ⟨rfl, b2⟩; have B2 := Lib.hid b2; clear b2))
    go_ret
    exact ⟨rfl, B2.out⟩
  | true =>
  rw [if_neg (by rw [hn]; simp)] at hc
  replace HG := Lib.hid (HG.out hn)
  rw [hn] at HN
  clear hn
  by_cases h8 : 8 < nm.length
  · rw [if_pos h8] at hc
    subst hc
    have h8' : (8 : Int) < nm.length := by omega
    clear h8 HG
    go_enter Tryz.func31, Tryz.ntmps31
    go_wp2_with (first
      | (go_at_call 51; refine HDn.out.mono ?_; rintro e w1 ⟨rfl, rfl⟩)
      | (go_at_call 52; refine (HN.out _).mono ?_; rintro e w2 ⟨rfl, b2⟩; have B2 := Lib.hid b2; clear b2))
    go_ret
    exact ⟨rfl, B2.out⟩
  rw [if_neg h8] at hc
  have h8' : ¬ (8 : Int) < nm.length := by omega
  clear h8
  cases dg with
  | true =>
    rw [if_pos rfl] at hc
    subst hc
    go_enter Tryz.func31, Tryz.ntmps31
    go_wp2_with (first
      | (go_at_call 51; refine HDn.out.mono ?_; rintro e w1 ⟨rfl, rfl⟩)
      | (go_at_call 53; refine (HG.out _).mono ?_; rintro e w3 ⟨rfl, b3⟩; have B3 := Lib.hid (then_below B2.out b3); clear b3)
      | (go_at_call 52; refine (HN.out _).mono ?_; rintro e w2 ⟨rfl, b2⟩; have B2 := Lib.hid b2; clear b2))
    go_ret
    exact ⟨rfl, B3.out⟩
  | false =>
  rw [if_neg (by simp)] at hc
  by_cases p1 : per < 1
  · rw [if_pos (.inl p1)] at hc
    subst hc
    go_enter Tryz.func31, Tryz.ntmps31
    go_wp2_with (first
      | (go_at_call 51; refine HDn.out.mono ?_; rintro e w1 ⟨rfl, rfl⟩)
      | (go_at_call 53; refine (HG.out _).mono ?_; rintro e w3 ⟨rfl, b3⟩; have B3 := Lib.hid (then_below B2.out b3); clear b3)
      | (go_at_call 52; refine (HN.out _).mono ?_; rintro e w2 ⟨rfl, b2⟩; have B2 := Lib.hid b2; clear b2))
    go_ret
    exact ⟨rfl, B3.out⟩
  by_cases p2 : 64 < per
  · rw [if_pos (.inr p2)] at hc
    subst hc
    go_enter Tryz.func31, Tryz.ntmps31
    go_wp2_with (first
      | (go_at_call 51; refine HDn.out.mono ?_; rintro e w1 ⟨rfl, rfl⟩)
      | (go_at_call 53; refine (HG.out _).mono ?_; rintro e w3 ⟨rfl, b3⟩; have B3 := Lib.hid (then_below B2.out b3); clear b3)
      | (go_at_call 52; refine (HN.out _).mono ?_; rintro e w2 ⟨rfl, b2⟩; have B2 := Lib.hid b2; clear b2))
    go_ret
    exact ⟨rfl, B3.out⟩
  rw [if_neg (by omega)] at hc
  subst hc
  go_enter Tryz.func31, Tryz.ntmps31
  go_wp2_with (first
      | (go_at_call 51; refine HDn.out.mono ?_; rintro e w1 ⟨rfl, rfl⟩)
      | (go_at_call 53; refine (HG.out _).mono ?_; rintro e w3 ⟨rfl, b3⟩; have B3 := Lib.hid (then_below B2.out b3); clear b3)
      | (go_at_call 52; refine (HN.out _).mono ?_; rintro e w2 ⟨rfl, b2⟩; have B2 := Lib.hid b2; clear b2))
  go_ret
  exact ⟨rfl, B3.out⟩
end
end Go.Proofs.YtfpmcomigolacaaGreatDoor.wal
