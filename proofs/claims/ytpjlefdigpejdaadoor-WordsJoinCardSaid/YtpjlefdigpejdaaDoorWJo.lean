/-
  WordsJoin: words that are put together with blanks between, and lines with line feeds, are cut apart again; a comment behind them changes nothing. No condition.
-/
import Derived.Test.YtpjlefdigpejdaaDoorWl
import Derived.Test.YtpjlefdigpejdaaDoorTie
import Derived.Test.YtpjlefdigpejdaaDoorCards
import Derived.Deep.DeepCutAuto
namespace Go.Proofs.YtpjlefdigpejdaaDoor.words
open Go.ChangeShapes Go.WideShapes Go.ChangeAt Go.RowKit
open Go.Proofs.YtpjlefdigpejdaaDoor.opened Go.Proofs.YtpjlefdigpejdaaDoor.block

def plB (x : Bs) (k : Nat) : Bool := (decide (x ≠ []) && !isNote x) && (x.take k).all fun c => ((c.toNat : Int) != 32)
def lnB (x : Bs) (k : Nat) : Bool := (x.take k).all fun c => ((c.toNat : Int) != 10)
theorem pl_more {x : Bs} {k : Nat} {c : UInt8} (h : x[k]? = some c) : plB x (k + 1) = (plB x k && ((c.toNat : Int) != 32)) := by
  unfold plB
  rw [List.take_add_one, h, List.all_append]
  simp [Bool.and_assoc]
theorem ln_more {x : Bs} {k : Nat} {c : UInt8} (h : x[k]? = some c) : lnB x (k + 1) = (lnB x k && ((c.toNat : Int) != 10)) := by
  unfold lnB
  rw [List.take_add_one, h, List.all_append]
  simp
theorem u8_35 {c : UInt8} : ((c.toNat : Int) == 35) = decide (c = 35) := by
  rw [Bool.eq_iff_iff, beq_iff_eq, decide_eq_true_iff]
  constructor
  · intro h
    exact UInt8.toNat_inj.1 (by show _ = 35; omega)
  · rintro rfl
    rfl
theorem plain_of {x : Bs} (h1 : plB x x.length = true) (h2 : lnB x x.length = true) : Plain x := by
  unfold plB at h1
  unfold lnB at h2
  rw [List.take_length] at h1 h2
  simp only [Bool.and_eq_true, List.all_eq_true, decide_eq_true_eq] at h1 h2
  refine ⟨h1.1.1, by simpa using h1.1.2, fun hm => ?_, fun hm => ?_⟩
  · have := h1.2 _ hm
    simp at this
  · have := h2 _ hm
    simp at this
theorem note_first {x : Bs} {c : UInt8} (h : x[0]? = some c) : (decide (x ≠ []) && !isNote x) = ((c.toNat : Int) != 35) := by
  cases x with
  | nil => simp at h
  | cons y r =>
    simp at h
    subst h
    rw [isNote_cons, bne, u8_35]
    simp
theorem byte_in {s : Bs} {k : Nat} (h : k < (⟨s.toArray⟩ : ByteArray).size) : s[k]? = some ((⟨s.toArray⟩ : ByteArray)[k]'h) := byte_at h
set_option maxRecDepth 100000 in
set_option maxHeartbeats 4000000 in
theorem walkJ (A : Option Addr) (c : Nat) (l : List Bs) (gap : Int) (W : World) (hE : Env W) (hL : Ls W A l) :
    Calls Tryd.prog 4 #[.slice A l.length c, .int .i64 gap] W fun e w' => e = .returned (.bool true) ∧ Below W.heap.size W w' := by
  have E0 := Lib.hid hE
  have CW := Lib.hid (works_any W hE)
  have L0 := Lib.hid hL
  clear hE hL
  obtain ⟨i0, hi, hz0, hz1, hz2⟩ := infoS_parts
  go_enter Tryd.func4, Tryd.ntmps4
  go_wp2_with fail
  refine CW.out.mono ?_
  rintro e w1 ⟨rfl, b1⟩
  have E1 := Lib.hid (E0.out.below b1)
  have B1 := Lib.hid b1
  clear b1 CW
  go_wp2_with fail
  obtain ⟨g, hg⟩ : ∃ g : Nat, IntKind.u64.wrap gap % 3 = (g : Int) := ⟨(IntKind.u64.wrap gap % 3).toNat, by rw [IntKind.wrap_u64]; omega⟩
  have hg2 : g ≤ 2 := by rw [IntKind.wrap_u64] at hg; omega
  replace hg : wrap64 ((IntKind.u64.wrap gap).tmod 3) = (g : Int) := by
    rw [Int.tmod_eq_emod_of_nonneg (by rw [IntKind.wrap_u64]; omega), hg]
    unfold wrap64
    omega
  have HG := Lib.hid hg
  clear hg
  have H1s := Lib.hid B1.out.size
  go_loopw [5, 6, 7, 8] (fun sv tv nv iv wr => ∃ (k : Nat) (N : List Bs) (D : Option Addr) (d : Nat), k ≤ l.length ∧ k ≤ 30 ∧ N.length ≤ k ∧ iv = .int .i64 k ∧ nv = .slice D N.length d ∧ sv = sV (spread (g + 1) N) ∧ tv = sV (lined N) ∧ Hid (∀ x ∈ N, Plain x ∧ x.length ≤ 500) ∧ Hid (OwnS wr W.heap.size (.slice D N.length d) N) ∧ Below W.heap.size W wr) (fun _ _ _ iv _ => 30 - (intOf iv).toNat)
  case atStart => exact ⟨0, [], none, 0, Nat.zero_le _, by omega, Nat.le_refl _, rfl, rfl, rfl, rfl, Lib.hid (by simp), Lib.hid (ownS_nil _ _), B1.out⟩
  case round =>
    obtain ⟨k, N, D, d, hk, hk30, hN, rfl, rfl, rfl, rfl, HP, HO, hb⟩ := hrel
    have hsl := spread_len (g + 1) 500 N (fun x hx => (HP.out x hx).2)
    have htl := lined_len 500 N (fun x hx => (HP.out x hx).2)
    have hsl2 : (spread (g + 1) N).length ≤ 20000 := by
      refine Nat.le_trans hsl (Nat.le_trans (Nat.mul_le_mul (by omega : N.length ≤ 30) (by omega : g + 1 + 500 ≤ 503)) (by omega))
    have htl2 : (lined N).length ≤ 20000 := by
      refine Nat.le_trans htl (Nat.le_trans (Nat.mul_le_mul (by omega : N.length ≤ 30) (Nat.le_refl _)) (by omega))
    clear hsl htl
    have HS := Lib.hid (rfl : spread (g + 1) N = spread (g + 1) N)
    have HT := Lib.hid (rfl : lined N = lined N)
    by_cases hlt : k < l.length ∧ k < 30
    · obtain ⟨hlt, hlt30⟩ := hlt
      obtain ⟨x, hx⟩ : ∃ x, l[k]? = some x := ⟨_, List.getElem?_eq_getElem hlt⟩
      obtain ⟨bb, off, hA, hbb, hcW⟩ := L0.out.at hx
      have hc := (hb.cell (p := ⟨bb, off + k, none⟩) hbb).trans hcW
      subst hA
      clear hx hcW
      by_cases h5 : x.length ≤ 500
      · have h5' : ¬ (500 : Int) < (x.length : Int) := by omega
        have hxs : (⟨x.toArray⟩ : ByteArray).size = x.length := by show x.toArray.size = _; simp
        by_cases hx0 : x = []
        · subst hx0
          clear hxs h5
          go_wp2_with fail
          go_loop [9, 10, 11] (fun pv qv jv => ∃ j : Nat, j ≤ ([] : Bs).length ∧ jv = .int .i64 j ∧ pv = .bool (plB [] j) ∧ qv = .bool (lnB [] j)) (fun _ _ jv => ([] : Bs).length - (intOf jv).toNat)
          case atStart => exact ⟨0, Nat.zero_le _, rfl, by rfl, rfl⟩
          case round =>
            obtain ⟨j, hj0, rfl, rfl, rfl⟩ := hrel
            by_cases hj : j < ([] : Bs).length
            · exact absurd hj (by simp)
            · obtain rfl : j = 0 := by simpa using hj0
              rw [show plB [] 0 = false from rfl, show lnB [] 0 = true from rfl]
              go_wp2_with fail
              go_roundw
              case rel => exact ⟨k + 1, N, D, d, by omega, by omega, by omega, by go_num, rfl, rfl, rfl, HP, HO, hb⟩
              case measure => simp [intOf]; omega
        · have h0S : 0 < (⟨x.toArray⟩ : ByteArray).size := by rw [hxs]; exact List.length_pos_iff.2 hx0
          have HX0 := Lib.hid (note_first (byte_in h0S))
          have hne : (x == []) = false := by simpa using hx0
          obtain ⟨p0, hp0⟩ : ∃ p0, ((((⟨x.toArray⟩ : ByteArray)[0]'h0S).toNat : Int) != 35) = p0 := ⟨_, rfl⟩
          rw [hp0] at HX0
          clear hx0
          go_wp2_with fail
          go_loop [9, 10, 11] (fun pv qv jv => ∃ j : Nat, j ≤ x.length ∧ jv = .int .i64 j ∧ pv = .bool (plB x j) ∧ qv = .bool (lnB x j)) (fun _ _ jv => x.length - (intOf jv).toNat)
          case atStart => exact ⟨0, Nat.zero_le _, rfl, by rw [show plB x 0 = (decide (x ≠ []) && !isNote x) by simp [plB], HX0.out], rfl⟩
          case round =>
            obtain ⟨j, hj0, rfl, rfl, rfl⟩ := hrel
            by_cases hj : j < x.length
            · have hjS : j < (⟨x.toArray⟩ : ByteArray).size := by rw [hxs]; exact hj
              have HQ1 := Lib.hid (pl_more (byte_in hjS))
              have HQ2 := Lib.hid (ln_more (byte_in hjS))
              obtain ⟨z1, hz1'⟩ : ∃ z1, ((((⟨x.toArray⟩ : ByteArray)[j]'hjS).toNat : Int) != 32) = z1 := ⟨_, rfl⟩
              obtain ⟨z2, hz2'⟩ : ∃ z2, ((((⟨x.toArray⟩ : ByteArray)[j]'hjS).toNat : Int) != 10) = z2 := ⟨_, rfl⟩
              rw [hz1'] at HQ1
              rw [hz2'] at HQ2
              obtain ⟨p, hp⟩ : ∃ p, plB x j = p := ⟨_, rfl⟩
              obtain ⟨q, hq⟩ : ∃ q, lnB x j = q := ⟨_, rfl⟩
              rw [hp] at HQ1 ⊢
              rw [hq] at HQ2 ⊢
              clear hp hq HO HP
              cases p <;> cases q <;> cases z1 <;> cases z2
              all_goals
                go_wp2_with fail
                go_round
                case rel => exact ⟨j + 1, by omega, by go_num, by rw [HQ1.out]; rfl, by rw [HQ2.out]; rfl⟩
                case measure => simp [intOf]; omega
            · have hjj : j = x.length := by omega
              subst hjj
              have HPL : Hid (plB x x.length = true → lnB x x.length = true → Plain x) := Lib.hid plain_of
              obtain ⟨p, hp⟩ : ∃ p, plB x x.length = p := ⟨_, rfl⟩
              obtain ⟨q, hq⟩ : ∃ q, lnB x x.length = q := ⟨_, rfl⟩
              rw [hp, hq] at HPL
              rw [hp, hq]
              clear hp hq hp0 HX0 hne hj
              cases p
              · cases q
                all_goals
                  go_wp2_with fail
                  go_roundw
                  case rel => exact ⟨k + 1, N, D, d, by omega, by omega, by omega, by go_num, rfl, rfl, rfl, HP, HO, hb⟩
                  case measure => simp [intOf]; omega
              · cases q
                · go_wp2_with fail
                  go_roundw
                  case rel => exact ⟨k + 1, N, D, d, by omega, by omega, by omega, by go_num, rfl, rfl, rfl, HP, HO, hb⟩
                  case measure => simp [intOf]; omega
                · have HPx : Hid (∀ y ∈ N ++ [x], Plain y ∧ y.length ≤ 500) := Lib.hid (by
                    intro y hy
                    rcases List.mem_append.1 hy with hy | hy
                    · exact HP.out y hy
                    · rw [List.mem_singleton] at hy
                      subst hy
                      exact ⟨HPL.out rfl rfl, h5⟩)
                  have HS1 := Lib.hid (spread_snoc (g + 1) x N)
                  have HT1 := Lib.hid (lined_snoc x N)
                  have hbs := hb.size
                  have hgg := HG.out
                  clear HPL HP
                  generalize spread (g + 1) N = s1 at hsl2 HS1 ⊢
                  generalize lined N = t1 at htl2 HT1 ⊢
                  go_wp2_with (at_builtin; refine wpList_append_own _ rfl _ _ 29 rfl W.heap.size 9 i0 (.string ByteArray.empty) 1 16 Tryd.underlying29 hi hz0 hz1 hz2 rfl (by decide) _ _ _ rfl (HO.out.below (fresh1 wr (.cells #[sV x] 9))) ⟨_, 0, none⟩ 1 1 [sV x] rfl rfl (cell_new1 _ _ _) (oneS _) (by unfold maxLen; omega) (by omega) (by simp; omega) ?_; intro v' w5 hown' hgrow _; obtain ⟨g', cap', rfl⟩ := ownS_succ hown'; have b5 := HO.out.grown hbs hgrow; have HO5 := Lib.hid hown'; clear hown' hgrow)
                  have hc5 : w5.cell? ⟨bb, off + k, none⟩ = some (sV x) := (b5.cell (p := ⟨bb, off + k, none⟩) hbb).trans hc
                  go_loop [5, 12] (fun sv jv => ∃ (j : Nat) (z : Bs), j ≤ g + 1 ∧ jv = .int .i64 j ∧ sv = sV z ∧ z.length ≤ 20000 + j ∧ Hid (z = s1 ++ spaces j)) (fun _ jv => g + 1 - (intOf jv).toNat)
                  case atStart => exact ⟨0, s1, Nat.zero_le _, rfl, rfl, hsl2, Lib.hid (by simp [spaces])⟩
                  case round =>
                    obtain ⟨j, z, hj, rfl, rfl, hzl, HZ⟩ := hrel
                    by_cases hjg : j ≤ g
                    · have HZ2 : Hid (z ++ [32] = s1 ++ spaces (j + 1)) := Lib.hid (by rw [HZ.out, List.append_assoc]; congr 1; exact (List.replicate_succ' ..).symm)
                      have hap : ({ data := z.toArray } : ByteArray) ++ { data := #[32] } = ⟨(z ++ [32]).toArray⟩ := str_app z [32]
                      go_wp2_with fail
                      go_round
                      case rel => exact ⟨j + 1, z ++ [32], by omega, by go_num, rfl, by simp; omega, HZ2⟩
                      case measure => simp [intOf]; omega
                    · obtain rfl : j = g + 1 := by omega
                      have hap : ({ data := z.toArray } : ByteArray) ++ { data := x.toArray } = ⟨(z ++ x).toArray⟩ := str_app z x
                      have hap2 : ({ data := t1.toArray } : ByteArray) ++ { data := x.toArray } = ⟨(t1 ++ x).toArray⟩ := str_app t1 x
                      have hap3 : ({ data := (t1 ++ x).toArray } : ByteArray) ++ { data := #[10] } = ⟨((t1 ++ x) ++ [10]).toArray⟩ := str_app (t1 ++ x) [10]
                      go_wp2_with fail
                      go_roundw
                      case rel => exact ⟨k + 1, N ++ [x], some ⟨g', 0, none⟩, cap', by omega, by omega, by simp; omega, by go_num, by rw [List.length_append]; rfl, by rw [HS1.out, HZ.out, List.append_assoc], by rw [HT1.out], HPx, Lib.hid (by have := HO5.out; simpa [OwnS] using this), hb.trans b5⟩
                      case measure => simp [intOf]; omega
      · have h5' : (500 : Int) < (x.length : Int) := by omega
        clear HO HP
        go_wp2_with fail
        go_ret
        exact ⟨rfl, hb⟩
    · by_cases hk1 : k < l.length
      · have hk2 : ¬ k < 30 := fun h => hlt ⟨hk1, h⟩
        clear hlt
        have HPs := Lib.hid (split_spread g [] rfl (.inl rfl) N (fun x hx => (HP.out x hx).1))
        have HPm := Lib.hid (split_spread g [32, 35, 32, 109, 111, 114, 101] (by decide) (.inr rfl) N (fun x hx => (HP.out x hx).1))
        have HPl := Lib.hid (lines_lined N (fun x hx => (HP.out x hx).1))
        rw [List.append_nil] at HPs
        have HLN := Lib.hid HO.out.lies
        have HB := Lib.hid hb
        have hM : Hid (MaxIs wr) := Lib.hid (E0.out.max.below hb)
        have hN30 : N.length ≤ 1000000 := by omega
        clear HP HO
        generalize spread (g + 1) N = s1 at hsl2 HPs HPm ⊢
        generalize lined N = t1 at htl2 HPl ⊢
        have ha : ({ data := s1.toArray } : ByteArray) ++ { data := #[32, 35, 32, 109, 111, 114, 101] } = ⟨(s1 ++ [32, 35, 32, 109, 111, 114, 101]).toArray⟩ := str_app s1 [32, 35, 32, 109, 111, 114, 101]
        have HA := Lib.hid ha
        clear ha
        have C1 := Lib.hid (split_any s1 (by omega) wr hM.out)
        rw [HPs.out] at C1
        go_wp2_with fail
        refine C1.out.mono ?_
        rintro e w2 ⟨A2, c2, rfl, h2, b2⟩
        have HL2 := Lib.hid h2.lies
        have HN2 := Lib.hid (HLN.out.below b2)
        have HB2 := Lib.hid (HB.out.trans (b2.mono HB.out.size))
        clear h2 b2 C1
        go_wp2_with fail
        refine (same_any _ _ _ _ N N hN30 _ HL2.out HN2.out).mono ?_
        rw [decide_eq_true rfl]
        rintro e w3 ⟨rfl, b3⟩
        have HN3 := Lib.hid (HN2.out.below b3)
        have HB3 := Lib.hid (HB2.out.trans (b3.mono HB2.out.size))
        clear b3 HL2 HN2 HB2
        have C3 := Lib.hid (lines_any t1 (by omega) w3 (E0.out.max.below HB3.out))
        rw [HPl.out] at C3
        go_wp2_with fail
        refine C3.out.mono ?_
        rintro e w4 ⟨A4, c4, rfl, h4, b4⟩
        have HL4 := Lib.hid h4.lies
        have HN4 := Lib.hid (HN3.out.below b4)
        have HB4 := Lib.hid (HB3.out.trans (b4.mono HB3.out.size))
        clear h4 b4 C3 HN3 HB3
        go_wp2_with fail
        refine (same_any _ _ _ _ N N hN30 _ HL4.out HN4.out).mono ?_
        rw [decide_eq_true rfl]
        rintro e w5 ⟨rfl, b5⟩
        have HN5 := Lib.hid (HN4.out.below b5)
        have HB5 := Lib.hid (HB4.out.trans (b5.mono HB4.out.size))
        clear b5 HL4 HN4 HB4
        have C5 := Lib.hid (split_any (s1 ++ [32, 35, 32, 109, 111, 114, 101]) (by simp; omega) w5 (E0.out.max.below HB5.out))
        rw [HPm.out] at C5
        have ha := HA.out
        go_wp2_with fail
        clear ha
        refine C5.out.mono ?_
        rintro e w6 ⟨A6, c6, rfl, h6, b6⟩
        have HL6 := Lib.hid h6.lies
        have HN6 := Lib.hid (HN5.out.below b6)
        have HB6 := Lib.hid (HB5.out.trans (b6.mono HB5.out.size))
        clear h6 b6 C5 HN5 HB5
        go_wp2_with fail
        refine (same_any _ _ _ _ N N hN30 _ HL6.out HN6.out).mono ?_
        rw [decide_eq_true rfl]
        rintro e w7 ⟨rfl, b7⟩
        have HB7 := Lib.hid (HB6.out.trans (b7.mono HB6.out.size))
        clear b7 HL6 HN6 HB6
        go_wp2_with fail
        go_ret
        exact ⟨rfl, HB7.out⟩
      · clear hlt
        have HPs := Lib.hid (split_spread g [] rfl (.inl rfl) N (fun x hx => (HP.out x hx).1))
        have HPm := Lib.hid (split_spread g [32, 35, 32, 109, 111, 114, 101] (by decide) (.inr rfl) N (fun x hx => (HP.out x hx).1))
        have HPl := Lib.hid (lines_lined N (fun x hx => (HP.out x hx).1))
        rw [List.append_nil] at HPs
        have HLN := Lib.hid HO.out.lies
        have HB := Lib.hid hb
        have hM : Hid (MaxIs wr) := Lib.hid (E0.out.max.below hb)
        have hN30 : N.length ≤ 1000000 := by omega
        clear HP HO
        generalize spread (g + 1) N = s1 at hsl2 HPs HPm ⊢
        generalize lined N = t1 at htl2 HPl ⊢
        have ha : ({ data := s1.toArray } : ByteArray) ++ { data := #[32, 35, 32, 109, 111, 114, 101] } = ⟨(s1 ++ [32, 35, 32, 109, 111, 114, 101]).toArray⟩ := str_app s1 [32, 35, 32, 109, 111, 114, 101]
        have HA := Lib.hid ha
        clear ha
        have C1 := Lib.hid (split_any s1 (by omega) wr hM.out)
        rw [HPs.out] at C1
        go_wp2_with fail
        refine C1.out.mono ?_
        rintro e w2 ⟨A2, c2, rfl, h2, b2⟩
        have HL2 := Lib.hid h2.lies
        have HN2 := Lib.hid (HLN.out.below b2)
        have HB2 := Lib.hid (HB.out.trans (b2.mono HB.out.size))
        clear h2 b2 C1
        go_wp2_with fail
        refine (same_any _ _ _ _ N N hN30 _ HL2.out HN2.out).mono ?_
        rw [decide_eq_true rfl]
        rintro e w3 ⟨rfl, b3⟩
        have HN3 := Lib.hid (HN2.out.below b3)
        have HB3 := Lib.hid (HB2.out.trans (b3.mono HB2.out.size))
        clear b3 HL2 HN2 HB2
        have C3 := Lib.hid (lines_any t1 (by omega) w3 (E0.out.max.below HB3.out))
        rw [HPl.out] at C3
        go_wp2_with fail
        refine C3.out.mono ?_
        rintro e w4 ⟨A4, c4, rfl, h4, b4⟩
        have HL4 := Lib.hid h4.lies
        have HN4 := Lib.hid (HN3.out.below b4)
        have HB4 := Lib.hid (HB3.out.trans (b4.mono HB3.out.size))
        clear h4 b4 C3 HN3 HB3
        go_wp2_with fail
        refine (same_any _ _ _ _ N N hN30 _ HL4.out HN4.out).mono ?_
        rw [decide_eq_true rfl]
        rintro e w5 ⟨rfl, b5⟩
        have HN5 := Lib.hid (HN4.out.below b5)
        have HB5 := Lib.hid (HB4.out.trans (b5.mono HB4.out.size))
        clear b5 HL4 HN4 HB4
        have C5 := Lib.hid (split_any (s1 ++ [32, 35, 32, 109, 111, 114, 101]) (by simp; omega) w5 (E0.out.max.below HB5.out))
        rw [HPm.out] at C5
        have ha := HA.out
        go_wp2_with fail
        clear ha
        refine C5.out.mono ?_
        rintro e w6 ⟨A6, c6, rfl, h6, b6⟩
        have HL6 := Lib.hid h6.lies
        have HN6 := Lib.hid (HN5.out.below b6)
        have HB6 := Lib.hid (HB5.out.trans (b6.mono HB5.out.size))
        clear h6 b6 C5 HN5 HB5
        go_wp2_with fail
        refine (same_any _ _ _ _ N N hN30 _ HL6.out HN6.out).mono ?_
        rw [decide_eq_true rfl]
        rintro e w7 ⟨rfl, b7⟩
        have HB7 := Lib.hid (HB6.out.trans (b7.mono HB6.out.size))
        clear b7 HL6 HN6 HB6
        go_wp2_with fail
        go_ret
        exact ⟨rfl, HB7.out⟩
set_option maxRecDepth 100000 in
theorem told (W : World) (args : Array Value) (hE : Env W) (h : Fed Tryd.prog W [29, 3] args) : Calls Tryd.prog 4 args W fun e W' => e = .returned (.bool true) ∧ Below W.heap.size W W' := by
  obtain ⟨v0, v1, rfl⟩ := args2 h.count
  obtain ⟨⟨_, o0⟩, r0⟩ := h.each 0 29 v0 rfl rfl
  obtain ⟨⟨_, o1⟩, r1⟩ := h.each 1 3 v1 rfl rfl
  obtain ⟨a0, q0⟩ := r0 opens_strs
  obtain ⟨A0, c0, L0, rfl, hL0, -⟩ := top_strs o0 q0
  obtain ⟨a1, q1⟩ := r1 (opens_int Tryd.underlying3)
  obtain ⟨rfl, -⟩ := top_int Tryd.underlying3 o1 q1
  exact walkJ A0 c0 L0 a1 W hE hL0

/-! ### The row and the card -/
set_option maxRecDepth 100000 in
theorem lifted (os : Os) (started : os.Started) (H : Type) (enc : TypeId × Value → H) :
    ReturnsInHanded {} Tryd.checked os 4 .any (fun w args => (Rows.wordsJoinSpec.pre enc Tryd.prog Tryd.f4 Rows.wordsJoinRow.domain false w args ∧ laidMetH Tryd.prog Rows.wordsJoinRow.laid w) ∧ sizedMet enc Tryd.prog Tryd.f4 (OpenSpec.ofChange Rows.wordsJoinSpec) false w args) (Rows.wordsJoinSpec.post enc Tryd.prog Tryd.f4 false true false false) :=
  liftL (ts := [29, 3]) rfl started (by kernel_rfl) Tryd.func4 (by kernel_rfl) (by kernel_rfl) (by kernel_rfl) rfl
    (fun ds h => by
      match ds, h with
      | [_, _], _ => rfl)
    (ChangeSpec.witness_shaped (enc := enc) (C := Tryd.checked) (os := os) (X := fun w _ => laidMetH Tryd.prog laid7 w) false (start os) #[.slice none 0 0, .int .i64 0] 8 (World.laidAll_os _ _ _)
      (World.shaped_of_ZipB (by kernel_rfl) (by kernel_rfl)) (by kernel_rfl) (by kernel_rfl) (by kernel_rfl) (start_met os _)) told

theorem over : Rows.WordsJoinSaid :=
  OpenClaim.holds_of_wide 4 Tryd.f4 rfl rfl rfl rfl rfl rfl rfl ⟨rfl, rfl, rfl, rfl, rfl⟩ rfl rfl rfl rfl rfl (by kernel_rfl) Tryd.func4 (by kernel_rfl)
    (of_decide_eq_true (by kernel_rfl)) (by unfold Func.isWrapper; first | (rw [if_pos (by decide +kernel)]; kernel_rfl) | (rw [if_neg (by decide +kernel)]; exact ⟨rfl, rfl⟩))
    (fun os started H enc _ => lifted os started H enc)

theorem proved : Rows.WordsJoinCardSaid :=
  Claim7.holds_tied_plain_at .later [] [.data, .data, .data, .sentinel, .sentinel] true (true, "d97da756dc9a7339d1fcfcf0344af9df7f8a4f6543b6eaac3464ce5d63d6995c") true
    over (fun _ h => by cases h) (by kernel_rfl) (fun _ h => by cases h) wordsJoin_row_tie rfl ⟨rfl, rfl⟩ (by kernel_rfl) rfl
    (fun f fn hf hfn => by
      obtain rfl : f = 4 := Option.some.inj ((show Tryd.prog.funcNamed "watershed/watershedlaw08.WordsJoin" = some 4 by kernel_rfl).symm.trans hf) |>.symm
      obtain rfl : fn = Tryd.f4 := (Option.some.inj (Tryd.func4.symm.trans hfn)).symm
      exact ⟨by kernel_rfl, fun j t ht => by
        rw [Tryd.params4] at ht
        have hm : t ∈ [29, 3] := by simpa using Array.mem_of_getElem? ht
        have hall : ([29, 3].all fun u => !Tryd.prog.wantsStandIn u) = true := by kernel_rfl
        exact (show Tryd.prog.wantsStandIn t = false by simpa using List.all_eq_true.1 hall t hm)⟩)
    (by kernel_rfl)
#print axioms proved
end Go.Proofs.YtpjlefdigpejdaaDoor.words
