/-
  works of the fenced log's laws is true.
  What holds of a fenced log and its disk, whatever is done to it.
-/
import Derived.Test.YtfpmcomigolacaaGreatDoorJFn5
set_option linter.unusedSimpArgs false
set_option linter.unusedVariables false
namespace Go.Proofs.YtfpmcomigolacaaGreatDoor.fence
open Go.ChangeShapes Go.WideShapes Go.ChangeAt Go.RowKit Go.Maps Go.WideMaps
open Go.Proofs.YtfpmcomigolacaaGreatDoor.opened Go.Proofs.YtfpmcomigolacaaGreatDoor.block Go.Proofs.YtfpmcomigolacaaGreatDoor.words Go.Proofs.YtfpmcomigolacaaGreatDoor.disk Go.Proofs.YtfpmcomigolacaaGreatDoor.tailed Go.Proofs.YtfpmcomigolacaaGreatDoor.enc Go.Proofs.YtfpmcomigolacaaGreatDoor.code Go.Proofs.YtfpmcomigolacaaGreatDoor.wal
set_option maxRecDepth 100000 in
set_option maxHeartbeats 4000000 in
theorem works15_any {w : World} (hw : Env w) : Calls Tryz.prog 21 #[] w fun e w' => e = .returned (.bool true) ∧ Below w.heap.size w w' := by
  obtain ⟨n0, n1, n2, n3⟩ := m1
  obtain ⟨f0, f1, f2, f3⟩ := m2
  obtain ⟨r0, r1, r2, r3⟩ := m3
  obtain ⟨p0, p1, p2, p3⟩ := m4
  have HN := Lib.hid (Go.Proofs.YtfpmcomigolacaaGreatDoor.disk.newB w w.heap.size (Nat.le_refl _))
  have HE := Lib.hid (EnvB.start hw)
  have hX := opn_new (nm := [103]) (per := 4) (by decide) (by decide) (by decide) (by decide)
  have HOX := Lib.hid hX
  clear hw hX
  have hk := kp_new (nm := [103]) 4 (by decide)
  have HKg := Lib.hid hk.good
  clear hk
  go_enter Tryz.func21, Tryz.ntmps21
  have HO : Hid (∀ w1, DiskB w1 w.heap.size (w.heap.size + 1) K0 → Below w.heap.size w w1 → Calls Tryz.prog 22 #[.pointer (some ⟨w.heap.size + 1, 0, none⟩), sV [103], .int .i64 4] w1 fun e w' => ∃ gl gf, e = .returned (.tuple #[.pointer (some ⟨gf, 0, none⟩), .int .i64 0]) ∧ FSt w.heap.size (w.heap.size + 1) gl gf (lg0 [103] 4) K0 0 w' ∧ Below w.heap.size w w') := Lib.hid fun w1 d b =>
    (fopen_any d (HE.out.step b) good_new (by rw [f0]; decide) [103] (by decide) 4 HOX.out rfl HKg.out good_new (by rw [n0]; decide) (fun _ h => by cases h) (T := 0) rfl).mono fun e w' ⟨gl, gf, h1, h2, h3, h4⟩ => ⟨gl, gf, h1, h2, b.trans h4⟩
  go_upto_region 2 with (first
    | (go_at_call 8; refine HN.out.mono ?_; rintro e w1 ⟨rfl, d1, b1⟩; have DK1 := Lib.hid d1; have B1 := Lib.hid b1; clear d1 b1)
    | (go_at_call 22; (with_reducible refine (HO.out _ DK1.out B1.out).mono ?_); rintro e w2 ⟨gl, gf, rfl, s2, b2⟩; have S2 := Lib.hid s2; have B2 := Lib.hid b2; clear s2 b2))
  clear HO HN DK1 B1 HOX HKg
  generalize w.heap.size + 1 = gd at *
  have C1 := Lib.hid (claim_any S2.out (by rw [p0]; decide) (by rw [n0]; decide) (by rw [r0]; decide) (by rw [f0]; decide) (fun _ => rfl) 1)
  rw [s1.1, s1.2.1, s1.2.2] at C1
  go_upto_region 5 with (go_at_call 25; refine C1.out.mono ?_; rintro e w3 ⟨rfl, s3, b3⟩; have S3 : Hid (FSt w.heap.size gd gl gf L1 D1 1 w3) := Lib.hid s3; have B3 := Lib.hid (B2.out.trans b3.below); clear s3 b3)
  have C2 := Lib.hid (fappend_any S3.out (by rw [p1]; decide) (by rw [n1]; decide) (by rw [r1]; decide) (by rw [f1]; decide) b1 1 [97] (by decide))
  rw [s2.1, s2.2] at C2
  go_upto_region 6 with (go_at_call 26; refine C2.out.mono ?_; rintro e w4 ⟨rfl, s4, b4⟩; have S4 : Hid (FSt w.heap.size gd gl gf L2 D2 1 w4) := Lib.hid s4; have B4 := Lib.hid (B3.out.trans b4.below); clear s4 b4)
  have C3 := Lib.hid (claim_any S4.out (by rw [p2]; decide) (by rw [n2]; decide) (by rw [r2]; decide) (by rw [f2]; decide) b2 3)
  rw [s3.1, s3.2.1, s3.2.2] at C3
  go_upto_region 7 with (go_at_call 25; refine C3.out.mono ?_; rintro e w5 ⟨rfl, s5, b5⟩; have S5 : Hid (FSt w.heap.size gd gl gf L3 D3 3 w5) := Lib.hid s5; have B5 := Lib.hid (B4.out.trans b5.below); clear s5 b5)
  have C4 := Lib.hid (fappend_any S5.out (by rw [p3]; decide) (by rw [n3]; decide) (by rw [r3]; decide) (by rw [f3]; decide) b3 1 [98] (by decide))
  rw [s4.1, s4.2, s4L.1, s4L.2] at C4
  go_upto_region 8 with (go_at_call 26; refine C4.out.mono ?_; rintro e w6 ⟨rfl, s6, b6⟩; have S6 := Lib.hid s6; have B6 := Lib.hid (B5.out.trans b6.below); clear s6 b6)
  have C5 := Lib.hid (fappend_any S6.out (by rw [p3]; decide) (by rw [n3]; decide) (by rw [r3]; decide) (by rw [f3]; decide) b3 4 [98] (by decide))
  rw [s5.1, s5.2, s5L.1, s5L.2] at C5
  go_upto_region 9 with (go_at_call 26; refine C5.out.mono ?_; rintro e w7 ⟨rfl, s7, b7⟩; have S7 := Lib.hid s7; have B7 := Lib.hid (B6.out.trans b7.below); clear s7 b7)
  have C6 := Lib.hid (claim_any S7.out (by rw [p3]; decide) (by rw [n3]; decide) (by rw [r3]; decide) (by rw [f3]; decide) b3 2)
  rw [s6.1, s6.2, s6L.1, s6L.2.1, s6L.2.2] at C6
  go_upto_region 10 with (go_at_call 25; refine C6.out.mono ?_; rintro e w8 ⟨rfl, s8, b8⟩; have S8 := Lib.hid s8; have B8 := Lib.hid (B7.out.trans b8.below); clear s8 b8)
  have C7 := Lib.hid (fGet_any S8.out.fl S8.out.st.good (by rw [n3]; decide) (fun r hr => by have := List.all_eq_true.1 m5 r hr; simpa using this) 1 (by decide) (by decide))
  obtain ⟨g0, g1, g2, g3⟩ := s7
  generalize fgV L3 1 = en at C7 g1 g2 g3
  obtain ⟨ent, enc, ens⟩ := en
  dsimp only at g1 g2 g3
  subst g1 g2 g3
  rw [g0] at C7
  clear C1 C2 C3 C4 C5 C6 S2 S3 S4 S5 S6 S7 B2 B3 B4 B5 B6 B7
  go_upto_region 11 with (go_at_call 30; refine C7.out.mono ?_; rintro e w9 ⟨rfl, b9⟩; have S9 := Lib.hid (S8.out.below b9); have B9 := Lib.hid (then_below B8.out b9); clear b9)
  change Code.wp _ _ _ _ (w9.alloc (.cells (En.cells ⟨1, false, [97]⟩) 57))
  have hal := fresh1' w9 (.cells (En.cells ⟨1, false, [97]⟩) 57)
  have S10 := Lib.hid (S9.out.below hal)
  have B10 := Lib.hid (then_below B9.out hal)
  have E10 := Lib.hid (Whole.fresh w9 57 (En.cells ⟨1, false, [97]⟩))
  clear hal C7 S8 B8 g0
  generalize w9.alloc (.cells (En.cells ⟨1, false, [97]⟩) 57) = W at S10 B10 E10 ⊢
  generalize w9.heap.size = ge at E10 ⊢
  have q0 : W.cell? ⟨ge, 0, none⟩ = some (.int .i64 1) := E10.out.read 0
  have q1 : W.cell? ⟨ge, 1, none⟩ = some (.bool false) := E10.out.read 1
  have q2 : W.cell? ⟨ge, 2, none⟩ = some (sV [97]) := E10.out.read 2
  have heq : ∀ w1, (binOp .eql 57 (.agg #[.int .i64 1, .bool false, .string ⟨#[97]⟩]) (.agg #[.int .i64 1, .bool false, .string ⟨#[97]⟩])).run Tryz.prog w1 = .ok (.bool true) w1 := fun w1 => eqE 1 false ⟨#[97]⟩ w1
  have HTm := Lib.hid (fTerm_any S10.out.fl)
  have HS1 : Hid (∀ w1, FSt w.heap.size gd gl gf L3 D3 3 w1 → Calls Tryz.prog 44 #[.pointer (some ⟨gf, 0, none⟩), .int .i64 1] w1 fun e w' => e = .returned (.int .i64 13) ∧ FSt w.heap.size gd gl gf L3 D3 3 w' ∧ BO w.heap.size w1 w') := Lib.hid fun w1 h => by
    have := fsync_any h (by rw [n3]; decide) (by rw [f3]; decide) 1
    rwa [s8.1, s8L.1, s8L.2] at this
  have HS3 : Hid (∀ w1, FSt w.heap.size gd gl gf L3 D3 3 w1 → Calls Tryz.prog 44 #[.pointer (some ⟨gf, 0, none⟩), .int .i64 3] w1 fun e w' => e = .returned (.int .i64 0) ∧ FSt w.heap.size gd gl gf L4 D4 3 w' ∧ BO w.heap.size w1 w') := Lib.hid fun w1 h => by
    have := fsync_any h (by rw [n3]; decide) (by rw [f3]; decide) 3
    rwa [s8.2] at this
  have HSn : Hid (∀ w1, FSt w.heap.size gd gl gf L4 D4 3 w1 → Calls Tryz.prog 28 #[.pointer (some ⟨gf, 0, none⟩)] w1 fun e w' => e = .returned (.int .i64 3) ∧ Below w1.heap.size w1 w') := Lib.hid fun w1 h => by
    have := fSynced_any h.fl
    rwa [s9] at this
  clear E10 S9 B9 HE n0 n1 n2 n3 f0 f1 f2 f3 r0 r1 r2 r3 p0 p1 p2 p3
  go_wp2_with (first
    | (go_at_call 24; (with_reducible refine HTm.out.mono ?_); rintro e w11 ⟨rfl, b⟩; have S11 := Lib.hid (S10.out.below b); have B11 := Lib.hid (then_below B10.out b); clear b)
    | (go_at_call 44; (with_reducible refine (HS1.out _ S11.out).mono ?_); rintro e w12 ⟨rfl, s12, b⟩; have S12 := Lib.hid s12; have B12 := Lib.hid (B11.out.trans b.below); clear b s12)
    | (go_at_call 44; (with_reducible refine (HS3.out _ S12.out).mono ?_); rintro e w13 ⟨rfl, s13, b⟩; have S13 := Lib.hid s13; have B13 := Lib.hid (B12.out.trans b.below); clear b s13)
    | (go_at_call 28; (with_reducible refine (HSn.out _ S13.out).mono ?_); rintro e w14 ⟨rfl, b⟩; have B14 := Lib.hid (then_below B13.out b); clear b))
  go_ret
  exact ⟨rfl, B14.out⟩
end Go.Proofs.YtfpmcomigolacaaGreatDoor.fence
set_option linter.unusedSimpArgs false
set_option linter.unusedVariables false
namespace Go.Proofs.YtfpmcomigolacaaGreatDoor.fence
open Go.ChangeShapes Go.WideShapes Go.ChangeAt Go.RowKit Go.Maps Go.WideMaps
open Go.Proofs.YtfpmcomigolacaaGreatDoor.opened Go.Proofs.YtfpmcomigolacaaGreatDoor.block Go.Proofs.YtfpmcomigolacaaGreatDoor.words Go.Proofs.YtfpmcomigolacaaGreatDoor.disk Go.Proofs.YtfpmcomigolacaaGreatDoor.tailed Go.Proofs.YtfpmcomigolacaaGreatDoor.enc Go.Proofs.YtfpmcomigolacaaGreatDoor.code Go.Proofs.YtfpmcomigolacaaGreatDoor.wal

theorem fol_le {e : En} {t : Int} (h : folB e t = true) : t ≤ e.t := by
  unfold folB at h
  split at h
  · have := of_decide_eq_true h; omega
  · exact of_decide_eq_true h
theorem folV_mono : ∀ {l : List Bs} {t u : Int}, folV t l = some u → t ≤ u
  | [], t, u, h => by cases h; exact Int.le_refl _
  | b :: r, t, u, h => by
    unfold folV at h
    split at h
    · rename_i hc
      have h1 := fol_le hc.2
      have h2 := folV_mono h
      omega
    · cases h
theorem folV_pre {l m : List Bs} {t u : Int} (h : folV t (l ++ m) = some u) : ∃ x, folV t l = some x ∧ x ≤ u := by
  rw [folV_app] at h
  cases hx : folV t l with
  | none => rw [hx] at h; cases h
  | some x =>
    rw [hx] at h
    exact ⟨x, rfl, folV_mono h⟩
theorem clR_good {t : Int} (h : isTermB t = true) : isEnB ⟨t, true, []⟩ = true := by
  unfold isEnB
  rw [show (En.mk t true []).t = t from rfl, h]
  rfl
theorem folV_cl {T t : Int} (h : isTermB t = true) (hT : T < t) : folV T [clR t] = some t := by
  have hd := dec_encE (clR_good h)
  show (if (decV (clR t)).2 = true ∧ folB (decV (clR t)).1 T = true then folV (decV (clR t)).1.t [] else none) = _
  unfold clR
  rw [hd, if_pos ⟨rfl, by show (if true = true then decide (T < t) else _) = true; rw [if_pos rfl]; exact decide_eq_true hT⟩]
  rfl
theorem faR_good {t : Int} {s : Bs} (h : isTermB t = true) (hs : s.length ≤ 4000) : isEnB ⟨t, false, s⟩ = true := by
  unfold isEnB
  rw [show (En.mk t false s).t = t from rfl, h, Bool.true_and]
  refine decide_eq_true ?_
  show (s.length : Int) ≤ mostN false
  unfold mostN
  rw [if_neg (by decide)]
  omega
theorem folV_fa {T : Int} {s : Bs} (h : isTermB T = true) (hs : s.length ≤ 4000) : folV T [faR T s] = some T := by
  have hd := dec_encE (faR_good h hs)
  show (if (decV (faR T s)).2 = true ∧ folB (decV (faR T s)).1 T = true then folV (decV (faR T s)).1.t [] else none) = _
  unfold faR
  rw [hd, if_pos ⟨rfl, by show (if false = true then _ else decide (T ≤ T)) = true; rw [if_neg (by decide)]; exact decide_eq_true (Int.le_refl _)⟩]
  rfl
theorem go_iff {T t : Int} : clGo T t = true ↔ isTermB t = true ∧ T < t := by
  unfold clGo
  rw [Bool.and_eq_true, decide_eq_true_iff]
theorem fa_iff {T t : Int} {s : Bs} : faGo T t s = true ↔ (isTermB t = true ∧ t = T) ∧ s.length ≤ 4000 := by
  unfold faGo
  rw [Bool.and_eq_true, decide_eq_true_iff, decide_eq_true_iff]
  refine and_congr ?_ Iff.rfl
  unfold chkT
  constructor
  · intro h
    split at h
    · rename_i hb
      split at h
      · cases h
      · split at h
        · cases h
        · exact ⟨hb, by omega⟩
    · cases h
  · rintro ⟨h1, h2⟩
    rw [if_pos h1, if_neg (by omega), if_neg (by omega)]
structure Fs (P : Int) (i : Nat) (L : Lg) (D : Dk) (T : Int) : Prop where
  a : Kp [103] P i L
  z : Sz (2 * i) D
  inv : ∃ fs, Inv L D fs
  fol : folV 0 L.recs = some T
theorem Fs.t0 {P : Int} {i : Nat} {L : Lg} {D : Dk} {T : Int} (h : Fs P i L D T) : 0 ≤ T := folV_mono h.fol
theorem Fs.short {P : Int} {i : Nat} {L : Lg} {D : Dk} {T : Int} (h : Fs P i L D T) : ∀ r ∈ L.recs, r.length ≤ 4096 := fun r hr => by
  obtain ⟨fs, hi⟩ := h.inv
  rw [hi.recs] at hr
  unfold recsOf at hr
  obtain ⟨g, hg, hrg⟩ := List.mem_flatten.1 hr
  obtain ⟨f, hf, rfl⟩ := List.mem_map.1 hg
  exact (hi.short f hf).1 r hrg
theorem Fs.more {P : Int} {i j : Nat} {L : Lg} {D : Dk} {T : Int} (h : Fs P i L D T) (hij : i ≤ j) : Fs P j L D T := ⟨h.a.more hij, h.z.more (by omega), h.inv, h.fol⟩
theorem Fs.claim {P : Int} {i : Nat} {L : Lg} {D : Dk} {T : Int} (h : Fs P i L D T) (t : Int) : Fs P (i + 1) (clL L D T t) (clD L D T t) (clT L D T t) := by
  unfold clL clD clT
  by_cases hg : clGo T t = true
  · obtain ⟨g1, g2⟩ := go_iff.1 hg
    rw [if_pos hg, if_pos hg, if_pos hg]
    have hk := h.a.app D (clR t)
    have hz := ap_sz (L := L) h.z (clR t)
    have hi : ∃ fs, Inv (apL L D (clR t)) (apD L D (clR t)) fs := by
      obtain ⟨fs, hi⟩ := h.inv
      exact hi.app h.a.good h.z.gd h.a.bare _
    have hf := (ap_fields L D (clR t)).2.2.2.2
    by_cases ha : apE L D (clR t) ≠ 0
    · rw [if_pos ha, if_pos ha, if_pos ha]
      rw [if_neg ha] at hf
      exact ⟨hk, hz.more (by omega), hi, by rw [hf]; exact h.fol⟩
    · rw [if_neg ha, if_neg ha, if_neg ha]
      rw [if_pos (by simpa using ha)] at hf
      obtain ⟨s1, s2, s3, s4, s5, s6⟩ := sy_fields (apL L D (clR t)) (apD L D (clR t))
      refine ⟨hk.sync _, (sy_sz hz).more (by omega), ?_, ?_⟩
      · obtain ⟨fs, hi⟩ := hi
        exact ⟨fs, (hi.sync hk.good hz.gd).1⟩
      · rw [s5, hf, folV_app, h.fol]
        exact folV_cl g1 g2
  · rw [if_neg hg, if_neg hg, if_neg hg]
    exact h.more (Nat.le_succ _)
theorem cl_ok {L : Lg} {D : Dk} {T t : Int} (h : clE L D T t = 0) : clT L D T t = t ∧ T < t ∧ isTermB t = true ∧ apE L D (clR t) = 0 ∧ syE (apL L D (clR t)) (apD L D (clR t)) = 0 := by
  unfold clE at h
  split at h
  · rename_i hb
    split at h
    · cases h
    · rename_i hlt
      split at h
      · rename_i ha
        exact absurd h ha
      · rename_i ha
        refine ⟨?_, by omega, hb, by simpa using ha, h⟩
        unfold clT
        rw [if_pos (go_iff.2 ⟨hb, by omega⟩), if_neg ha]
  · cases h
theorem cl_le (L : Lg) (D : Dk) (T t : Int) : T ≤ clT L D T t := by
  unfold clT
  split
  · rename_i hg
    have := (go_iff.1 hg).2
    split <;> omega
  · exact Int.le_refl _
theorem Fs.append {P : Int} {i : Nat} {L : Lg} {D : Dk} {T : Int} (h : Fs P i L D T) (t : Int) (s : Bs) : Fs P (i + 1) (faL L D T t s) (faD L D T t s) T := by
  unfold faL faD
  by_cases hg : faGo T t s = true
  · obtain ⟨⟨g1, g2⟩, g3⟩ := fa_iff.1 hg
    subst g2
    rw [if_pos hg, if_pos hg]
    have hf := (ap_fields L D (faR t s)).2.2.2.2
    refine ⟨h.a.app D _, (ap_sz h.z _).more (by omega), ?_, ?_⟩
    · obtain ⟨fs, hi⟩ := h.inv
      exact hi.app h.a.good h.z.gd h.a.bare _
    · rw [hf]
      split
      · rw [folV_app, h.fol]
        exact folV_fa g1 g3
      · exact h.fol
  · rw [if_neg hg, if_neg hg]
    exact h.more (Nat.le_succ _)
theorem fa_ok {L : Lg} {D : Dk} {T t : Int} {s : Bs} (h : faE L D T t s = 0) : t = T := by
  unfold faE at h
  split at h
  · rename_i hc
    exact absurd h hc
  · rename_i hc
    have hc0 : chkT T t = 0 := by simpa using hc
    unfold chkT at hc0
    split at hc0
    · split at hc0
      · cases hc0
      · split at hc0
        · cases hc0
        · omega
    · cases hc0
theorem Fs.arm {P : Int} {i : Nat} {L : Lg} {D : Dk} {T : Int} (h : Fs P i L D T) {n : Int} (h0 : -9223372036854775808 ≤ n) (h1 : n ≤ 9223372036854775807) : Fs P i L (armV D n) T :=
  ⟨h.a, arm_sz h.z h0 h1, by
    obtain ⟨fs, hi⟩ := h.inv
    exact ⟨fs, hi.disk h.a.good fun _ _ _ => rfl⟩, h.fol⟩
/-- Behind a failing of the power it is opened anew. -/
theorem Fs.anew {P : Int} (hP : 1 ≤ P ∧ P ≤ 64) {i : Nat} (hi : i ≤ 1000) {L : Lg} {D : Dk} {T : Int} (h : Fs P i L D T) (keep : List Int) :
    ∃ X T2, opnV (mendV D keep) [103] P (srtI (numsU [103] (mendV D keep).F)) = X ∧ X.1 = 0 ∧ GoodL X.2.1 ∧ GoodD X.2.2 ∧ Run X.2.1 X.2.2 ∧ Fs P (i + 1) X.2.1 X.2.2 T2 ∧ T2 ≤ T ∧ L.syn ≤ nextN X.2.1 ∧ nextN X.2.1 ≤ nextN L ∧ (∃ t, L.recs = X.2.1.recs ++ t) ∧ (X.2.1.heads ≠ [] → baseN X.2.1 = baseN L) := by
  obtain ⟨fs, hinv⟩ := h.inv
  have hn := h.a.next
  have hm := mend_sz h.z keep
  have HX := wal.anew hinv h.a.good (by omega) (cut_mend h.z.gd keep) hm.gd (by rw [h.a.nm]; decide) (by rw [h.a.nm]; decide) (by rw [h.a.per]; exact hP)
  rw [h.a.nm, h.a.per] at HX
  obtain ⟨gs, X, hX, hA⟩ := HX
  obtain ⟨t, ht⟩ := hA.pre
  have hf := h.fol
  rw [ht] at hf
  obtain ⟨T2, hT2, hle⟩ := folV_pre hf
  have h1 := hA.upto
  have h2 := hA.next
  have h3 := hA.used
  have h4 := hA.files
  have h5 := h.a.files
  have h6 := hm.used
  have h7 := hm.len
  refine ⟨X, T2, hX, hA.ok, hA.run.good, hA.run.gd, hA.run, ⟨⟨hA.run.good, hA.run.bare, hA.nm.trans h.a.nm, hA.per.trans h.a.per, by push_cast; omega, by push_cast; omega⟩, ⟨hA.run.gd, by omega, by omega⟩, ⟨gs, hA.inv⟩, hT2⟩, hle, hA.lasts, h1, ⟨t, ht⟩, hA.base⟩
theorem Fs.bounds {P : Int} {i : Nat} {L : Lg} {D : Dk} {T : Int} (h : Fs P i L D T) (hi : i ≤ 100) : L.per = P ∧ nextN L ≤ 100 ∧ L.recs.length ≤ 100 ∧ D.F.length ≤ 400 := by
  have h1 := h.a.next
  have h2 := h.a.recs
  have h3 := h.z.len
  exact ⟨h.a.per, by omega, by omega, by omega⟩
end Go.Proofs.YtfpmcomigolacaaGreatDoor.fence
