/-
  Claims that are answered last: mathematics.
  The walk of FenceClaims.
-/
import Derived.Test.YtfpmcomigolacaaGreatDoorJFv1
import Derived.Test.YtfpmcomigolacaaGreatDoorJUy3
set_option linter.unusedSimpArgs false
set_option linter.unusedVariables false
namespace Go.Proofs.YtfpmcomigolacaaGreatDoor.fence
open Go.ChangeShapes Go.WideShapes Go.ChangeAt Go.RowKit Go.Maps Go.WideMaps
open Go.Proofs.YtfpmcomigolacaaGreatDoor.opened Go.Proofs.YtfpmcomigolacaaGreatDoor.block Go.Proofs.YtfpmcomigolacaaGreatDoor.words Go.Proofs.YtfpmcomigolacaaGreatDoor.disk Go.Proofs.YtfpmcomigolacaaGreatDoor.tailed Go.Proofs.YtfpmcomigolacaaGreatDoor.enc Go.Proofs.YtfpmcomigolacaaGreatDoor.code Go.Proofs.YtfpmcomigolacaaGreatDoor.wal
theorem ap_syn {L : Lg} {D : Dk} {s : Bs} (h : apE L D s = 0) : (apL L D s).syn = L.syn ∨ (apL L D s).syn = nextN L := by
  obtain ⟨-, -, h3, h4, -⟩ := ap_ok h
  rw [h4]
  show (wrL L D s).syn = _ ∨ (wrL L D s).syn = _
  unfold wrE at h3
  unfold wrL
  by_cases hc : closedB L = true
  · rw [if_pos hc] at h3 ⊢
    obtain ⟨-, b2, -, b4, -⟩ := bg_ok h3
    rw [b4]
    obtain ⟨-, -, z3, -⟩ := sy_zero b2
    right
    show (syL L D).syn = _
    rw [z3]
  · rw [if_neg hc]
    exact .inl rfl
structure Fc (i : Nat) (L : Lg) (D : Dk) (T : Int) : Prop where
  fs : Fs 3 (2 * i) L D T
  run : Run L D
  usd : used D.F ≤ i * 4100
  last : folV 0 (L.recs.take (L.syn - baseN L).toNat) = some T
  syn : L.syn ≤ nextN L
set_option maxRecDepth 100000 in
/-- A claim that is not let in. -/
theorem Fc.no {i : Nat} {L : Lg} {D : Dk} {T : Int} (h : Fc i L D T) {t : Int} (hn : ¬ (T < t ∧ t ≤ 1073741824)) : clE L D T t ≠ 0 ∧ clL L D T t = L ∧ clD L D T t = D ∧ clT L D T t = T := by
  have h0 := h.fs.t0
  have hg : ¬ clGo T t = true := fun hg => by
    obtain ⟨g1, g2⟩ := go_iff.1 hg
    have := (term_iff t).1 g1
    omega
  refine ⟨fun he => hn ?_, ?_, ?_, ?_⟩
  · obtain ⟨-, e2, e3, -⟩ := cl_ok he
    exact ⟨e2, ((term_iff t).1 e3).2⟩
  · unfold clL; rw [if_neg hg]
  · unfold clD; rw [if_neg hg]
  · unfold clT; rw [if_neg hg]
set_option maxRecDepth 100000 in
theorem Fc.claim {i : Nat} (hi : i < 20) {L : Lg} {D : Dk} {T : Int} (h : Fc i L D T) {t : Int} (h1 : T < t) (h2 : t ≤ 1073741824) :
    clE L D T t = 0 ∧ clT L D T t = t ∧ isTermB t = true ∧ Fs 3 (2 * i + 1) (clL L D T t) (clD L D T t) t ∧ Run (clL L D T t) (clD L D T t) ∧ used (clD L D T t).F ≤ i * 4100 + 48 ∧ (clL L D T t).syn = nextN (clL L D T t) := by
  have h0 := h.fs.t0
  have hb : isTermB t = true := (term_iff t).2 ⟨by omega, h2⟩
  have hgo : clGo T t = true := go_iff.2 ⟨hb, h1⟩
  have hlen := clR_len t
  have hfil := h.fs.a.files
  have hus := h.usd
  obtain ⟨a1, a2, a3, -⟩ := h.run.app (s := clR t) (by omega) (by push_cast at hfil; omega) (by omega)
  obtain ⟨s1, s2, s3, s4⟩ := a2.sy
  have hE : clE L D T t = 0 := by
    unfold clE
    rw [if_pos hb, if_neg (by omega), if_neg (by rw [a1]; simp), s1]
  have hT := (cl_ok hE).1
  have hL : clL L D T t = syL (apL L D (clR t)) (apD L D (clR t)) := by unfold clL; rw [if_pos hgo, if_neg (by rw [a1]; simp)]
  have hD : clD L D T t = syD (apL L D (clR t)) (apD L D (clR t)) := by unfold clD; rw [if_pos hgo, if_neg (by rw [a1]; simp)]
  have hfs := h.fs.claim t
  rw [hT] at hfs
  refine ⟨hE, hT, hb, hfs, by rw [hL, hD]; exact s2, by rw [hD, s3]; omega, ?_⟩
  rw [hL, (sy_next _ _).1, s4]
set_option maxRecDepth 100000 in
theorem Fc.append {i : Nat} (hi : i < 20) {L : Lg} {D : Dk} {T : Int} (hf : Fs 3 (2 * i + 1) L D T) (hr : Run L D) (hu : used D.F ≤ i * 4100 + 48) (hsy : L.syn = nextN L) (hb : isTermB T = true) {s : Bs} (hs : s.length ≤ 4000) :
    Fc (i + 1) (faL L D T T s) (faD L D T T s) T := by
  have hgo : faGo T T s = true := fa_iff.2 ⟨⟨hb, rfl⟩, hs⟩
  have hlen : (faR T s).length ≤ 10 + s.length := encE_len ⟨T, false, s⟩
  have hfil := hf.a.files
  obtain ⟨a1, a2, a3, a4, a5, -⟩ := hr.app (s := faR T s) (by omega) (by push_cast at hfil; omega) (by omega)
  have hfs := hf.append T s
  unfold faL faD at hfs ⊢
  rw [if_pos hgo, if_pos hgo] at hfs ⊢
  have hbn := (ap_next (D := D) hr.bare (faR T s))
  rw [a1, if_pos rfl] at hbn
  obtain ⟨n1, n2, n3, n4⟩ := hbn
  have hnL : nextN L = baseN L + (L.recs.length : Int) := rfl
  have hbs := hr.good.base
  refine ⟨⟨hfs.a.more (by omega), hfs.z.more (by omega), hfs.inv, hfs.fol⟩, a2, by omega, ?_, ?_⟩
  · rw [n1, a5]
    have hk : ((apL L D (faR T s)).syn - baseN L).toNat = L.recs.length := by
      rcases ap_syn a1 with e | e
      · rw [e, hsy, hnL]; omega
      · rw [e, hnL]; omega
    rw [hk, List.take_left']
    · exact hf.fol
    · rfl
  · rw [n2]
    rcases ap_syn a1 with e | e <;> rw [e] <;> omega
set_option maxRecDepth 100000 in
theorem Fc.more {i j : Nat} {L : Lg} {D : Dk} {T : Int} (h : Fc i L D T) (hij : i ≤ j) : Fc j L D T := ⟨h.fs.more (by omega), h.run, by have := h.usd; have := Nat.mul_le_mul_right 4100 hij; omega, h.last, h.syn⟩
/-- What is opened anew has the term. -/
theorem Fc.term {i : Nat} {L M : Lg} {D D2 : Dk} {T T2 : Int} (h : Fc i L D T) (hr : Run M D2) (hf : folV 0 M.recs = some T2) (hle : T2 ≤ T) (hsn : L.syn ≤ nextN M) (hpre : ∃ t, L.recs = M.recs ++ t) (hbase : M.heads ≠ [] → baseN M = baseN L) : T2 = T := by
  have hl := h.last
  have hb0 := h.run.good.base
  by_cases hz : M.heads = []
  · have hrc := hr.bare hz
    have hnm : nextN M = 0 := by unfold nextN baseN; rw [hz, hrc]; rfl
    have hk : (L.syn - baseN L).toNat = 0 := by omega
    rw [hk, List.take_zero] at hl
    rw [hrc] at hf
    have e1 : (0 : Int) = T := Option.some.inj hl
    have e2 : (0 : Int) = T2 := Option.some.inj hf
    omega
  · obtain ⟨t, ht⟩ := hpre
    have hbm := hbase hz
    have hnm : nextN M = baseN M + (M.recs.length : Int) := rfl
    have hk : (L.syn - baseN L).toNat ≤ M.recs.length := by omega
    rw [ht, List.take_append_of_le_length hk] at hl
    rw [← List.take_append_drop (L.syn - baseN L).toNat M.recs, folV_app, hl] at hf
    have := folV_mono hf
    omega
theorem fc_new : Fc 0 (lg0 [103] 3) K0 0 := by
  have hk := kp_new (nm := [103]) 3 (by decide)
  refine ⟨⟨hk, sz_new, ⟨_, inv_new [103] 3⟩, rfl⟩, ⟨hk.good, good_new, hk.bare, ⟨rfl, rfl⟩, rfl, fun k k0 k1 => name_fn (by decide) (by decide) k0 k1, fun k k0 k1 => ?_⟩, Nat.le_refl _, rfl, Int.le_refl _⟩
  exfalso
  have h1 : (1 : Int) ≤ k := k0
  have h2 : k < 1 + ((0 : Nat) : Int) := k1
  omega
end Go.Proofs.YtfpmcomigolacaaGreatDoor.fence
set_option linter.unusedSimpArgs false
set_option linter.unusedVariables false
namespace Go.Proofs.YtfpmcomigolacaaGreatDoor.fence
open Go.ChangeShapes Go.WideShapes Go.ChangeAt Go.RowKit Go.Maps Go.WideMaps
open Go.Proofs.YtfpmcomigolacaaGreatDoor.opened Go.Proofs.YtfpmcomigolacaaGreatDoor.block Go.Proofs.YtfpmcomigolacaaGreatDoor.words Go.Proofs.YtfpmcomigolacaaGreatDoor.disk Go.Proofs.YtfpmcomigolacaaGreatDoor.tailed Go.Proofs.YtfpmcomigolacaaGreatDoor.enc Go.Proofs.YtfpmcomigolacaaGreatDoor.code Go.Proofs.YtfpmcomigolacaaGreatDoor.wal
section
variable {w : World}
set_option maxRecDepth 100000 in
set_option maxHeartbeats 16000000 in
theorem walkClaims (A : Option Addr) (c : Nat) (l : List Int) (s : Bs) (K : Option Addr) (kc : Nat) (keep : List Int) (hl : l.length ≤ 4611686018427387903) (hw : Env w) (hL : Lies w A (l.map (Value.int .i64))) (hli : ∀ x ∈ l, IntIn x) (hki : ∀ x ∈ keep, IntIn x) (hkl : keep.length ≤ 140737488351232) (hK : Lies w K (keep.map (Value.int .i64))) :
    Calls Tryz.prog 6 #[.slice A l.length c, sV s, .slice K keep.length kc] w fun e w' => e = .returned (.bool true) ∧ Below w.heap.size w w' := by
  have HW := Lib.hid (works15_any hw)
  have HE := Lib.hid (EnvB.start hw)
  have HL := Lib.hid hL
  have HKL := Lib.hid hK
  have HKI := Lib.hid hki
  have HLI := Lib.hid hli
  clear hL hw hK hki hli
  go_enter Tryz.func6, Tryz.ntmps6
  go_upto_region 3 with (go_at_call 21; refine HW.out.mono ?_; rintro e w1 ⟨rfl, b1⟩; have B1 := Lib.hid b1; clear b1)
  by_cases hs : 4000 < s.length
  · have hsi : (4000 : Int) < (s.length : Int) := by omega
    go_wp2_with fail
    go_ret
    exact ⟨rfl, B1.out⟩
  have hsi : ¬ (4000 : Int) < (s.length : Int) := by omega
  by_cases hk100 : 100 < keep.length
  · have hk100i : (100 : Int) < (keep.length : Int) := by omega
    go_wp2_with fail
    go_ret
    exact ⟨rfl, B1.out⟩
  have hk100i : ¬ (100 : Int) < (keep.length : Int) := by omega
  go_upto_region 5 with fail
  clear hk100i hsi
  have hpP : (1 : Int) ≤ 3 ∧ (3 : Int) ≤ 64 := by decide
  have HOp := Lib.hid (opn_new (nm := [103]) (per := 3) (by decide) (by decide) (by decide) hpP)
  have HF0 : Hid (Fc 0 (lg0 [103] 3) K0 0) := Lib.hid fc_new
  have HN := Lib.hid (Go.Proofs.YtfpmcomigolacaaGreatDoor.disk.newB w1 w.heap.size B1.out.size)
  go_upto_region 6 with (go_at_call 8; refine HN.out.mono ?_; rintro e w2 ⟨rfl, d2, b2⟩; have DK2 := Lib.hid d2; have B2 := Lib.hid (B1.out.trans b2); clear d2 b2)
  generalize w1.heap.size + 1 = gd at *
  have HO1 := Lib.hid (fopen_any DK2.out (HE.out.step B2.out) good_new (Nat.zero_le _) [103] (by decide) 3 HOp.out rfl HF0.out.run.good good_new (by show nextN (lg0 [103] 3) ≤ _; have := HF0.out.fs.a.next; omega) HF0.out.fs.short HF0.out.fs.fol)
  go_upto_region 7 with (go_at_call 22; refine HO1.out.mono ?_; rintro e w3 ⟨gl, gf, rfl, s3, -, b3⟩; have S3 : Hid (FSt w.heap.size gd gl gf (lg0 [103] 3) K0 0 w3) := Lib.hid s3; have B3 := Lib.hid (B2.out.trans b3); clear s3 b3)
  clear HO1 HN HW B1 B2 DK2 HOp
  generalize lg0 [103] 3 = L0 at *
  generalize K0 = D0 at *
  go_upto_block 0 with fail
  go_cut [10, 11] from 32 to 76 (fun la _ wx => ∃ (L : Lg) (D : Dk) (T : Int), la = .int .i64 T ∧ Hid (Fc 20 L D T) ∧ Hid (FSt w.heap.size gd gl gf L D T wx) ∧ Hid (Below w.heap.size w wx))
  case first =>
    go_wp2_with fail
    go_loopw [10, 11] (fun la i wr => ∃ (j : Nat) (L : Lg) (D : Dk) (T : Int), j ≤ l.length ∧ j ≤ 20 ∧ la = .int .i64 T ∧ i = .int .i64 (j : Int) ∧ Hid (Fc j L D T) ∧ Hid (FSt w.heap.size gd gl gf L D T wr) ∧ Hid (Below w.heap.size w wr)) (fun _ i _ => l.length - (intOf i).toNat)
    case atStart => exact ⟨0, L0, D0, 0, Nat.zero_le _, Nat.zero_le _, rfl, rfl, HF0, S3, B3⟩
    case round =>
      clear HF0 S3 B3
      obtain ⟨j, L, D, T, hjl, hj1, rfl, rfl, HFc, HS, HB⟩ := hrel
      by_cases h1 : j < l.length
      · by_cases h2 : j < 20
        · obtain ⟨t, ht⟩ : ∃ t, l[j]? = some t := ⟨_, List.getElem?_eq_getElem h1⟩
          have HC : Hid (∀ wx, Below w.heap.size w wx → ∃ b off, A = some ⟨b, off, none⟩ ∧ wx.cell? ⟨b, off + j, none⟩ = some (.int .i64 t)) := Lib.hid fun wx hb => by
            obtain ⟨b, off, e1, e2, e3⟩ := lies_at HL.out (k := j) (x := Value.int .i64 t) (by rw [List.getElem?_map, ht]; rfl)
            exact ⟨b, off, e1, (hb.cell (p := ⟨b, off + j, none⟩) e2).trans e3⟩
          obtain ⟨b, off, hA, c0⟩ := HC.out wr HB.out
          subst hA
          have HC2 : Hid (∀ wx, Below w.heap.size w wx → wx.cell? ⟨b, off + j, none⟩ = some (.int .i64 t)) := Lib.hid fun wx hb => by
            obtain ⟨b1, off1, e1, e2⟩ := HC.out wx hb
            cases e1
            exact e2
          have ht64 := HLI.out t (List.mem_of_getElem? ht)
          have h1i : (j : Int) < (l.length : Int) := by omega
          have h2i : (j : Int) < 20 := by omega
          obtain ⟨hper, hnx, hrl, hlen⟩ := HFc.out.fs.bounds (by omega)
          have HCl := Lib.hid (claim_any HS.out (by rw [hper]; omega) (by omega) (by omega) (by omega) HFc.out.fs.a.bare t)
          clear HC ht hper hnx hrl hlen
          by_cases hok : T < t ∧ t ≤ 1073741824
          · obtain ⟨k1, k2⟩ := hok
            obtain ⟨e1, e2, e3, e4, e5, e6, e7⟩ := HFc.out.claim h2 k1 k2
            have hcn : clN L D T t = clN L D T t := rfl
            rw [e1, e2] at HCl
            have HF1 := Lib.hid e4
            have HR1 := Lib.hid e5
            have HU1 := Lib.hid e6
            have HS1 := Lib.hid e7
            have HTb := Lib.hid e3
            clear e1 e2 e3 e4 e5 e6 e7 hcn HFc
            generalize clN L D T t = cn at HCl
            generalize clL L D T t = L1 at *
            generalize clD L D T t = D1 at *
            go_upto_region 12 with (go_at_call 25; refine HCl.out.mono ?_; rintro e w5 ⟨rfl, s5, b5⟩; have S5 := Lib.hid s5; have B5 := Lib.hid (HB.out.trans b5.below); clear b5 s5)
            clear c0 HCl
            have c0 := HC2.out w5 B5.out
            obtain ⟨hper, hnx, hrl, hlen⟩ := HF1.out.bounds (by omega)
            have HAp := Lib.hid (fappend_any S5.out (by rw [hper]; omega) (by omega) (by omega) (by omega) HF1.out.a.bare t s (by omega))
            have HF2 := Lib.hid (Fc.append h2 HF1.out HR1.out HU1.out HS1.out HTb.out (s := s) (by omega))
            clear hper hnx hrl hlen HF1 HR1 HU1 HS1 HTb
            generalize faN L1 D1 t t s = an at HAp
            generalize faE L1 D1 t t s = ae at HAp
            generalize faL L1 D1 t t s = L2 at *
            generalize faD L1 D1 t t s = D2 at *
            go_wp2_with (go_at_call 26; refine HAp.out.mono ?_; rintro e w6 ⟨rfl, s6, b6⟩; have S6 := Lib.hid s6; have B6 := Lib.hid (B5.out.trans b6.below); clear b6 s6)
            go_roundw
            case rel => exact ⟨j + 1, L2, D2, t, by omega, by omega, rfl, by go_num, HF2, S6, B6⟩
            case measure => simp [intOf]; omega
          · obtain ⟨e1, e2, e3, e4⟩ := HFc.out.no hok
            have HF2 : Hid (Fc (j + 1) L D T) := Lib.hid (HFc.out.more (Nat.le_succ _))
            rw [e2, e3, e4] at HCl
            have he : (clE L D T t == 0) = false := by simpa using e1
            clear HFc e1 e2 e3 e4
            generalize clN L D T t = cn at HCl
            generalize clE L D T t = ce at HCl he
            go_upto_region 12 with (go_at_call 25; refine HCl.out.mono ?_; rintro e w5 ⟨rfl, s5, b5⟩; have S5 := Lib.hid s5; have B5 := Lib.hid (HB.out.trans b5.below); clear b5 s5)
            clear c0 HCl
            have c0 := HC2.out w5 B5.out
            by_cases k1 : T < t
            · have k2 : ¬ t ≤ 1073741824 := fun k2 => hok ⟨k1, k2⟩
              clear hok
              go_wp2_with fail
              go_roundw
              case rel => exact ⟨j + 1, L, D, T, by omega, by omega, rfl, by go_num, HF2, S5, B5⟩
              case measure => simp [intOf]; omega
            · clear hok
              go_wp2_with fail
              go_roundw
              case rel => exact ⟨j + 1, L, D, T, by omega, by omega, rfl, by go_num, HF2, S5, B5⟩
              case measure => simp [intOf]; omega
        · have h2i : ¬ (j : Int) < 20 := by omega
          have h1i : (j : Int) < (l.length : Int) := by omega
          have hj : j = 20 := by omega
          subst hj
          go_wp2_with fail
          go_meet
          case rel => exact ⟨L, D, T, rfl, HFc, HS, HB⟩
      · have h1i : ¬ (j : Int) < (l.length : Int) := by omega
        have A2 : Hid (Fc 20 L D T) := Lib.hid (HFc.out.more hj1)
        go_wp2_with fail
        go_meet
        case rel => exact ⟨L, D, T, rfl, A2, HS, HB⟩
  case rest =>
    obtain ⟨L, D, T, rfl, HFc, HS, HB⟩ := hcut
    clear HF0 S3 B3 HL HLI
    have HKw := Lib.hid (lies_below HKL.out HB.out)
    obtain ⟨A', c', w5, hap, hl5, hn5, b5⟩ := own_ints wc K kc keep (by omega) HKw.out 23
    have hlen : D.F.length ≤ 400 := (HFc.out.fs.bounds (by omega)).2.2.2
    have HM := Lib.hid (mendN HFc.out.fs.z.gd (by omega) A' c' keep (fun x hx => (HKI.out x hx).2) (by omega) HS.out.st.le HS.out.st.disk b5 hl5 hn5)
    obtain ⟨X, T2, hX, hok, hg, hgd, hrun, hFx, hTle, hsn, hun, hpre, hbase⟩ := HFc.out.fs.anew hpP (by omega) keep
    have hTT := HFc.out.term hrun hFx.fol hTle hsn hpre hbase
    subst hTT
    have HOX := Lib.hid hX
    have F7 := Lib.hid hFx
    have HGx := Lib.hid (And.intro hok (And.intro hg hgd))
    have hlm : (mendV D keep).F.length ≤ 900 := by have := (mend_sz HFc.out.fs.z keep).len; omega
    have HGm := Lib.hid (mend_sz HFc.out.fs.z keep).gd
    clear hX hok hg hgd hFx hl5 hn5 HKw HKI HKL HFc hlen hrun hTle hsn hun hpre hbase
    go_upto_region 18 with (first | (at_builtin; refine wpList_append_run rfl _ _ 23 23 rfl rfl rfl hap ?_) | (go_at_call 15; refine HM.out.mono ?_; rintro e w6 ⟨rfl, d6, t6, b6⟩; have DK6 := Lib.hid d6; have B6 := Lib.hid (HB.out.trans b6); clear d6 t6 b6))
    clear hap b5 HM
    have hnX := F7.out.a.next
    have HO := Lib.hid (fopen_any DK6.out (HE.out.step B6.out) HGm.out hlm [103] (by decide) 3 HOX.out HGx.out.1 HGx.out.2.1 HGx.out.2.2 (by omega) F7.out.short F7.out.fol)
    go_upto_region 19 with (go_at_call 22; refine HO.out.mono ?_; rintro e w7 ⟨gl2, gf2, rfl, s7, t7, b7⟩; have S7 := Lib.hid s7; have B7 := Lib.hid (B6.out.trans b7); clear s7 t7 b7)
    clear HO DK6 B6 HOX HGm
    have HTe := Lib.hid (fTerm_any S7.out.fl)
    go_wp2_with (go_at_call 24; (with_reducible refine HTe.out.mono ?_); rintro e w8 ⟨rfl, b⟩; have B8 := Lib.hid (then_below B7.out b); clear b)
    go_ret
    exact ⟨by simp, B8.out⟩
end
end Go.Proofs.YtfpmcomigolacaaGreatDoor.fence
