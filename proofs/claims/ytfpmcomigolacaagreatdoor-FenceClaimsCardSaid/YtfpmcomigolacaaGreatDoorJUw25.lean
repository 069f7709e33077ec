/-
  What Append and Drop keep.
  works is true.
  The frame of the cards: a law whose arguments are only read; rows of texts.
-/
import Derived.Test.YtfpmcomigolacaaGreatDoorJUw24
import Derived.Test.YtfpmcomigolacaaGreatDoorRows
import Derived.Test.YtfpmcomigolacaaGreatDoorJOpen
import Derived.ProofKit
import Derived.OpenShut
import Derived.LaidMore
import Derived.Lay
import Derived.Stop.Joined
import Derived.Stop.LaidErr
import Derived.Shelf.Vars
import Derived.Handed
set_option linter.unusedSimpArgs false
set_option linter.unusedVariables false
namespace Go.Proofs.YtfpmcomigolacaaGreatDoor.wal
open Go.ChangeShapes Go.WideShapes Go.ChangeAt Go.RowKit Go.Maps Go.WideMaps
open Go.Proofs.YtfpmcomigolacaaGreatDoor.opened Go.Proofs.YtfpmcomigolacaaGreatDoor.block Go.Proofs.YtfpmcomigolacaaGreatDoor.words Go.Proofs.YtfpmcomigolacaaGreatDoor.disk Go.Proofs.YtfpmcomigolacaaGreatDoor.tailed Go.Proofs.YtfpmcomigolacaaGreatDoor.enc Go.Proofs.YtfpmcomigolacaaGreatDoor.code
theorem good_bgD {D : Dk} (G : GoodD D) (L : Lg) (s : Bs) : GoodD (bgD L D s) := by
  unfold bgD
  split
  · exact G
  split
  · exact (good_syD G L).1
  · exact good_app (good_syD G L).1 _ _
theorem good_apD {D : Dk} (G : GoodD D) (L : Lg) (s : Bs) : GoodD (apD L D s) := by
  unfold apD
  split
  · exact G
  split
  · exact G
  unfold wrD
  split
  · exact good_bgD G L s
  · exact good_app G _ _
/-- An append that goes through. -/
theorem ap_ok {L : Lg} {D : Dk} {s : Bs} (h : apE L D s = 0) : L.fail = false ∧ s.length ≤ 4096 ∧ wrE L D s = 0 ∧ apL L D s = { wrL L D s with recs := L.recs ++ [s] } ∧ apD L D s = wrD L D s := by
  unfold apE at h
  split at h
  · cases h
  rename_i hf
  split at h
  · cases h
  rename_i hs
  refine ⟨by simpa using hf, by omega, h, ?_, ?_⟩
  · unfold apL
    rw [if_neg hf, if_neg hs, if_neg (by simpa using h)]
  · unfold apD
    rw [if_neg hf, if_neg hs]
theorem bg_ok {L : Lg} {D : Dk} {s : Bs} (h : bgE L D s = 0) : nextF L ≤ 999 ∧ syE L D = 0 ∧ appE (syD L D) (fn L.nm (nextF L)) (newB L s) = 0 ∧ bgL L D s = { syL L D with heads := L.heads ++ [nextN L], torn := false } ∧ bgD L D s = appV (syD L D) (fn L.nm (nextF L)) (newB L s) := by
  unfold bgE at h
  split at h
  · cases h
  rename_i h1
  split at h
  · rename_i h2
    exact absurd h h2
  rename_i h2
  refine ⟨by omega, by simpa using h2, h, ?_, ?_⟩
  · unfold bgL
    rw [if_neg h1, if_neg h2, if_neg (by simpa using h)]
  · unfold bgD
    rw [if_neg h1, if_neg h2]
theorem good_more {L : Lg} (G : GoodL L) (s : Bs) : GoodL { L with recs := L.recs ++ [s] } := by
  have hn : nextN { L with recs := L.recs ++ [s] } = nextN L + 1 := by
    show baseN L + ((L.recs ++ [s]).length : Int) = baseN L + L.recs.length + 1
    rw [List.length_append]
    simp
    omega
  exact ⟨G.len, G.lo, G.hi, G.sorted, G.base, fun h hh => by rw [hn]; have := G.last h hh; omega⟩
theorem good_bgL {L : Lg} {D : Dk} {s : Bs} (G : GoodL L) (hb : Bare L) : GoodL (bgL L D s) ∧ (bgE L D s = 0 → GoodL { bgL L D s with recs := L.recs ++ [s] }) := by
  obtain ⟨s1, s2, s3, s4, s5, s6⟩ := sy_fields L D
  refine ⟨?_, fun h => ?_⟩
  · unfold bgL
    split
    · exact G
    rename_i h1
    split
    · exact good_sy G D
    split
    · exact good_sy G D
    · exact (good_head (M := { syL L D with heads := L.heads ++ [nextN L], torn := false }) G (by omega) s1 s3 rfl hb ⟨[], by show (syL L D).recs = _; rw [s5]; simp⟩).1
  · obtain ⟨h1, -, -, h4, -⟩ := bg_ok h
    rw [h4]
    exact (good_head (M := { syL L D with heads := L.heads ++ [nextN L], torn := false, recs := L.recs ++ [s] }) G (by omega) s1 s3 rfl hb ⟨[s], rfl⟩).1
theorem good_apL {L : Lg} {D : Dk} {s : Bs} (G : GoodL L) (hb : Bare L) : GoodL (apL L D s) := by
  obtain ⟨g1, g2⟩ := good_bgL (D := D) (s := s) G hb
  unfold apL
  split
  · exact G
  split
  · exact G
  split
  · unfold wrL
    split
    · exact good_note g1 _
    · exact good_note G _
  · rename_i h
    unfold wrE at h
    unfold wrL
    split
    · rename_i hc
      rw [if_pos hc] at h
      exact g2 (by simpa using h)
    · exact good_more G s
theorem bare_apL {L : Lg} {D : Dk} {s : Bs} (hb : Bare L) : Bare (apL L D s) := by
  obtain ⟨s1, s2, s3, s4, s5, s6⟩ := sy_fields L D
  have hbg : Bare (bgL L D s) := by
    unfold bgL
    split
    · exact hb
    split
    · intro h; rw [s5]; exact hb (s4 ▸ h)
    split
    · intro h; rw [s5]; exact hb (s4 ▸ h)
    · intro h
      exact absurd (show L.heads ++ [nextN L] = [] from h) (by simp)
  have hno : ∀ (M : Lg) e, Bare M → Bare (noteL M e) := fun M e h => by
    obtain ⟨q1, q2, q3, q4, q5, q6, q7⟩ := note_fields M e
    intro hh
    rw [q5]
    exact h (q4 ▸ hh)
  unfold apL
  split
  · exact hb
  split
  · exact hb
  split
  · unfold wrL
    split
    · exact hno _ _ hbg
    · exact hno _ _ hb
  · rename_i h
    intro hh
    exfalso
    have hh' : (wrL L D s).heads = [] := hh
    unfold wrL at hh'
    unfold wrE at h
    split at hh'
    · rename_i hc
      rw [if_pos hc] at h
      obtain ⟨-, -, -, h4, -⟩ := bg_ok (by simpa using h)
      rw [h4] at hh'
      exact absurd (show L.heads ++ [nextN L] = [] from hh') (by simp)
    · rename_i hc
      refine hc ?_
      unfold closedB
      rw [hh']
      simp
/-! ### Drop -/
theorem bare_note {L : Lg} (h : Bare L) (e : Int) : Bare (noteL L e) := by
  obtain ⟨q1, q2, q3, q4, q5, q6, q7⟩ := note_fields L e
  intro hh
  rw [q5]
  exact h (q4 ▸ hh)
theorem bare_sy {L : Lg} (h : Bare L) (D : Dk) : Bare (syL L D) := by
  obtain ⟨q1, q2, q3, q4, q5, q6⟩ := sy_fields L D
  intro hh
  rw [q5]
  exact h (q4 ▸ hh)
theorem bare_df {L : Lg} {n : Int} (h : pastB L n = true) : Bare (dfV L) := by
  intro hh
  exfalso
  have h2 : L.heads.tail = [] := hh
  unfold pastB at h
  cases e : L.heads with
  | nil => rw [e] at h; cases h
  | cons a t =>
    cases e2 : t with
    | nil => rw [e, e2] at h; cases h
    | cons b r => rw [e, e2] at h2; cases h2
theorem good_drF : ∀ (k : Nat) {L : Lg} {D : Dk} {n : Int}, GoodL L → Bare L → GoodD D → GoodL (drF k L D n).2.1 ∧ Bare (drF k L D n).2.1 ∧ GoodD (drF k L D n).2.2 ∧ (drF k L D n).2.2.F.length ≤ D.F.length ∧ nextN (drF k L D n).2.1 = nextN L
  | 0, L, D, n, G, hb, GD => ⟨G, hb, GD, Nat.le_refl _, rfl⟩
  | k + 1, L, D, n, G, hb, GD => by
    have g1 := good_rem GD (fn L.nm L.least)
    have l1 := rem_len (D := D) (fn L.nm L.least)
    unfold drF
    split
    · rename_i hp
      split
      · obtain ⟨q1, q2, q3, q4, q5, q6, q7⟩ := note_fields L (dfE L D)
        exact ⟨good_note G _, bare_note hb _, g1, l1, by unfold nextN baseN; rw [q4, q5]⟩
      · obtain ⟨gd1, -, -, gn, -, -⟩ := good_df G hp
        obtain ⟨h1, h2, h3, h4, h5⟩ := good_drF k (n := n) gd1 (bare_df hp) g1
        exact ⟨h1, h2, h3, Nat.le_trans h4 l1, h5.trans gn⟩
    · exact ⟨G, hb, GD, Nat.le_refl _, rfl⟩
theorem good_drV {L : Lg} {D : Dk} {n : Int} (G : GoodL L) (hb : Bare L) (GD : GoodD D) : GoodL (drV L D n).2.1 ∧ Bare (drV L D n).2.1 ∧ GoodD (drV L D n).2.2 ∧ (drV L D n).2.2.F.length ≤ D.F.length + 1 ∧ nextN (drV L D n).2.1 = nextN L := by
  obtain ⟨e1, e2⟩ := good_syD GD L
  unfold drV
  split
  · exact ⟨G, hb, GD, Nat.le_succ _, rfl⟩
  split
  · exact ⟨G, hb, GD, Nat.le_succ _, rfl⟩
  split
  · exact ⟨good_sy G D, bare_sy hb D, e1, e2, (sy_next L D).1⟩
  · obtain ⟨h1, h2, h3, h4, h5⟩ := good_drF L.heads.length (n := n) (good_sy G D) (bare_sy hb D) e1
    exact ⟨h1, h2, h3, by omega, h5.trans (sy_next L D).1⟩
end Go.Proofs.YtfpmcomigolacaaGreatDoor.wal
set_option linter.unusedSimpArgs false
set_option linter.unusedVariables false
namespace Go.Proofs.YtfpmcomigolacaaGreatDoor.wal
open Go.ChangeShapes Go.WideShapes Go.ChangeAt Go.RowKit Go.Maps Go.WideMaps
open Go.Proofs.YtfpmcomigolacaaGreatDoor.opened Go.Proofs.YtfpmcomigolacaaGreatDoor.block Go.Proofs.YtfpmcomigolacaaGreatDoor.words Go.Proofs.YtfpmcomigolacaaGreatDoor.disk Go.Proofs.YtfpmcomigolacaaGreatDoor.tailed Go.Proofs.YtfpmcomigolacaaGreatDoor.enc Go.Proofs.YtfpmcomigolacaaGreatDoor.code
section
variable {w : World}
theorem gK1 : GoodD D1 := good_apD good_new _ _
theorem gK2 : GoodD D2 := good_apD gK1 _ _
theorem bare1 : Bare A1 := bare_apL (fun _ => rfl)
theorem bare2 : Bare A2 := bare_apL bare1
theorem gK3 : GoodD D3 := (good_drV gA2 bare2 gK2 (n := 1)).2.2.1
theorem gK4 : GoodD D4 := good_mend gK3 []
theorem opn_good {D : Dk} (GD : GoodD D) {nm : Bs} {per : Int} {N : List Int} : GoodD (opnV D nm per N).2.2 := by
  unfold opnV
  split
  · exact GD
  · dsimp only
    have h1 := (rm_good (nm := nm) (N.drop (takesV D (lg0 nm per) N).heads.length).reverse D GD).1
    split
    · exact h1
    · exact (good_syD h1 _).1
theorem gK5 : GoodD X5.2.2 := opn_good gK4
theorem v12 (N : List Int) : opnV X5.2.2 [113, 49] 1 N = (6, lg0 [113, 49] 1, X5.2.2) := by
  unfold opnV
  rw [if_pos (by rw [v8]; decide), v8]
theorem mendW {B gd : Nat} {D : Dk} (G : GoodD D) (hF : D.F.length ≤ 1000) (K : Option Addr) (kc : Nat) (keep : List Int) (hk : ∀ x ∈ keep, x ≤ 9223372036854775807) (hkl : keep.length ≤ 100000) (hB : B ≤ w.heap.size) (h : DiskB w B gd D) (hK : Lies w K (keep.map (Value.int .i64))) (hKo : ∀ a, K = some a → ∃ cs, Whole w a.block 3 cs) :
    Calls Tryz.prog 15 #[.pointer (some ⟨gd, 0, none⟩), .slice K keep.length kc] w fun e w' => e = .returned (.tuple #[]) ∧ DiskB w' B gd (mendV D keep) ∧ WT w w' (fun _ => False) ∧ Below B w w' := by
  obtain ⟨mb, E, h1, h2⟩ := h
  refine (mend_any G hF K kc keep hk hkl w (S := blk gd mb E) ⟨mb, E, h1, fun k hk => hk⟩ hK (fun a ha hh => ?_)).mono fun e w' ⟨e1, e2, ht⟩ => ?_
  · obtain ⟨cs, q⟩ := hKo a ha
    obtain ⟨o, ho, hd⟩ := disk_obj h1 hh
    rw [show w.heap[a.block]? = _ from q] at ho
    cases ho
    exact not_dobj (by decide) (by decide) hd
  · obtain ⟨u1, u2⟩ := up hB e2 h2 ht
    exact ⟨e1, u1, wt_turn h1 ht _, u2⟩
set_option maxRecDepth 100000 in
set_option maxHeartbeats 4000000 in
theorem works_any (hw : Env w) : Calls Tryz.prog 7 #[] w fun e w' => e = .returned (.bool true) ∧ Below w.heap.size w w' := by
  obtain ⟨n0, n1, n2, n3, n4, n5⟩ := v9
  obtain ⟨x0, x1, x2, x3⟩ := v10
  obtain ⟨p0, p1, r0, r1⟩ := v11
  have HN := Lib.hid (Go.Proofs.YtfpmcomigolacaaGreatDoor.disk.newB w w.heap.size (Nat.le_refl _))
  have HE := Lib.hid (EnvB.start hw)
  clear hw
  go_enter Tryz.func7, Tryz.ntmps7
  go_upto_region 2 with (go_at_call 8; refine HN.out.mono ?_; rintro e w1 ⟨rfl, d1, b1⟩; have DK1 := Lib.hid d1; have B1 := Lib.hid b1; clear d1 b1)
  generalize w.heap.size + 1 = gd at *
  have HO1 := Lib.hid (open_st DK1.out (HE.out.step B1.out) good_new (by rw [n0]; omega) q0 (by decide) 1 v0 rfl gA0 good_new)
  go_upto_region 3 with (go_at_call 9; refine HO1.out.mono ?_; rintro e w2 ⟨ga, rfl, s2, -, b2⟩; have S2 := Lib.hid s2; have B2 := Lib.hid (B1.out.trans b2); clear s2 b2)
  have HA1 := Lib.hid (st_append S2.out (by rw [p0]; decide) (by rw [x0]; decide) (by rw [r0]; decide) (by rw [n0]; decide) [97] (by decide) gA1 gK1)
  rw [v1.1, v1.2] at HA1
  go_upto_region 6 with (go_at_call 11; refine HA1.out.mono ?_; rintro e w3 ⟨rfl, s3, b3⟩; have S3 : Hid (St w.heap.size gd ga A1 D1 w3) := Lib.hid s3; have B3 := Lib.hid (B2.out.trans b3); clear s3 b3)
  have HA2 := Lib.hid (st_append S3.out (by rw [p1]; decide) (by rw [x1]; decide) (by rw [r1]; decide) (by rw [n1]; decide) [98] (by decide) gA2 gK2)
  rw [v2.1, v2.2] at HA2
  go_upto_region 7 with (go_at_call 11; refine HA2.out.mono ?_; rintro e w4 ⟨rfl, s4, b4⟩; have S4 : Hid (St w.heap.size gd ga A2 D2 w4) := Lib.hid s4; have B4 := Lib.hid (B3.out.trans b4); clear s4 b4)
  have HG1 := Lib.hid (st_get S4.out (by rw [x2]; decide) 0 (by decide) (by decide))
  rw [v2g.1, v2g.2] at HG1
  go_upto_region 8 with (go_at_call 20; refine HG1.out.mono ?_; rintro e w5 ⟨rfl, b5⟩; have S5 := Lib.hid (S4.out.below b5); have B5 := Lib.hid (then_below B4.out b5); clear b5)
  have HDr := Lib.hid (st_drop S5.out (by rw [x2]; decide) (by rw [n2]; decide) 1 gA3 gK3)
  rw [v3] at HDr
  go_upto_region 9 with (go_at_call 13; refine HDr.out.mono ?_; rintro e w6 ⟨rfl, s6, b6⟩; have S6 : Hid (St w.heap.size gd ga A3 D3 w6) := Lib.hid s6; have B6 := Lib.hid (B5.out.trans b6); clear s6 b6)
  have HG2 := Lib.hid (st_get S6.out (by rw [x3]; decide) 0 (by decide) (by decide))
  rw [v3g] at HG2
  go_upto_region 10 with (go_at_call 20; refine HG2.out.mono ?_; rintro e w7 ⟨rfl, b7⟩; have S7 := Lib.hid (S6.out.below b7); have B7 := Lib.hid (then_below B6.out b7); clear b7)
  have HM := Lib.hid (mendW gK3 (by rw [n3]; decide) none 0 [] (fun x hx => by cases hx) (by decide) S7.out.le S7.out.disk (lies_own (World.ownsRow_nil w7 0 3 1)).1 (fun a ha => by cases ha))
  obtain ⟨A, c, R, d, l7, -⟩ := S7.out.log
  have L7 := Lib.hid l7
  clear l7
  go_upto_region 11 with (go_at_call 15; refine HM.out.mono ?_; rintro e w8 ⟨rfl, d8, t8, b8⟩; have DK8 : Hid (DiskB w8 w.heap.size gd D4) := Lib.hid d8; have L8 := Lib.hid (L7.out.wt t8 fun _ _ q => q); have B8 := Lib.hid (B7.out.trans b8); clear d8 t8 b8)
  have HO2 := Lib.hid (open_st DK8.out (HE.out.step B8.out) gK4 (by rw [n4]; decide) q0 (by decide) 1 v6 v7.1 gA5 gK5)
  go_upto_region 12 with (go_at_call 9; refine HO2.out.mono ?_; rintro e w9 ⟨gm, rfl, s9, t9, b9⟩; have S9 := Lib.hid s9; have L9 := Lib.hid (L8.out.wt t9 fun _ _ q => q); have B9 := Lib.hid (B8.out.trans b9); clear s9 t9 b9)
  have HO3 := Lib.hid (open_log gK5 (by rw [n5]; decide) (HE.out.step B9.out) S9.out.disk [113, 49] (by decide) 1)
  rw [v12] at HO3
  have HO3' : Hid (Calls Tryz.prog 9 #[.pointer (some ⟨gd, 0, none⟩), sV [113, 49], .int .i64 1] w9 fun e w' => e = .returned (.tuple #[.pointer none, .int .i64 6]) ∧ WT w9 w' (fun _ => False) ∧ Below w.heap.size w9 w') := Lib.hid (HO3.out.mono fun e w' ⟨g, h1, _, h3⟩ => ⟨h1, h3.wt, h3.below⟩)
  have S10 : Hid (∀ w1, WT w9 w1 (fun _ => False) → (∃ A c R d, LogE w1 ga gd A3 A c R d) ∧ ∃ A c R d, LogE w1 gm gd X5.2.1 A c R d) := Lib.hid fun w1 ht => ⟨⟨A, c, R, d, L9.out.wt ht fun _ _ q => q⟩, by
    obtain ⟨A', c', R', d', k1, -⟩ := S9.out.log
    exact ⟨A', c', R', d', k1.wt ht fun _ _ q => q⟩⟩
  have HFa : Hid (∀ w1, WT w9 w1 (fun _ => False) → Calls Tryz.prog 18 #[.pointer (some ⟨ga, 0, none⟩)] w1 fun e w' => e = .returned (.int .i64 1) ∧ Below w1.heap.size w1 w') := Lib.hid fun w1 ht => by
    obtain ⟨⟨A, c, R, d, k⟩, -⟩ := S10.out w1 ht
    have := files_any k
    rwa [v4.1] at this
  have HBa : Hid (∀ w1, WT w9 w1 (fun _ => False) → Calls Tryz.prog 19 #[.pointer (some ⟨ga, 0, none⟩)] w1 fun e w' => e = .returned (.int .i64 1) ∧ Below w1.heap.size w1 w') := Lib.hid fun w1 ht => by
    obtain ⟨⟨A, c, R, d, k⟩, -⟩ := S10.out w1 ht
    have := base_any k
    rwa [v4.2.1] at this
  have HSa : Hid (∀ w1, WT w9 w1 (fun _ => False) → Calls Tryz.prog 17 #[.pointer (some ⟨ga, 0, none⟩)] w1 fun e w' => e = .returned (.int .i64 2) ∧ Below w1.heap.size w1 w') := Lib.hid fun w1 ht => by
    obtain ⟨⟨A, c, R, d, k⟩, -⟩ := S10.out w1 ht
    have := synced_any k
    rwa [v4.2.2] at this
  have HBm : Hid (∀ w1, WT w9 w1 (fun _ => False) → Calls Tryz.prog 19 #[.pointer (some ⟨gm, 0, none⟩)] w1 fun e w' => e = .returned (.int .i64 1) ∧ Below w1.heap.size w1 w') := Lib.hid fun w1 ht => by
    obtain ⟨-, A, c, R, d, k⟩ := S10.out w1 ht
    have := base_any k
    rwa [v7.2.2] at this
  have HNm : Hid (∀ w1, WT w9 w1 (fun _ => False) → Calls Tryz.prog 16 #[.pointer (some ⟨gm, 0, none⟩)] w1 fun e w' => e = .returned (.int .i64 2) ∧ Below w1.heap.size w1 w') := Lib.hid fun w1 ht => by
    obtain ⟨-, A, c, R, d, k⟩ := S10.out w1 ht
    have := next_any gA5 (by rw [v7.2.1]; decide) k
    rwa [v7.2.1] at this
  have step : ∀ {a b c : World}, WT a b (fun _ => False) → Below b.heap.size b c → WT a c (fun _ => False) := fun h k => h.trans (wt_below k (fun _ => False)) fun _ q => q.elim
  have HB9 := Lib.hid B9.out
  clear HM HE HO1 HA1 HA2 HG1 HDr HG2 HO2 S2 S3 S4 S5 S6 S7 S9 S10 HO3 L7 L8 L9 DK1 DK8 B1 B2 B3 B4 B5 B6 B7 B8 B9 HN
  generalize gtV A3 0 = gv
  have hbb : ((⟨#[97]⟩ : ByteArray) == ⟨#[97]⟩) = true := by decide
  go_wp2_with (first
    | (go_at_call 9; refine HO3'.out.mono ?_; rintro e w10 ⟨rfl, t10, b10⟩; have WT0 := Lib.hid t10; have BB0 := Lib.hid (HB9.out.trans b10); clear t10 b10)
    | (go_at_call 18; refine (HFa.out _ WT0.out).mono ?_; rintro e w11 ⟨rfl, b⟩; have WT1 := Lib.hid (step WT0.out b); have BB1 := Lib.hid (then_below BB0.out b); clear b)
    | (go_at_call 17; refine (HSa.out _ WT2.out).mono ?_; rintro e w13 ⟨rfl, b⟩; have WT3 := Lib.hid (step WT2.out b); have BB3 := Lib.hid (then_below BB2.out b); clear b)
    | (go_at_call 16; refine (HNm.out _ WT3.out).mono ?_; rintro e w14 ⟨rfl, b⟩; have WT4 := Lib.hid (step WT3.out b); have BB4 := Lib.hid (then_below BB3.out b); clear b)
    | (go_at_call 19; refine (HBm.out _ WT4.out).mono ?_; rintro e w15 ⟨rfl, b⟩; have BB5 := Lib.hid (then_below BB4.out b); clear b)
    | (go_at_call 19; refine (HBa.out _ WT1.out).mono ?_; rintro e w12 ⟨rfl, b⟩; have WT2 := Lib.hid (step WT1.out b); have BB2 := Lib.hid (then_below BB1.out b); clear b))
  go_ret
  exact ⟨rfl, BB5.out⟩
end
end Go.Proofs.YtfpmcomigolacaaGreatDoor.wal
set_option linter.unusedSimpArgs false
set_option linter.unusedVariables false
namespace Go.Proofs.YtfpmcomigolacaaGreatDoor.wal
open Go.ChangeShapes Go.WideShapes Go.ChangeAt Go.RowKit
open Go.Proofs.YtfpmcomigolacaaGreatDoor.opened Go.Proofs.YtfpmcomigolacaaGreatDoor.words
theorem own : ownKnob Tryz.prog.godebug = none := by kernel_rfl
theorem laidOut : laidOutB Tryz.prog = true := by kernel_rfl
set_option maxRecDepth 100000 in
/-- THE FRAME: a law over arguments that are only read, where the listed variables read as laid. -/
theorem liftG {os : Os} {f : FuncId} {fn : Func} {s : ChangeSpec} {H : Type} {enc : TypeId × Value → H} {ts : List TypeId} {dom : List PathCond} {l : List (String × DataW Unit)} {Env : World → Prop} (hEnv : ∀ W : World, W.ShapedOpen Tryz.prog → laidMetH Tryz.prog l W → Env W)
    (started : os.Started) (noInit : Tryz.prog.inits.idxOf? f = none) (hfn : Tryz.prog.funcs[f]? = some fn)
    (hts : fn.params.toList = ts) (hrB : (ts.all fun t => Tryz.prog.readableRec t && decide (t < Tryz.prog.types.size)) = true)
    (hres : fn.resultTypes = #[4]) (hv : s.vars = [])
    (hspec : ∀ ds : List (DataW H), ds.length = ts.length → s.fn H (ds ++ []) = { results := [.lit (.bool true)], args := ds })
    (witness : ∃ (w : World) (tape : Tape) (i : Input), w.os = os ∧ (w.forCall tape i).Shaped Tryz.prog ∧ i.vars = [] ∧ Input.okWide Tryz.prog (w.forCall tape i) .any w.heap.size f i ∧
      ((s.pre enc Tryz.prog fn dom false (w.forCall tape i).memory i.args ∧ laidMetH Tryz.prog l (w.forCall tape i).memory) ∧ sizedMet enc Tryz.prog fn (OpenSpec.ofChange s) false (w.forCall tape i).memory i.args) ∧ ({} : Assume).holds Tryz.prog (lone (Frame.enter Tryz.prog f i.args .normal) [] (w.forCall tape i)))
    (walk : ∀ (W : World) (args : Array Value), Env W → Fed Tryz.prog W ts args → Calls Tryz.prog f args W fun e W' => e = .returned (.bool true) ∧ Below W.heap.size W W') :
    ReturnsInHanded {} Tryz.checked os f .any (fun w args => (s.pre enc Tryz.prog fn dom false w args ∧ laidMetH Tryz.prog l w) ∧ sizedMet enc Tryz.prog fn (OpenSpec.ofChange s) false w args) (s.post enc Tryz.prog fn false true false false) := by
  have hr : ∀ t ∈ ts, Tryz.prog.readableRec t = true ∧ t < Tryz.prog.types.size := fun t ht => by
    have := List.all_eq_true.1 hrB t ht
    simpa using this
  refine returnsInHanded_of_calls own started noInit witness ?_
  intro w tape i _ hsh _ hok hpre hholds
  obtain ⟨_, _, _, fn', hfn', _, _, _, _, hval⟩ := hok
  have e : fn' = fn := Option.some.inj (hfn'.symm.trans hfn)
  subst e
  obtain ⟨⟨⟨ds, gs, before, hw, hc⟩, hx⟩, hz⟩ := hpre
  have hW := DataW.Whole.of_heap (w' := w.forCall tape i) (by rfl) hw
  have hsz := hz.weights hw
  have hL : laidMetH Tryz.prog l (w.forCall tape i) := hx.of_heap (by rfl)
  have hE := hEnv _ hsh hL
  clear hw hz hx hL hsh
  generalize w.forCall tape i = W at *
  generalize i.args = args at *
  generalize w.heap.size = base at *
  have hW' := hW
  obtain ⟨p, q, hA, hV, rfl, _, _⟩ := hW
  rw [hv] at hV
  obtain ⟨rfl, rfl⟩ := trodVars_none hV
  have hA' := hA
  rw [hts] at hA'
  obtain ⟨n1, n2, n3⟩ := trodAll_at hA'
  have hvt : (OpenSpec.ofChange s).bare.plain.varTypes Tryz.prog = [] := by
    show s.plain.varTypes Tryz.prog = []
    simp [ChangeSpec.plain, DataSpec.varTypes, hv]
  rw [hts, hvt, List.append_nil, List.append_nil] at hsz
  refine (walk W args hE ⟨by simpa using n1, fun j t v hj hjv => ?_⟩).mono fun e W' ⟨he, bel⟩ => ?_
  · have hjv' : args.toList[j]? = some v := by simpa using hjv
    obtain ⟨d, pl, hd, fuel, hf⟩ := n3 j t v hj hjv'
    refine ⟨⟨base, hval j t v (by rw [← Array.getElem?_toList, hts]; exact hj) hjv⟩, fun hO => hO enc W fuel _ _ hf (fun k hk => ?_)⟩
    have := List.all_eq_true.1 hsz _ (DataW.weights_mem_each hj hd k hk)
    simpa using this
  · subst he
    refine ChangeSpec.post_blind (v := .bool true) ?_
    refine ⟨ds, [], _, [], p, [], hW', ?_, ?_, ?_, bel.frame _, fun h => by cases h⟩
    · rw [hspec ds n2, hres]
      exact trodAll_mk1 (shut_bool Tryz.underlying4 _)
    · rw [hspec ds n2]
      have h3 := trodAll_below laidOut bel hr hA'
      rw [hts]
      exact h3
    · rw [hspec ds n2, hv]
      rfl
set_option maxRecDepth 100000 in
theorem opens_strs : Opens Tryz.prog 45 (sliceR 1 16 strR) := opens_slice Tryz.underlying45 (m := 1) (bytes := 16) (by kernel_rfl) (by kernel_rfl) (opens_str Tryz.underlying9)
set_option maxRecDepth 100000 in
theorem top_strs {w : World} {r : Reach} {b : Nat} {v : Value} {q : Row ByteArray} (hv : Value.okWide Tryz.prog w r b 45 v) (h : sliceR 1 16 strR w v.cells.toList q) :
    ∃ (A : Option Addr) (c : Nat) (L : List Bs), v = .slice A L.length c ∧ Lies w A (L.map sV) ∧ L.length ≤ 4611686018427387903 := by
  refine ⟨q.ptr, q.cap, q.elems.map fun b => b.data.toList, by rw [top_slice Tryz.underlying45 hv h, row_val h, List.length_map], ?_, ?_⟩
  · have := lies_of (f := Value.string) (fun w cs a ha => ha.1) h
    rw [List.map_map]
    have e : (sV ∘ fun b : ByteArray => b.data.toList) = Value.string := by
      funext b
      show Value.string ⟨b.data.toList.toArray⟩ = _
      rw [Lib.mk_data]
    rw [e]
    exact this
  · have h1 := h.2.1
    have h2 := h.2.2.1
    have h3 := h.2.2.2.2.1
    rw [List.length_map]
    omega
end Go.Proofs.YtfpmcomigolacaaGreatDoor.wal
