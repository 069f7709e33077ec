/-
  The contract of data.Spread (by gen_sp.py).
-/
import Derived.Test.YtpbdfiddgbkkmaaDoorDg
import Derived.Test.YtpbdfiddgbkkmaaDoorNum
import Derived.Deep.OwnRows
import Derived.Deep.CutBlock
namespace Go.Proofs.YtpbdfiddgbkkmaaDoor.data
open Go.ChangeShapes Go.WideShapes Go.ChangeAt Go.RowKit
open Go.Proofs.YtpbdfiddgbkkmaaDoor.opened Go.Proofs.YtpbdfiddgbkkmaaDoor.block Go.Proofs.YtpbdfiddgbkkmaaDoor.region Go.Proofs.YtpbdfiddgbkkmaaDoor.num
/-- Where a record goes. -/
def pt (n : Int) (r : Rc) : Nat := (partV r.k n).toNat
/-- The list by parts. -/
def sprV (n : Int) (L : List Rc) : List (List Rc) := if 1 ≤ n ∧ n ≤ 64 then spr (pt n) n.toNat L else []
theorem pt_lt {n : Int} (h : 1 ≤ n ∧ n ≤ 64) (r : Rc) : pt n r < n.toNat ∧ partV r.k n = ((pt n r : Nat) : Int) := by
  unfold pt partV
  rw [if_pos h]
  have h1 := Int.emod_nonneg (mixV r.k) (show n ≠ 0 by omega)
  have h2 := Int.emod_lt_of_pos (mixV r.k) (show 0 < n by omega)
  omega
theorem made_nils (n : Nat) : madeCells #[Value.slice none 0 0] n = Array.replicate n (.slice none 0 0) := by
  apply Array.ext
  · simp [madeCells]
  · intro i h1 h2
    simp [madeCells, Nat.mod_one]
theorem infoN : (Tryd.prog.info? 24).map (fun i => (i.zero, i.size, i.bytes)) = some (some (.slice none 0 0), 1, 24) := by kernel_rfl
theorem fresh_rows {w0 : World} {base : Nat} {V : Value} {vs : List Value} {NN : List (List Rc)} (h : Nest 24 33 2 cR w0 base V vs NN) {b : Nat} (hb : w0.heap.size ≤ b) : ∀ v ∈ vs, v.ownBlock ≠ some b := by
  intro v hv e
  obtain ⟨i, hi⟩ := List.getElem?_of_mem hv
  obtain ⟨M, hM⟩ : ∃ M, NN[i]? = some M := ⟨_, List.getElem?_eq_getElem (by rw [← h.len]; exact (List.getElem?_eq_some_iff.1 hi).1)⟩
  have := ((h.row i v M hi hM).lt b e).2
  omega
set_option maxRecDepth 100000 in
set_option maxHeartbeats 8000000 in
theorem spread_yes (A : Option Addr) (c : Nat) (L : List Rc) (m : Nat) (hm1 : 1 ≤ m) (hm2 : m ≤ 64) (mL : L.length ≤ 4096) (w : World) (hL : Lr w A L) :
    Calls Tryd.prog 14 #[.slice A L.length c, .int .i64 (m : Nat)] w fun e W' => ∃ g vs, e = .returned (.tuple #[.slice (some ⟨g, 0, none⟩) m m, .int .i64 0]) ∧ Nest 24 33 2 cR W' w.heap.size (.slice (some ⟨g, 0, none⟩) m m) vs (spr (pt (m : Int)) m L) ∧ Below w.heap.size w W' := by
  have HLr := Lib.hid hL
  clear hL
  have hnn : (1 : Int) ≤ (m : Int) ∧ (m : Int) ≤ 64 := by omega
  have PT := Lib.hid (fun (r : Rc) => pt_lt hnn r)
  have PE : partE (m : Int) = 0 := by unfold partE; rw [if_pos hnn]
  have CP := Lib.hid (fun a w0 => part_any a (m : Int) w0)
  rw [PE] at CP
  clear PE hnn
  obtain ⟨i0, hi0, hz0, hz1, hz2⟩ := infoR_parts
  have hmk := run_make_row' (P := Tryd.prog) 35 24 (.slice none 0 0) 24 Tryd.underlying35 infoN rfl .i64 .i64 m (by omega) (by omega)
  have NM := Lib.hid (fun w0 : World => fun (hw : w.heap.size ≤ w0.heap.size) => nest_made (T2 := 24) (T := 33) (m := 2) (f := cR) (base := w.heap.size) w0 m m (by unfold maxLen; omega) rfl hw (madeCells #[.slice none 0 0] m) (made_nils m))
  go_enter Tryd.func14, Tryd.ntmps14
  go_wp2_with (go_at_call 20; refine (CP.out _ _).mono ?_; rintro e w2 ⟨rfl, rfl⟩)
  have N0 := Lib.hid (NM.out w (Nat.le_refl _))
  have B0 := Lib.hid (fresh0 w (.cells (madeCells #[.slice none 0 0] m) 24))
  generalize w.alloc (.cells (madeCells #[.slice none 0 0] m) 24) = w0 at N0 B0 ⊢
  obtain ⟨g, hg⟩ : ∃ g, g = w.heap.size := ⟨_, rfl⟩
  rw [← hg] at N0 ⊢
  have HG := Lib.hid hg
  clear hg NM hmk
  go_loopw [25] (fun s wr => ∃ (k : Nat) (vs : List Value), k ≤ L.length ∧ s = .int .i64 k ∧ vs.length = m ∧ Hid (Nest 24 33 2 cR wr w.heap.size (.slice (some ⟨g, 0, none⟩) m m) vs (spr (pt (m : Int)) m (L.take k))) ∧ Hid (Below w.heap.size w wr)) (fun s _ => L.length - (intOf s).toNat)
  case atStart => exact ⟨0, List.replicate m (.slice none 0 0), Nat.zero_le _, rfl, by simp, Lib.hid (by rw [List.take_zero, spr_nil, HG.out]; exact HG.out ▸ N0.out), B0⟩
  case round =>
    obtain ⟨k, vs, hk, rfl, hvl, HN, HB⟩ := hrel
    have HVL := Lib.hid hvl
    clear N0 B0 hvl
    by_cases hlt : k < L.length
    · obtain ⟨x, hx, -⟩ := get_ltR hlt
      obtain ⟨b1, o1, hA, hb1, c0, c1⟩ := at_rc (HLr.out.below HB.out) hx
      have hb1w : b1 < w.heap.size := by
        obtain ⟨b2, o2, hA2, hb2, -⟩ := at_rc HLr.out hx
        rw [hA] at hA2
        injection (Option.some.inj hA2) with e1 e2
        rw [e1]; exact hb2
      subst hA
      have HX := Lib.hid hx
      obtain ⟨hip, hpv⟩ := PT.out x
      have CX := Lib.hid (fun w0 => CP.out x.k w0)
      rw [hpv] at CX
      obtain ⟨ip, hipd⟩ : ∃ ip, ip = pt (m : Int) x := ⟨_, rfl⟩
      rw [← hipd] at CX hip
      have hip : ip < m := by simpa using hip
      have HMM : (spr (pt (m : Int)) m (L.take k))[ip]? = some ((L.take k).filter fun r => pt (m : Int) r == ip) := spr_get hip
      have hNl : ((L.take k).filter fun r => pt (m : Int) r == ip).length ≤ 4096 := Nat.le_trans (List.length_filter_le _ _) (by simp; omega)
      have HIP : Hid ((spr (pt (m : Int)) m (L.take k))[pt (m : Int) x]? = some ((L.take k).filter fun r => pt (m : Int) r == ip)) := Lib.hid (by rw [← hipd]; exact HMM)
      have HD := Lib.hid hipd
      clear hipd
      generalize ((L.take k).filter fun r => pt (m : Int) r == ip) = N at HMM hNl HIP
      have HSP := Lib.hid (fun (M : List (List Rc)) (h : M = spr (pt (m : Int)) m (L.take k)) => h)
      clear hx hpv HSP
      go_upto_region 11 with (go_at_call 20; refine (CX.out _).mono ?_; rintro e w2 ⟨rfl, rfl⟩)
      change Code.wp _ _ _ _ (wr.alloc (.cells #[.int .i64 x.k, .int .i64 x.v] 33))
      have bb := fresh0 wr (.cells #[.int .i64 x.k, .int .i64 x.v] 33)
      have WX := Whole.fresh wr 33 #[.int .i64 x.k, .int .i64 x.v]
      have N1 := HN.out.below bb
      have F1 := fresh_rows HN.out (Nat.le_refl _)
      have gbg := (HN.out.cell (v := vs[ip]'(by rw [HVL.out]; exact hip)) (List.getElem?_eq_getElem _)).2.2.1
      have B1 := HB.out.trans (bb.mono HB.out.size)
      generalize wr.alloc (.cells #[.int .i64 x.k, .int .i64 x.v] 33) = wx at bb WX N1 B1 ⊢
      generalize wr.heap.size = gb at WX F1 gbg ⊢
      obtain ⟨B, c0, ry⟩ := rdy_of HVL.out N1 HMM B1 WX.inside (.inr ⟨by omega, F1⟩) (WX.read 0) (WX.read 1)
      have RY := Lib.hid ry
      obtain ⟨og, hog⟩ := ry.gs
      have OG := Lib.hid hog
      clear ry hog HMM bb WX N1 B1 F1 gbg c1
      refine region_full 51 [(8, 10)] [(8, 5), (10, 5), (10, 8)] (fun k => k == 5 || k == 8 || k == 10) (fun w7 => RN w wx gb (0) x w7) ?hR ?r0 [pdOne 0 (Is (.slice (some ⟨g, 0, none⟩) m m)), pdOne 1 (Is (.int .i64 (ip : Nat))), pdOne 2 (Is (.slice (some ⟨g, 0, none⟩) m m)), pdOne 3 (Is (.int .i64 (ip : Nat))), pdOne 4 (Is (.pointer (some ⟨g, 0 + ip * 1, none⟩))), pdOne 5 (Is (.slice B N.length c0)), pdOne 6 (Is (.agg #[.int .i64 x.k, .int .i64 x.v])), pdOne 7 (LoneG 33 cR wx.heap.size x), pdOne 8 (Grew 24 33 2 cR wx w.heap.size (.slice (some ⟨g, 0, none⟩) m m) vs (spr (pt (m : Int)) m (L.take k)) ip (.slice B N.length c0) (N ++ [x])), pdOne 9 (Is (.pointer (some ⟨g, 0 + ip * 1, none⟩))), pdTwo 8 10 (fun u _ w7 => Nest 24 33 2 cR w7 w.heap.size (.slice (some ⟨g, 0, none⟩) m m) (vs.set ip u) ((spr (pt (m : Int)) m (L.take k)).set ip (N ++ [x])))] (fun k w7 => ((k = 5 ∨ k = 8) → Below wx.heap.size wx w7) ∧ (k = 10 → w7.heap[g]? = wx.heap[g]?)) (by kernel_rfl) rfl (by kernel_rfl) (by kernel_rfl) (by kernel_rfl) (by kernel_rfl) ?keep ?hO ?h0 ?tell
      case hR => exact fun wa wb hb h => h.run RY.out.wl RY.out.eb hb
      case r0 => exact RY.out.r0
      case keep => exact ⟨keep_one (keeps_is _), keep_one (keeps_is _), keep_one (keeps_is _), keep_one (keeps_is _), keep_one (keeps_is _), keep_one (keeps_is _), keep_one (keeps_is _), keep_one (keeps_loneG _ _), keep_one keeps_grew, keep_one (keeps_is _), keep_two (fun _ _ _ _ hb h => h.below hb), trivial⟩
      case hO => exact fun k wa wb hb h => ⟨fun e => (h.1 e).trans (hb.mono (h.1 e).size), fun e => (hb.block _ (by have h9 := h.2 e; exact (Array.getElem?_eq_some_iff.1 (h9.trans OG.out)).1)).trans (h.2 e)⟩
      case h0 => exact fun _ _ => ⟨fun _ => Below.refl _ _, fun _ => rfl⟩
      case tell =>
        intro fin hfin
        simp [lexPut, Act.put] at hfin
        simp only [TellF]
        refine ⟨⟨?_, ?_, ?_, ?_, ?_, ?_, ?_, ?_, ?_, ?_, ?_, trivial⟩, ?_⟩
        · intro v2 w7 hr hd
          refine yields_run (u := .slice (some ⟨g, 0, none⟩) m m) (w' := w7) ?_ (Below.refl _ _) rfl
          unfold execOp
          simp [go_sem, Act.eval]
        · intro v2 w7 hr hd
          refine yields_run (u := .int .i64 (ip : Nat)) (w' := w7) ?_ (Below.refl _ _) rfl
          unfold execOp
          simp [go_sem, Act.eval, Act.put]
        · intro v2 w7 hr hd
          refine yields_run (u := .slice (some ⟨g, 0, none⟩) m m) (w' := w7) ?_ (Below.refl _ _) rfl
          unfold execOp
          simp [go_sem, Act.eval, Act.put]
        · intro v2 w7 hr hd
          refine yields_run (u := .int .i64 (ip : Nat)) (w' := w7) ?_ (Below.refl _ _) rfl
          unfold execOp
          simp [go_sem, Act.eval, Act.put]
        · intro v2 w7 hr hd
          have h2 : v2 2 = _ := hd 2 (by kernel_rfl)
          have h3 : v2 3 = _ := hd 3 (by kernel_rfl)
          exact yields_index (b := g) (off := 0) (n := m) (c := m) (i := ip) (m := 1) rfl (by simp [Act.eval, Act.put, h2, h3]) (by simp [Act.eval, Act.put, h2, h3]) hip Tryd.underlying35 (by intro w; simp [Tryd.sizeOf24])
        · intro v2 w7 hr ho hd
          have h4 : v2 4 = _ := hd 4 (by kernel_rfl)
          have k0 := ((ho.1 (.inl (by first | rfl | trivial))).cell (p := ⟨g, ip, none⟩) RY.out.gw).trans RY.out.cv
          refine .inl (.inl ⟨.slice B N.length c0, w7, ?_, hr, fun _ _ _ _ hu => hu, fun _ _ _ _ hu => hu, rfl⟩)
          unfold execOp
          simp [go_sem, Act.eval, Act.put, h4, k0]
        · intro v2 w7 hr hd
          have k0 := hr.c0
          have k1 := hr.c1
          refine yields_run (u := .agg #[.int .i64 x.k, .int .i64 x.v]) (w' := w7) ?_ (Below.refl _ _) rfl
          unfold execOp
          simp [go_sem, Act.eval, Act.put, k0, k1]
        · intro v2 w7 hr hd
          have h6 : v2 6 = _ := hd 6 (by kernel_rfl)
          refine yields_run (u := .slice (some ⟨w7.heap.size, 0, none⟩) 1 1) (w' := w7.alloc (.cells (cR x).toArray 33)) ?_ (fresh0 w7 _) ⟨w7.heap.size, rfl, hr.size, Whole.fresh w7 _ _⟩
          unfold execOp
          simp [go_sem, Act.eval, Act.put, h6, cR]
        · intro v2 w7 hr ho hd
          have h5 : v2 5 = _ := hd 5 (by kernel_rfl)
          obtain ⟨gy, hz, hyl, hw⟩ : LoneG 33 cR wx.heap.size x (v2 7) w7 := hd 7 (by kernel_rfl)
          have hb7 := ho.1 (.inr (by first | rfl | trivial))
          refine .inl (yields_appendA (.tmp 44) (.tmp 46) 24 rfl w.heap.size 33 i0 (.agg #[.int .i64 0, .int .i64 0]) 2 16 Tryd.underlying24 hi0 hz0 hz1 hz2 rfl (by decide) (.slice B N.length c0) N.length (N.flatMap cR) (by simp [Act.eval, Act.put, h5]) (RY.out.ro.below hb7) ⟨gy, 0, none⟩ 1 1 (cR x) (by simp [Act.eval, Act.put, hz]) rfl (whole_cells hw) (cellsR.one x) (by decide) (by unfold maxLen; omega) (by omega) (Nat.le_trans RY.out.wl hr.size) ?_)
          intro g8 cap8 w8 hown hgrow hat
          refine ⟨hr.grow RY.out.wl RY.out.rb RY.out.ra hgrow, ?_, ?_, .inl ⟨own_snoc hown, (grown_run (World.grownBy.refl wx _) hb7).trans hgrow, ?_, _, _, by rw [List.length_append]; rfl⟩⟩
          · intro k2 v' hk2 hc hu
            exact match k2, hk2, hc, hu with
              | 0, _, _, hu => hu
              | 1, _, _, hu => hu
              | 2, _, _, hu => hu
              | 3, _, _, hu => hu
              | 4, _, _, hu => hu
              | 5, _, _, hu => hu
              | 6, _, _, hu => hu
              | 7, _, _, ⟨gx, h1, h2, h3⟩ => ⟨gx, h1, h2, h3.grown hgrow (fun e => absurd (RY.out.rl gx e.symm) (Nat.not_lt.2 h2))⟩
              | 8, hk2, _, _ => absurd rfl hk2
              | 9, _, _, hu => hu
              | 10, _, hc, _ => absurd hc (by decide)
              | _ + 11, _, _, _ => trivial
          · intro k2 hk2 hn hc2 h
            refine ⟨fun e => ?_, fun e => (hgrow.block g (Nat.lt_of_lt_of_le RY.out.gw hr.size) RY.out.ga).trans (h.2 e)⟩
            rcases e with rfl | rfl
            · exact absurd hc2 (by decide)
            · exact absurd rfl hk2
          · rcases hat with e | e
            · exact .inl e.symm
            · exact .inr ⟨g8, rfl, by rw [e]; exact hr.size⟩
        · intro v2 w7 hr hd
          have h0 : v2 0 = _ := hd 0 (by kernel_rfl)
          have h1 : v2 1 = _ := hd 1 (by kernel_rfl)
          exact yields_index (b := g) (off := 0) (n := m) (c := m) (i := ip) (m := 1) rfl (by simp [Act.eval, Act.put, h0, h1]) (by simp [Act.eval, Act.put, h0, h1]) hip Tryd.underlying35 (by intro w; simp [Tryd.sizeOf24])
        · intro v2 w7 hr ho hd
          have h9 : v2 9 = _ := hd 9 (by kernel_rfl)
          have hG : Grew 24 33 2 cR wx w.heap.size (.slice (some ⟨g, 0, none⟩) m m) vs (spr (pt (m : Int)) m (L.take k)) ip (.slice B N.length c0) (N ++ [x]) (v2 8) w7 := hd 8 (by kernel_rfl)
          obtain ⟨c5, f5, ⟨B8, c8, e8⟩, hN8⟩ := grew_store RY.out.hl RY.out.hn RY.out.hv RY.out.hm hG (ho.2 (by first | rfl | trivial))
          have hR8 := hr.grow RY.out.wl RY.out.rg RY.out.gl (only_store (g := g) (i := ip) (World.grownBy.refl w7 (some g)) (v2 8))
          refine .inr ⟨w7.setCell ⟨g, ip, none⟩ (v2 8), ?_, hR8, ?_, ?_, hN8⟩
          · clear hG hN8 hR8
            generalize v2 8 = u8 at e8
            subst e8
            unfold execOp
            simp [go_sem, Act.eval, Act.put, h9, c5, f5]
          · intro k2 v' hk2 hc hu
            exact match k2, hk2, hc, hu with
              | 0, _, _, hu => hu
              | 1, _, _, hu => hu
              | 2, _, _, hu => hu
              | 3, _, _, hu => hu
              | 4, _, _, hu => hu
              | 5, _, _, hu => hu
              | 6, _, _, hu => hu
              | 7, _, _, ⟨gx, h1, h2, h3⟩ => ⟨gx, h1, h2, h3.aside (by show gx ≠ g; have := RY.out.gw; omega) _⟩
              | 8, _, _, _ => .inr ⟨_, hN8⟩
              | 9, _, _, hu => hu
              | 10, hk2, _, _ => absurd rfl hk2
              | _ + 11, _, _, _ => trivial
          · intro k2 hk2 hn hc2 h
            refine ⟨fun e => ?_, fun e => absurd e hk2⟩
            rcases e with rfl | rfl <;> exact absurd hc2 (by decide)
        · intro v2 w7 hr hv
          have hNest := hv 10 (by decide)
          change Nest 24 33 2 cR w7 w.heap.size (.slice (some ⟨g, 0, none⟩) m m) (vs.set ip (v2 8)) ((spr (pt (m : Int)) m (L.take k)).set ip (N ++ [x])) at hNest
          rw [hfin]
          have HN9 := Lib.hid hNest
          have HB9 := Lib.hid hr.old
          clear hfin hv hr hNest
          generalize v2 8 = u8 at HN9 ⊢
          go_wp2_with fail
          go_roundw
          case rel => exact ⟨k + 1, vs.set ip u8, by omega, by go_num, by simp [HVL.out], Lib.hid (by rw [take_next HX.out, spr_next HIP.out, ← HD.out]; exact HN9.out), HB9⟩
          case measure => simp [intOf]; omega
    · obtain rfl : k = L.length := by omega
      rw [List.take_length] at HN
      go_wp2_with fail
      go_ret2
      exact ⟨g, vs, rfl, HN.out, HB.out⟩
set_option maxRecDepth 100000 in
theorem spread_no (A : Option Addr) (l c : Nat) (n : Int) (h : ¬ (1 ≤ n ∧ n ≤ 64)) (w : World) :
    Calls Tryd.prog 14 #[.slice A l c, .int .i64 n] w fun e W' => e = .returned (.tuple #[.slice none 0 0, .int .i64 1]) ∧ w = W' := by
  have PE : partE n = 1 := by unfold partE; rw [if_neg h]
  have CP := Lib.hid (fun a w0 => part_any a n w0)
  rw [PE] at CP
  clear PE h
  go_enter Tryd.func14, Tryd.ntmps14
  go_wp2_with (go_at_call 20; refine (CP.out _ _).mono ?_; rintro e w2 ⟨rfl, rfl⟩)
  go_ret2
  exact ⟨rfl, rfl⟩
theorem spread_any (A : Option Addr) (c : Nat) (L : List Rc) (n : Int) (mL : L.length ≤ 4096) (w : World) (hL : Lr w A L) :
    Calls Tryd.prog 14 #[.slice A L.length c, .int .i64 n] w fun e W' => ∃ B c', e = .returned (.tuple #[.slice B (sprV n L).length c', .int .i64 (partE n)]) ∧ LL 2 cR W' B (sprV n L) ∧ Below w.heap.size w W' := by
  by_cases h : 1 ≤ n ∧ n ≤ 64
  · obtain ⟨m, rfl⟩ : ∃ m : Nat, n = (m : Int) := ⟨n.toNat, by omega⟩
    have e1 : sprV (m : Int) L = spr (pt (m : Int)) m L := by unfold sprV; rw [if_pos h]; rfl
    have e2 : partE (m : Int) = 0 := by unfold partE; rw [if_pos h]
    refine (spread_yes A c L m (by omega) (by omega) mL w hL).mono fun e W' ⟨g, vs, he, hN, hB⟩ => ⟨some ⟨g, 0, none⟩, m, ?_, ?_, hB⟩
    · rw [he, e1, e2, spr_len]
    · rw [e1]; exact hN.lies cellsR
  · have e1 : sprV n L = [] := by unfold sprV; rw [if_neg h]
    have e2 : partE n = 1 := by unfold partE; rw [if_neg h]
    refine (spread_no A L.length c n h w).mono fun e W' ⟨he, hw⟩ => ⟨none, 0, ?_, ?_, hw ▸ Below.refl _ _⟩
    · rw [he, e1, e2]; rfl
    · rw [e1]; exact lL_nil _ _
end Go.Proofs.YtpbdfiddgbkkmaaDoor.data
