/-
  The contract of the document's Cut (by gen_ct.py).
-/
import Derived.Test.YtaiaadojnoipfaaDg
import Derived.Test.YtaiaadojnoipfaaDpc
namespace Go.Proofs.Ytaiaadojnoipfaa.data
open Go.ChangeShapes Go.WideShapes Go.ChangeAt Go.RowKit
open Go.Proofs.Ytaiaadojnoipfaa.opened Go.Proofs.Ytaiaadojnoipfaa.block Go.Proofs.Ytaiaadojnoipfaa.region

theorem set_last {α : Type} (NN : List (List α)) (x : α) : (NN ++ [[]]).set NN.length ([] ++ [x]) = NN ++ [[x]] := by
  rw [List.set_append_right _ _ (Nat.le_refl _), Nat.sub_self]
  rfl
set_option maxRecDepth 100000 in
set_option maxHeartbeats 16000000 in
theorem cutR_any (A : Option Addr) (c : Nat) (L : List Rc) (mL : L.length ≤ 4096) (w : World) (hL : Lr w A L) :
    Calls Try.prog 15 #[.slice A L.length c] w fun e W' => ∃ B c', e = .returned (.slice B (pcs L).length c') ∧ LL 2 cR W' B (pcs L) ∧ Below w.heap.size w W' := by
  have HLr := Lib.hid hL
  clear hL
  obtain ⟨i0, hi0, hz0, hz1, hz2⟩ := infoR_parts
  obtain ⟨i1, hi1, hz4, hz5, hz6⟩ := infoN'
  go_enter Try.func15, Try.ntmps15
  go_wp2_with fail
  go_loopw [3, 4] (fun v3 s wr => ∃ (k n : Nat) (V : Option Addr) (c3 : Nat) (vs : List Value), k ≤ L.length ∧ s = .int .i64 k ∧ v3 = .slice V n c3 ∧ n = (pcs (L.take k)).length ∧ vs.length = n ∧ Hid (Nest 22 59 2 cR wr w.heap.size (.slice V n c3) vs (pcs (L.take k))) ∧ Hid (Below w.heap.size w wr)) (fun _ s _ => L.length - (intOf s).toNat)
  case atStart => exact ⟨0, 0, none, 0, [], Nat.zero_le _, rfl, rfl, by rw [List.take_zero, pcs_nil]; rfl, rfl, Lib.hid (by rw [List.take_zero, pcs_nil]; exact nest_nil _ _), Lib.hid (Below.refl _ _)⟩
  case round =>
    obtain ⟨k, n, V, c3, vs, hk, rfl, rfl, hn, hvl, HN, HB⟩ := hrel
    by_cases hlt : k < L.length
    · obtain ⟨x, hx, -⟩ := get_ltR hlt
      obtain ⟨b1, o1, hA, hb1, c0, c1⟩ := at_rc (HLr.out.below HB.out) hx
      have hb1w : b1 < w.heap.size := by
        obtain ⟨b2, o2, hA2, hb2, -⟩ := at_rc HLr.out hx
        rw [hA] at hA2
        injection (Option.some.inj hA2) with e1 e2
        rw [e1]; exact hb2
      subst hA
      have hlk : (L.take k).length = k := by rw [List.length_take]; omega
      have hn64 : n ≤ 65 := by rw [hn, pcs_len, hlk]; omega
      have HX := Lib.hid (take_next hx)
      have HNL := Lib.hid hn
      by_cases h64 : k % 64 = 0
      · have HPF := Lib.hid (pcs_full (x := x) (show (L.take k).length % 64 = 0 by rw [hlk]; exact h64))
        have he64 : ((k : Int) % 64 == 0) = true := by rw [beq_iff_eq]; omega
        generalize pcs (L.take k) = NN at HN HNL HPF hn
        clear hlk hx h64
        subst hvl
        have HNN := Lib.hid hn
        clear hn HNL
        go_upto_region 7 with (at_builtin; refine wpList_append_own_at _ rfl _ _ 24 rfl w.heap.size 22 i1 (.slice none 0 0) 1 24 Try.underlying24 hi1 hz4 hz5 hz6 rfl (by decide) _ vs.length vs rfl (row_below HN.out.head (fresh0 wr (.cells #[.slice none 0 0] 22))) ⟨wr.heap.size, 0, none⟩ 1 1 [.slice none 0 0] rfl rfl (cell_newG _ _ _) (one_slice _ _ _) (by unfold maxLen; omega) (by omega) (by have := HB.out.size; simp; omega) ?_; intro v' wx hown' hgrow _ hat; obtain ⟨g, cp, rfl⟩ := OwnG.succ hown'; have N1 := Nest.more (HN.out.below (fresh0 wr (.cells #[.slice none 0 0] 22))) hown' hgrow (hat.imp id fun e => e); have B1 := (HB.out.alloc HB.out.size (.cells #[.slice none 0 0] 22)).grown hgrow (by have := HB.out.size; simp; omega) (fun q e => (HN.out.head.lt q e).1); have hcx0 := (World.grownBy_alloc wr (.cells #[.slice none 0 0] 22) (Value.slice V vs.length c3).ownBlock).cell c0 (fun e => by have := (HN.out.head.lt b1 e.symm).1; omega); have hcx1 := (World.grownBy_alloc wr (.cells #[.slice none 0 0] 22) (Value.slice V vs.length c3).ownBlock).cell c1 (fun e => by have := (HN.out.head.lt b1 e.symm).1; omega); replace hcx0 := hgrow.cell hcx0 (fun e => by have := (HN.out.head.lt b1 e.symm).1; omega); replace hcx1 := hgrow.cell hcx1 (fun e => by have := (HN.out.head.lt b1 e.symm).1; omega); have hbx : b1 < wx.heap.size := Nat.lt_of_lt_of_le hb1 (Nat.le_trans (by simp) hgrow.size); clear hown' hgrow hat)
        clear HN HB c0 c1 hb1 he64
        have hn := HNN.out
        clear HNN
        obtain ⟨ip, hipd⟩ : ∃ ip, ip = vs.length := ⟨_, rfl⟩
        obtain ⟨n, hnn⟩ : ∃ n, n = vs.length + 1 := ⟨_, rfl⟩
        have hip : ip < n := by omega
        have hsub : IntKind.i64.wrap ((n : Int) - 1) = (ip : Int) := by rw [IntKind.wrap_i64]; omega
        obtain ⟨N, hN0⟩ : ∃ N : List Rc, N = [] := ⟨_, rfl⟩
        have hNl : N.length ≤ 4096 := by rw [hN0]; exact Nat.zero_le _
        have hMM : (NN ++ [[]])[ip]? = some N := by rw [hipd, hn, hN0]; simp
        rw [← hnn] at N1 ⊢
        have hvl2 : (vs ++ [Value.slice none 0 0]).length = n := by rw [List.length_append, hnn]; rfl
        have HPG : Hid (pcs (L.take (k + 1)) = (NN ++ [[]]).set ip (N ++ [x])) := Lib.hid (by rw [HX.out, HPF.out, hipd, hn, hN0, set_last])
        have HPL : Hid (n = (pcs (L.take (k + 1))).length) := Lib.hid (by rw [HPG.out, hnn, List.length_set, List.length_append, ← hn]; rfl)
        clear HPF HX hn hipd hnn
        generalize vs ++ [Value.slice none 0 0] = vs at N1 hvl2
        generalize NN ++ [[]] = NN at N1 hMM HPG
        clear hN0
        have HVL := Lib.hid hvl2
        clear hvl2
        obtain ⟨B, c0, ry⟩ := rdy_of HVL.out N1 hMM B1 hbx (.inl hb1w) hcx0 hcx1
        have RY := Lib.hid ry
        obtain ⟨og, hog⟩ := ry.gs
        have OG := Lib.hid hog
        clear ry hog hMM N1 B1 hbx hcx0 hcx1
        refine region_full 35 [(15, 17)] [(15, 9), (17, 9), (17, 15)] (fun k => k == 9 || k == 15 || k == 17) (fun w7 => RN w wx b1 (o1 + k * 2) x w7) ?hR ?r0 [pdOne 0 (Is (.slice (some ⟨g, 0, none⟩) n cp)), pdOne 1 (Is (.slice (some ⟨g, 0, none⟩) n cp)), pdOne 2 (Is (.int .i64 (n : Nat))), pdOne 3 (Is (.int .i64 (ip : Nat))), pdOne 4 (Is (.slice (some ⟨g, 0, none⟩) n cp)), pdOne 5 (Is (.slice (some ⟨g, 0, none⟩) n cp)), pdOne 6 (Is (.int .i64 (n : Nat))), pdOne 7 (Is (.int .i64 (ip : Nat))), pdOne 8 (Is (.pointer (some ⟨g, 0 + ip * 1, none⟩))), pdOne 9 (Is (.slice B N.length c0)), pdOne 10 (Is (.slice (some ⟨b1, o1, none⟩) L.length c)), pdOne 11 (Is (.int .i64 (k : Nat))), pdOne 12 (Is (.pointer (some ⟨b1, o1 + k * 2, none⟩))), pdOne 13 (Is (.agg #[.int .i64 x.k, .int .i64 x.v])), pdOne 14 (LoneG 59 cR wx.heap.size x), pdOne 15 (Grew 22 59 2 cR wx w.heap.size (.slice (some ⟨g, 0, none⟩) n cp) vs NN ip (.slice B N.length c0) (N ++ [x])), pdOne 16 (Is (.pointer (some ⟨g, 0 + ip * 1, none⟩))), pdTwo 15 17 (fun u _ w7 => Nest 22 59 2 cR w7 w.heap.size (.slice (some ⟨g, 0, none⟩) n cp) (vs.set ip u) (NN.set ip (N ++ [x])))] (fun k w7 => ((k = 9 ∨ k = 15) → Below wx.heap.size wx w7) ∧ (k = 17 → w7.heap[g]? = wx.heap[g]?)) (by kernel_rfl) rfl (by kernel_rfl) (by kernel_rfl) (by kernel_rfl) (by kernel_rfl) ?keep ?hO ?h0 ?tell
        case hR => exact fun wa wb hb h => h.run RY.out.wl RY.out.eb hb
        case r0 => exact RY.out.r0
        case keep => exact ⟨keep_one (keeps_is _), keep_one (keeps_is _), keep_one (keeps_is _), keep_one (keeps_is _), keep_one (keeps_is _), keep_one (keeps_is _), keep_one (keeps_is _), keep_one (keeps_is _), keep_one (keeps_is _), keep_one (keeps_is _), keep_one (keeps_is _), keep_one (keeps_is _), keep_one (keeps_is _), keep_one (keeps_is _), keep_one (keeps_loneG _ _), keep_one keeps_grew, keep_one (keeps_is _), keep_two (fun _ _ _ _ hb h => h.below hb), trivial⟩
        case hO => exact fun k wa wb hb h => ⟨fun e => (h.1 e).trans (hb.mono (h.1 e).size), fun e => (hb.block _ (by have h9 := h.2 e; exact (Array.getElem?_eq_some_iff.1 (h9.trans OG.out)).1)).trans (h.2 e)⟩
        case h0 => exact fun _ _ => ⟨fun _ => Below.refl _ _, fun _ => rfl⟩
        case tell =>
          intro fin hfin
          simp [lexPut, Act.put] at hfin
          simp only [TellF]
          refine ⟨⟨?_, ?_, ?_, ?_, ?_, ?_, ?_, ?_, ?_, ?_, ?_, ?_, ?_, ?_, ?_, ?_, ?_, ?_, trivial⟩, ?_⟩
          · intro v2 w7 hr hd
            refine yields_run (u := .slice (some ⟨g, 0, none⟩) n cp) (w' := w7) ?_ (Below.refl _ _) rfl
            unfold execOp
            simp [go_sem, Act.eval]
          · intro v2 w7 hr hd
            refine yields_run (u := .slice (some ⟨g, 0, none⟩) n cp) (w' := w7) ?_ (Below.refl _ _) rfl
            unfold execOp
            simp [go_sem, Act.eval, Act.put]
          · intro v2 w7 hr hd
            have h1 : v2 1 = _ := hd 1 (by kernel_rfl)
            refine yields_run (u := .int .i64 (n : Nat)) (w' := w7) ?_ (Below.refl _ _) rfl
            unfold execOp
            simp [go_sem, Act.eval, Act.put, h1]
          · intro v2 w7 hr hd
            have h2 : v2 2 = _ := hd 2 (by kernel_rfl)
            refine yields_run (u := .int .i64 (ip : Nat)) (w' := w7) ?_ (Below.refl _ _) rfl
            unfold execOp
            simp [go_sem, Act.eval, Act.put, h2, hsub]
          · intro v2 w7 hr hd
            refine yields_run (u := .slice (some ⟨g, 0, none⟩) n cp) (w' := w7) ?_ (Below.refl _ _) rfl
            unfold execOp
            simp [go_sem, Act.eval, Act.put]
          · intro v2 w7 hr hd
            refine yields_run (u := .slice (some ⟨g, 0, none⟩) n cp) (w' := w7) ?_ (Below.refl _ _) rfl
            unfold execOp
            simp [go_sem, Act.eval, Act.put]
          · intro v2 w7 hr hd
            have h5 : v2 5 = _ := hd 5 (by kernel_rfl)
            refine yields_run (u := .int .i64 (n : Nat)) (w' := w7) ?_ (Below.refl _ _) rfl
            unfold execOp
            simp [go_sem, Act.eval, Act.put, h5]
          · intro v2 w7 hr hd
            have h6 : v2 6 = _ := hd 6 (by kernel_rfl)
            refine yields_run (u := .int .i64 (ip : Nat)) (w' := w7) ?_ (Below.refl _ _) rfl
            unfold execOp
            simp [go_sem, Act.eval, Act.put, h6, hsub]
          · intro v2 w7 hr hd
            have h4 : v2 4 = _ := hd 4 (by kernel_rfl)
            have h7 : v2 7 = _ := hd 7 (by kernel_rfl)
            exact yields_index (b := g) (off := 0) (n := n) (c := cp) (i := ip) (m := 1) rfl (by simp [Act.eval, Act.put, h4, h7]) (by simp [Act.eval, Act.put, h4, h7]) hip Try.underlying24 (by intro w; simp [Try.sizeOf22])
          · intro v2 w7 hr ho hd
            have h8 : v2 8 = _ := hd 8 (by kernel_rfl)
            have k0 := ((ho.1 (.inl (by first | rfl | trivial))).cell (p := ⟨g, ip, none⟩) RY.out.gw).trans RY.out.cv
            refine .inl (.inl ⟨.slice B N.length c0, w7, ?_, hr, fun _ _ _ _ hu => hu, fun _ _ _ _ hu => hu, rfl⟩)
            unfold execOp
            simp [go_sem, Act.eval, Act.put, h8, k0]
          · intro v2 w7 hr hd
            refine yields_run (u := .slice (some ⟨b1, o1, none⟩) L.length c) (w' := w7) ?_ (Below.refl _ _) rfl
            unfold execOp
            simp [go_sem, Act.eval, Act.put]
          · intro v2 w7 hr hd
            refine yields_run (u := .int .i64 (k : Nat)) (w' := w7) ?_ (Below.refl _ _) rfl
            unfold execOp
            simp [go_sem, Act.eval, Act.put]
          · intro v2 w7 hr hd
            have h10 : v2 10 = _ := hd 10 (by kernel_rfl)
            have h11 : v2 11 = _ := hd 11 (by kernel_rfl)
            exact yields_index (b := b1) (off := o1) (n := L.length) (c := c) (i := k) (m := 2) rfl (by simp [Act.eval, Act.put, h10, h11]) (by simp [Act.eval, Act.put, h10, h11]) hlt Try.underlying22 (by intro w; simp [Try.sizeOf59])
          · intro v2 w7 hr hd
            have h12 : v2 12 = _ := hd 12 (by kernel_rfl)
            have k0 := hr.c0
            have k1 := hr.c1
            refine yields_run (u := .agg #[.int .i64 x.k, .int .i64 x.v]) (w' := w7) ?_ (Below.refl _ _) rfl
            unfold execOp
            simp [go_sem, Act.eval, Act.put, h12, k0, k1]
          · intro v2 w7 hr hd
            have h13 : v2 13 = _ := hd 13 (by kernel_rfl)
            refine yields_run (u := .slice (some ⟨w7.heap.size, 0, none⟩) 1 1) (w' := w7.alloc (.cells (cR x).toArray 59)) ?_ (fresh0 w7 _) ⟨w7.heap.size, rfl, hr.size, Whole.fresh w7 _ _⟩
            unfold execOp
            simp [go_sem, Act.eval, Act.put, h13, cR]
          · intro v2 w7 hr ho hd
            have h9 : v2 9 = _ := hd 9 (by kernel_rfl)
            obtain ⟨gy, hz, hyl, hw⟩ : LoneG 59 cR wx.heap.size x (v2 14) w7 := hd 14 (by kernel_rfl)
            have hb7 := ho.1 (.inr (by first | rfl | trivial))
            refine .inl (yields_appendA (.tmp 26) (.tmp 31) 22 rfl w.heap.size 59 i0 (.agg #[.int .i64 0, .int .i64 0]) 2 16 Try.underlying22 hi0 hz0 hz1 hz2 rfl (by decide) (.slice B N.length c0) N.length (N.flatMap cR) (by simp [Act.eval, Act.put, h9]) (RY.out.ro.below hb7) ⟨gy, 0, none⟩ 1 1 (cR x) (by simp [Act.eval, Act.put, hz]) rfl (whole_cells hw) (cellsR.one x) (by decide) (by unfold maxLen; omega) (by omega) (Nat.le_trans RY.out.wl hr.size) ?_)
            intro g8 cap8 w8 hown hgrow hat
            refine ⟨hr.grow RY.out.wl RY.out.rb RY.out.ra hgrow, ?_, ?_, .inl ⟨own_snoc hown, (grown_run (World.grownBy.refl wx _) hb7).trans hgrow, ?_, _, _, by rw [List.length_append]; rfl⟩⟩
            · intro k2 v' hk2 hc hu
              exact match k2, hk2, hc, hu with
                | 0, _, _, hu => hu
                | 1, _, _, hu => hu
                | 2, _, _, hu => hu
                | 3, _, _, hu => hu
                | 4, _, _, hu => hu
                | 5, _, _, hu => hu
                | 6, _, _, hu => hu
                | 7, _, _, hu => hu
                | 8, _, _, hu => hu
                | 9, _, _, hu => hu
                | 10, _, _, hu => hu
                | 11, _, _, hu => hu
                | 12, _, _, hu => hu
                | 13, _, _, hu => hu
                | 14, _, _, ⟨gx, h1, h2, h3⟩ => ⟨gx, h1, h2, h3.grown hgrow (fun e => absurd (RY.out.rl gx e.symm) (Nat.not_lt.2 h2))⟩
                | 15, hk2, _, _ => absurd rfl hk2
                | 16, _, _, hu => hu
                | 17, _, hc, _ => absurd hc (by decide)
                | _ + 18, _, _, _ => trivial
            · intro k2 hk2 hn hc2 h
              refine ⟨fun e => ?_, fun e => (hgrow.block g (Nat.lt_of_lt_of_le RY.out.gw hr.size) RY.out.ga).trans (h.2 e)⟩
              rcases e with rfl | rfl
              · exact absurd hc2 (by decide)
              · exact absurd rfl hk2
            · rcases hat with e | e
              · exact .inl e.symm
              · exact .inr ⟨g8, rfl, by rw [e]; exact hr.size⟩
          · intro v2 w7 hr hd
            have h0 : v2 0 = _ := hd 0 (by kernel_rfl)
            have h3 : v2 3 = _ := hd 3 (by kernel_rfl)
            exact yields_index (b := g) (off := 0) (n := n) (c := cp) (i := ip) (m := 1) rfl (by simp [Act.eval, Act.put, h0, h3]) (by simp [Act.eval, Act.put, h0, h3]) hip Try.underlying24 (by intro w; simp [Try.sizeOf22])
          · intro v2 w7 hr ho hd
            have h16 : v2 16 = _ := hd 16 (by kernel_rfl)
            have hG : Grew 22 59 2 cR wx w.heap.size (.slice (some ⟨g, 0, none⟩) n cp) vs NN ip (.slice B N.length c0) (N ++ [x]) (v2 15) w7 := hd 15 (by kernel_rfl)
            obtain ⟨c5, f5, ⟨B8, c8, e8⟩, hN8⟩ := grew_store RY.out.hl RY.out.hn RY.out.hv RY.out.hm hG (ho.2 (by first | rfl | trivial))
            have hR8 := hr.grow RY.out.wl RY.out.rg RY.out.gl (only_store (g := g) (i := ip) (World.grownBy.refl w7 (some g)) (v2 15))
            refine .inr ⟨w7.setCell ⟨g, ip, none⟩ (v2 15), ?_, hR8, ?_, ?_, hN8⟩
            · clear hG hN8 hR8
              generalize v2 15 = u8 at e8
              subst e8
              unfold execOp
              simp [go_sem, Act.eval, Act.put, h16, c5, f5]
            · intro k2 v' hk2 hc hu
              exact match k2, hk2, hc, hu with
                | 0, _, _, hu => hu
                | 1, _, _, hu => hu
                | 2, _, _, hu => hu
                | 3, _, _, hu => hu
                | 4, _, _, hu => hu
                | 5, _, _, hu => hu
                | 6, _, _, hu => hu
                | 7, _, _, hu => hu
                | 8, _, _, hu => hu
                | 9, _, _, hu => hu
                | 10, _, _, hu => hu
                | 11, _, _, hu => hu
                | 12, _, _, hu => hu
                | 13, _, _, hu => hu
                | 14, _, _, ⟨gx, h1, h2, h3⟩ => ⟨gx, h1, h2, h3.aside (by show gx ≠ g; have := RY.out.gw; omega) _⟩
                | 15, _, _, _ => .inr ⟨_, hN8⟩
                | 16, _, _, hu => hu
                | 17, hk2, _, _ => absurd rfl hk2
                | _ + 18, _, _, _ => trivial
            · intro k2 hk2 hn hc2 h
              refine ⟨fun e => ?_, fun e => absurd e hk2⟩
              rcases e with rfl | rfl <;> exact absurd hc2 (by decide)
          · intro v2 w7 hr hv
            have hNest := hv 17 (by decide)
            change Nest 22 59 2 cR w7 w.heap.size (.slice (some ⟨g, 0, none⟩) n cp) (vs.set ip (v2 15)) (NN.set ip (N ++ [x])) at hNest
            rw [hfin]
            have HN9 := Lib.hid hNest
            have HB9 := Lib.hid hr.old
            clear hfin hv hr hNest
            generalize v2 15 = u8 at HN9 ⊢
            go_wp2_with fail
            go_roundw
            case rel => exact ⟨k + 1, n, some ⟨g, 0, none⟩, cp, vs.set ip u8, by omega, by go_num, rfl, HPL.out, by rw [List.length_set]; exact HVL.out, Lib.hid (by rw [HPG.out]; exact HN9.out), HB9⟩
            case measure => simp [intOf]; omega
      · have hne : n ≠ 0 := by rw [hn, pcs_len, hlk]; omega
        have he64 : ((k : Int) % 64 == 0) = false := by rw [beq_eq_false_iff_ne]; omega
        obtain ⟨g, cp, hV⟩ : ∃ g cp, Value.slice V n c3 = .slice (some ⟨g, 0, none⟩) n cp := by
          have h := HN.out.head
          rw [hvl] at h
          obtain ⟨n', rfl⟩ : ∃ n', n = n' + 1 := ⟨n - 1, by omega⟩
          exact OwnG.succ h
        injection hV with e1 e2 e3
        subst e1 e3
        obtain ⟨cp, hcp⟩ : ∃ cp, cp = c3 := ⟨_, rfl⟩
        rw [← hcp] at HN ⊢
        clear hcp
        obtain ⟨ip, hipd⟩ : ∃ ip, ip = n - 1 := ⟨_, rfl⟩
        have hip : ip < n := by omega
        have hMM0 : (pcs (L.take k))[ip]? = some ((pcs (L.take k))[ip]'(by rw [← hn]; exact hip)) := List.getElem?_eq_getElem _
        have hNl := (pcs_sizes hMM0).2.1
        generalize (pcs (L.take k))[ip]'(by rw [← hn]; exact hip) = N at hMM0 hNl
        have HPM := Lib.hid (pcs_more (x := x) (N := N) (show (L.take k).length % 64 ≠ 0 by rw [hlk]; exact h64) (by rw [← hn, ← hipd]; exact hMM0))
        rw [← hn, ← hipd, ← HX.out] at HPM
        have hMM := hMM0
        generalize pcs (L.take k) = NN at HN HNL HPM hn hMM hMM0
        have HPG : Hid (pcs (L.take (k + 1)) = NN.set ip (N ++ [x])) := HPM
        have HPL : Hid (n = (pcs (L.take (k + 1))).length) := Lib.hid (by rw [HPG.out, List.length_set]; exact hn)
        have hsub : IntKind.i64.wrap ((n : Int) - 1) = (ip : Int) := by rw [IntKind.wrap_i64]; omega
        have hNl : N.length ≤ 4096 := by omega
        have HVL := Lib.hid hvl
        clear hlk hx h64 hMM0 HPM hne hipd hn HNL HX hvl
        go_upto_region 7 with fail
        obtain ⟨wx, hwx⟩ : ∃ wx, wx = wr := ⟨_, rfl⟩
        rw [← hwx] at c0 c1 hb1 HN HB ⊢
        clear hwx
        obtain ⟨B, cc, ry⟩ := rdy_of HVL.out HN.out hMM HB.out hb1 (.inl hb1w) c0 c1
        have RY := Lib.hid ry
        obtain ⟨og, hog⟩ := ry.gs
        have OG := Lib.hid hog
        clear ry hog hMM HN HB hb1 c0 c1 he64
        obtain ⟨c0, hcc⟩ : ∃ c0, c0 = cc := ⟨_, rfl⟩
        rw [← hcc] at RY
        clear hcc
        refine region_full 35 [(15, 17)] [(15, 9), (17, 9), (17, 15)] (fun k => k == 9 || k == 15 || k == 17) (fun w7 => RN w wx b1 (o1 + k * 2) x w7) ?hR ?r0 [pdOne 0 (Is (.slice (some ⟨g, 0, none⟩) n cp)), pdOne 1 (Is (.slice (some ⟨g, 0, none⟩) n cp)), pdOne 2 (Is (.int .i64 (n : Nat))), pdOne 3 (Is (.int .i64 (ip : Nat))), pdOne 4 (Is (.slice (some ⟨g, 0, none⟩) n cp)), pdOne 5 (Is (.slice (some ⟨g, 0, none⟩) n cp)), pdOne 6 (Is (.int .i64 (n : Nat))), pdOne 7 (Is (.int .i64 (ip : Nat))), pdOne 8 (Is (.pointer (some ⟨g, 0 + ip * 1, none⟩))), pdOne 9 (Is (.slice B N.length c0)), pdOne 10 (Is (.slice (some ⟨b1, o1, none⟩) L.length c)), pdOne 11 (Is (.int .i64 (k : Nat))), pdOne 12 (Is (.pointer (some ⟨b1, o1 + k * 2, none⟩))), pdOne 13 (Is (.agg #[.int .i64 x.k, .int .i64 x.v])), pdOne 14 (LoneG 59 cR wx.heap.size x), pdOne 15 (Grew 22 59 2 cR wx w.heap.size (.slice (some ⟨g, 0, none⟩) n cp) vs NN ip (.slice B N.length c0) (N ++ [x])), pdOne 16 (Is (.pointer (some ⟨g, 0 + ip * 1, none⟩))), pdTwo 15 17 (fun u _ w7 => Nest 22 59 2 cR w7 w.heap.size (.slice (some ⟨g, 0, none⟩) n cp) (vs.set ip u) (NN.set ip (N ++ [x])))] (fun k w7 => ((k = 9 ∨ k = 15) → Below wx.heap.size wx w7) ∧ (k = 17 → w7.heap[g]? = wx.heap[g]?)) (by kernel_rfl) rfl (by kernel_rfl) (by kernel_rfl) (by kernel_rfl) (by kernel_rfl) ?keep ?hO ?h0 ?tell
        case hR => exact fun wa wb hb h => h.run RY.out.wl RY.out.eb hb
        case r0 => exact RY.out.r0
        case keep => exact ⟨keep_one (keeps_is _), keep_one (keeps_is _), keep_one (keeps_is _), keep_one (keeps_is _), keep_one (keeps_is _), keep_one (keeps_is _), keep_one (keeps_is _), keep_one (keeps_is _), keep_one (keeps_is _), keep_one (keeps_is _), keep_one (keeps_is _), keep_one (keeps_is _), keep_one (keeps_is _), keep_one (keeps_is _), keep_one (keeps_loneG _ _), keep_one keeps_grew, keep_one (keeps_is _), keep_two (fun _ _ _ _ hb h => h.below hb), trivial⟩
        case hO => exact fun k wa wb hb h => ⟨fun e => (h.1 e).trans (hb.mono (h.1 e).size), fun e => (hb.block _ (by have h9 := h.2 e; exact (Array.getElem?_eq_some_iff.1 (h9.trans OG.out)).1)).trans (h.2 e)⟩
        case h0 => exact fun _ _ => ⟨fun _ => Below.refl _ _, fun _ => rfl⟩
        case tell =>
          intro fin hfin
          simp [lexPut, Act.put] at hfin
          simp only [TellF]
          refine ⟨⟨?_, ?_, ?_, ?_, ?_, ?_, ?_, ?_, ?_, ?_, ?_, ?_, ?_, ?_, ?_, ?_, ?_, ?_, trivial⟩, ?_⟩
          · intro v2 w7 hr hd
            refine yields_run (u := .slice (some ⟨g, 0, none⟩) n cp) (w' := w7) ?_ (Below.refl _ _) rfl
            unfold execOp
            simp [go_sem, Act.eval]
          · intro v2 w7 hr hd
            refine yields_run (u := .slice (some ⟨g, 0, none⟩) n cp) (w' := w7) ?_ (Below.refl _ _) rfl
            unfold execOp
            simp [go_sem, Act.eval, Act.put]
          · intro v2 w7 hr hd
            have h1 : v2 1 = _ := hd 1 (by kernel_rfl)
            refine yields_run (u := .int .i64 (n : Nat)) (w' := w7) ?_ (Below.refl _ _) rfl
            unfold execOp
            simp [go_sem, Act.eval, Act.put, h1]
          · intro v2 w7 hr hd
            have h2 : v2 2 = _ := hd 2 (by kernel_rfl)
            refine yields_run (u := .int .i64 (ip : Nat)) (w' := w7) ?_ (Below.refl _ _) rfl
            unfold execOp
            simp [go_sem, Act.eval, Act.put, h2, hsub]
          · intro v2 w7 hr hd
            refine yields_run (u := .slice (some ⟨g, 0, none⟩) n cp) (w' := w7) ?_ (Below.refl _ _) rfl
            unfold execOp
            simp [go_sem, Act.eval, Act.put]
          · intro v2 w7 hr hd
            refine yields_run (u := .slice (some ⟨g, 0, none⟩) n cp) (w' := w7) ?_ (Below.refl _ _) rfl
            unfold execOp
            simp [go_sem, Act.eval, Act.put]
          · intro v2 w7 hr hd
            have h5 : v2 5 = _ := hd 5 (by kernel_rfl)
            refine yields_run (u := .int .i64 (n : Nat)) (w' := w7) ?_ (Below.refl _ _) rfl
            unfold execOp
            simp [go_sem, Act.eval, Act.put, h5]
          · intro v2 w7 hr hd
            have h6 : v2 6 = _ := hd 6 (by kernel_rfl)
            refine yields_run (u := .int .i64 (ip : Nat)) (w' := w7) ?_ (Below.refl _ _) rfl
            unfold execOp
            simp [go_sem, Act.eval, Act.put, h6, hsub]
          · intro v2 w7 hr hd
            have h4 : v2 4 = _ := hd 4 (by kernel_rfl)
            have h7 : v2 7 = _ := hd 7 (by kernel_rfl)
            exact yields_index (b := g) (off := 0) (n := n) (c := cp) (i := ip) (m := 1) rfl (by simp [Act.eval, Act.put, h4, h7]) (by simp [Act.eval, Act.put, h4, h7]) hip Try.underlying24 (by intro w; simp [Try.sizeOf22])
          · intro v2 w7 hr ho hd
            have h8 : v2 8 = _ := hd 8 (by kernel_rfl)
            have k0 := ((ho.1 (.inl (by first | rfl | trivial))).cell (p := ⟨g, ip, none⟩) RY.out.gw).trans RY.out.cv
            refine .inl (.inl ⟨.slice B N.length c0, w7, ?_, hr, fun _ _ _ _ hu => hu, fun _ _ _ _ hu => hu, rfl⟩)
            unfold execOp
            simp [go_sem, Act.eval, Act.put, h8, k0]
          · intro v2 w7 hr hd
            refine yields_run (u := .slice (some ⟨b1, o1, none⟩) L.length c) (w' := w7) ?_ (Below.refl _ _) rfl
            unfold execOp
            simp [go_sem, Act.eval, Act.put]
          · intro v2 w7 hr hd
            refine yields_run (u := .int .i64 (k : Nat)) (w' := w7) ?_ (Below.refl _ _) rfl
            unfold execOp
            simp [go_sem, Act.eval, Act.put]
          · intro v2 w7 hr hd
            have h10 : v2 10 = _ := hd 10 (by kernel_rfl)
            have h11 : v2 11 = _ := hd 11 (by kernel_rfl)
            exact yields_index (b := b1) (off := o1) (n := L.length) (c := c) (i := k) (m := 2) rfl (by simp [Act.eval, Act.put, h10, h11]) (by simp [Act.eval, Act.put, h10, h11]) hlt Try.underlying22 (by intro w; simp [Try.sizeOf59])
          · intro v2 w7 hr hd
            have h12 : v2 12 = _ := hd 12 (by kernel_rfl)
            have k0 := hr.c0
            have k1 := hr.c1
            refine yields_run (u := .agg #[.int .i64 x.k, .int .i64 x.v]) (w' := w7) ?_ (Below.refl _ _) rfl
            unfold execOp
            simp [go_sem, Act.eval, Act.put, h12, k0, k1]
          · intro v2 w7 hr hd
            have h13 : v2 13 = _ := hd 13 (by kernel_rfl)
            refine yields_run (u := .slice (some ⟨w7.heap.size, 0, none⟩) 1 1) (w' := w7.alloc (.cells (cR x).toArray 59)) ?_ (fresh0 w7 _) ⟨w7.heap.size, rfl, hr.size, Whole.fresh w7 _ _⟩
            unfold execOp
            simp [go_sem, Act.eval, Act.put, h13, cR]
          · intro v2 w7 hr ho hd
            have h9 : v2 9 = _ := hd 9 (by kernel_rfl)
            obtain ⟨gy, hz, hyl, hw⟩ : LoneG 59 cR wx.heap.size x (v2 14) w7 := hd 14 (by kernel_rfl)
            have hb7 := ho.1 (.inr (by first | rfl | trivial))
            refine .inl (yields_appendA (.tmp 26) (.tmp 31) 22 rfl w.heap.size 59 i0 (.agg #[.int .i64 0, .int .i64 0]) 2 16 Try.underlying22 hi0 hz0 hz1 hz2 rfl (by decide) (.slice B N.length c0) N.length (N.flatMap cR) (by simp [Act.eval, Act.put, h9]) (RY.out.ro.below hb7) ⟨gy, 0, none⟩ 1 1 (cR x) (by simp [Act.eval, Act.put, hz]) rfl (whole_cells hw) (cellsR.one x) (by decide) (by unfold maxLen; omega) (by omega) (Nat.le_trans RY.out.wl hr.size) ?_)
            intro g8 cap8 w8 hown hgrow hat
            refine ⟨hr.grow RY.out.wl RY.out.rb RY.out.ra hgrow, ?_, ?_, .inl ⟨own_snoc hown, (grown_run (World.grownBy.refl wx _) hb7).trans hgrow, ?_, _, _, by rw [List.length_append]; rfl⟩⟩
            · intro k2 v' hk2 hc hu
              exact match k2, hk2, hc, hu with
                | 0, _, _, hu => hu
                | 1, _, _, hu => hu
                | 2, _, _, hu => hu
                | 3, _, _, hu => hu
                | 4, _, _, hu => hu
                | 5, _, _, hu => hu
                | 6, _, _, hu => hu
                | 7, _, _, hu => hu
                | 8, _, _, hu => hu
                | 9, _, _, hu => hu
                | 10, _, _, hu => hu
                | 11, _, _, hu => hu
                | 12, _, _, hu => hu
                | 13, _, _, hu => hu
                | 14, _, _, ⟨gx, h1, h2, h3⟩ => ⟨gx, h1, h2, h3.grown hgrow (fun e => absurd (RY.out.rl gx e.symm) (Nat.not_lt.2 h2))⟩
                | 15, hk2, _, _ => absurd rfl hk2
                | 16, _, _, hu => hu
                | 17, _, hc, _ => absurd hc (by decide)
                | _ + 18, _, _, _ => trivial
            · intro k2 hk2 hn hc2 h
              refine ⟨fun e => ?_, fun e => (hgrow.block g (Nat.lt_of_lt_of_le RY.out.gw hr.size) RY.out.ga).trans (h.2 e)⟩
              rcases e with rfl | rfl
              · exact absurd hc2 (by decide)
              · exact absurd rfl hk2
            · rcases hat with e | e
              · exact .inl e.symm
              · exact .inr ⟨g8, rfl, by rw [e]; exact hr.size⟩
          · intro v2 w7 hr hd
            have h0 : v2 0 = _ := hd 0 (by kernel_rfl)
            have h3 : v2 3 = _ := hd 3 (by kernel_rfl)
            exact yields_index (b := g) (off := 0) (n := n) (c := cp) (i := ip) (m := 1) rfl (by simp [Act.eval, Act.put, h0, h3]) (by simp [Act.eval, Act.put, h0, h3]) hip Try.underlying24 (by intro w; simp [Try.sizeOf22])
          · intro v2 w7 hr ho hd
            have h16 : v2 16 = _ := hd 16 (by kernel_rfl)
            have hG : Grew 22 59 2 cR wx w.heap.size (.slice (some ⟨g, 0, none⟩) n cp) vs NN ip (.slice B N.length c0) (N ++ [x]) (v2 15) w7 := hd 15 (by kernel_rfl)
            obtain ⟨c5, f5, ⟨B8, c8, e8⟩, hN8⟩ := grew_store RY.out.hl RY.out.hn RY.out.hv RY.out.hm hG (ho.2 (by first | rfl | trivial))
            have hR8 := hr.grow RY.out.wl RY.out.rg RY.out.gl (only_store (g := g) (i := ip) (World.grownBy.refl w7 (some g)) (v2 15))
            refine .inr ⟨w7.setCell ⟨g, ip, none⟩ (v2 15), ?_, hR8, ?_, ?_, hN8⟩
            · clear hG hN8 hR8
              generalize v2 15 = u8 at e8
              subst e8
              unfold execOp
              simp [go_sem, Act.eval, Act.put, h16, c5, f5]
            · intro k2 v' hk2 hc hu
              exact match k2, hk2, hc, hu with
                | 0, _, _, hu => hu
                | 1, _, _, hu => hu
                | 2, _, _, hu => hu
                | 3, _, _, hu => hu
                | 4, _, _, hu => hu
                | 5, _, _, hu => hu
                | 6, _, _, hu => hu
                | 7, _, _, hu => hu
                | 8, _, _, hu => hu
                | 9, _, _, hu => hu
                | 10, _, _, hu => hu
                | 11, _, _, hu => hu
                | 12, _, _, hu => hu
                | 13, _, _, hu => hu
                | 14, _, _, ⟨gx, h1, h2, h3⟩ => ⟨gx, h1, h2, h3.aside (by show gx ≠ g; have := RY.out.gw; omega) _⟩
                | 15, _, _, _ => .inr ⟨_, hN8⟩
                | 16, _, _, hu => hu
                | 17, hk2, _, _ => absurd rfl hk2
                | _ + 18, _, _, _ => trivial
            · intro k2 hk2 hn hc2 h
              refine ⟨fun e => ?_, fun e => absurd e hk2⟩
              rcases e with rfl | rfl <;> exact absurd hc2 (by decide)
          · intro v2 w7 hr hv
            have hNest := hv 17 (by decide)
            change Nest 22 59 2 cR w7 w.heap.size (.slice (some ⟨g, 0, none⟩) n cp) (vs.set ip (v2 15)) (NN.set ip (N ++ [x])) at hNest
            rw [hfin]
            have HN9 := Lib.hid hNest
            have HB9 := Lib.hid hr.old
            clear hfin hv hr hNest
            generalize v2 15 = u8 at HN9 ⊢
            go_wp2_with fail
            go_roundw
            case rel => exact ⟨k + 1, n, some ⟨g, 0, none⟩, cp, vs.set ip u8, by omega, by go_num, rfl, HPL.out, by rw [List.length_set]; exact HVL.out, Lib.hid (by rw [HPG.out]; exact HN9.out), HB9⟩
            case measure => simp [intOf]; omega
    · obtain rfl : k = L.length := by omega
      rw [List.take_length] at HN hn
      have HN2 := Lib.hid HN.out
      have HH := Lib.hid hn
      clear hn HN
      go_wp2_with fail
      go_ret
      exact ⟨V, c3, by rw [HH.out]; rfl, Nest.lies cellsR HN2.out, HB.out⟩
end Go.Proofs.Ytaiaadojnoipfaa.data
