/-
  The contract of the document's Mend.
-/
import Derived.Test.YtkfjgmfokpgcbaaJRk5
set_option linter.unusedSimpArgs false
set_option linter.unusedVariables false
namespace Go.Proofs.Ytkfjgmfokpgcbaa.disk
open Go.ChangeShapes Go.WideShapes Go.ChangeAt Go.RowKit
open Go.Proofs.Ytkfjgmfokpgcbaa.words Go.Proofs.Ytkfjgmfokpgcbaa.opened Go.Proofs.Ytkfjgmfokpgcbaa.block Go.Proofs.Ytkfjgmfokpgcbaa.data Go.Proofs.Ytkfjgmfokpgcbaa.region

theorem slice_take (s tb : Bs) (n : Nat) (hn : n ≤ s.length) (h : tb = s.take n) (W : World) : (Instr.slice 9 (.string ⟨s.toArray⟩) none (some (.int .i64 (n : Int))) none).run Try.prog W = .ok (sV tb) W := by
  have e : (⟨s.toArray⟩ : ByteArray).extract 0 n = ⟨tb.toArray⟩ := by
    rw [h]
    apply ByteArray.ext
    simp
  have hz : (⟨s.toArray⟩ : ByteArray).size = s.length := by show s.toArray.size = _; simp
  go_simp
theorem lies_below2 {w w' : World} {A : Option Addr} {xs : List Value} (h : Lies w A xs) (hb : Below w.heap.size w w') : Lies w' A xs := by
  rcases h with h | ⟨b, off, hA, hbl, hc⟩
  · exact .inl h
  · exact .inr ⟨b, off, hA, Nat.lt_of_lt_of_le hbl hb.size, fun i x hx => (hb.cell (p := ⟨b, off + i, none⟩) hbl).trans (hc i x hx)⟩
theorem lies_at2 {w : World} {A : Option Addr} {xs : List Value} (h : Lies w A xs) {k : Nat} {x : Value} (hk : xs[k]? = some x) : ∃ b off, A = some ⟨b, off, none⟩ ∧ b < w.heap.size ∧ w.cell? ⟨b, off + k, none⟩ = some x := by
  rcases h with h | ⟨b, off, hA, hb, hc⟩
  · rw [h] at hk
    simp at hk
  · exact ⟨b, off, hA, hb, hc k x hk⟩
theorem mend_take {keep : List Int} {k : Nat} {F : List Fl} {f : Fl} (h : F[k]? = some f) : mendL keep 0 (F.take (k + 1)) = mendL keep 0 (F.take k) ++ (if leftN keep k f = 0 then [] else [mendF keep k f]) := by
  have hlt := (List.getElem?_eq_some_iff.1 h).1
  rw [List.take_add_one, h, Option.toList_some, mend_app, List.length_take, Nat.zero_add, Nat.min_eq_left (by omega)]
  rw [mendL]
  rfl
theorem left_pos {keep : List Int} {k : Nat} {f : Fl} {x : Int} (hx : keep[k]? = some x) (h0 : 0 < x) (hl : f.l ≤ f.b.length) : Int.tmod x ((f.b.length : Int) - (f.l : Int) + 1) = (leftN keep k f : Int) - (f.l : Int) := by
  unfold leftN keepK
  rw [hx]
  simp only [Option.getD_some]
  rw [Int.max_eq_left (by omega), Int.tmod_eq_emod_of_nonneg (by omega)]
  have e : (((f.b.length - f.l : Nat) : Int) + 1) = (f.b.length : Int) - (f.l : Int) + 1 := by omega
  rw [e]
  have := Int.emod_nonneg x (show (f.b.length : Int) - (f.l : Int) + 1 ≠ 0 by omega)
  omega
theorem left_no {keep : List Int} {k : Nat} {f : Fl} (h : keepK keep k ≤ 0) : leftN keep k f = f.l := by
  unfold leftN
  rw [Int.max_eq_right h]
  simp
set_option maxRecDepth 100000 in
set_option maxHeartbeats 4000000 in
theorem mendR_any {S : Nat → Prop} {g : Nat} {D : Dk} (G : GoodD D) (hF : D.F.length ≤ 100000) (K : Option Addr) (kc : Nat) (keep : List Int) (hk : ∀ x ∈ keep, x ≤ 9223372036854775807) (hkl : keep.length ≤ 100000) (w : World) (h : RefP w S g D) (hK : Lies w K (keep.map (Value.int .i64))) :
    Calls Try.prog 18 #[.pointer (some ⟨g, 0, none⟩), .slice K keep.length kc] w fun e w' => e = .returned (.tuple #[]) ∧ RefP w' (More w S) g (mendV D keep) ∧ Turn w w' S := by
  obtain ⟨i0, hi0, hz0, hz1, hz2⟩ := infoF_parts
  obtain ⟨V, n0, h, hSg, hS⟩ := h
  obtain ⟨A, c, rfl, -, -⟩ := h.own.shape
  have H := Lib.hid h
  have HK := Lib.hid hK
  have HLf := Lib.hid (h.own.lg cellsF)
  have HGL := Lib.hid h.cells.inside
  have K0 : Hid (∀ W, Below w.heap.size w W → W.cell? ⟨g, 0, none⟩ = some (.slice A D.F.length c)) := Lib.hid (fun W b => (h.below b).cells.read 0)
  have HBL : Hid (∀ f ∈ D.F, f.b.length ≤ 262144 ∧ f.l ≤ f.b.length) := Lib.hid (fun f hf => ⟨G.len hf, G.lasts f hf⟩)
  clear h hK
  go_enter Try.func18, Try.ntmps18
  go_wp2_with fail
  go_loopw [4, 5] (fun v4 s wr => ∃ (i : Nat) (V : Option Addr) (c4 : Nat) (U : List Fl), i ≤ D.F.length ∧ s = .int .i64 i ∧ v4 = .slice V U.length c4 ∧ Hid (U = mendL keep 0 (D.F.take i)) ∧ Hid (OwnFs wr w.heap.size (.slice V U.length c4) U) ∧ Hid (Below w.heap.size w wr)) (fun _ s _ => D.F.length - (intOf s).toNat)
  case atStart => exact ⟨0, none, 0, [], Nat.zero_le _, rfl, rfl, Lib.hid (by simp [mendL]), Lib.hid (ownG_nil _ _), Lib.hid (Below.refl _ _)⟩
  case round =>
    rename World => w2
    obtain ⟨i, V, c4, U, hi, rfl, rfl, HU, HV, HB⟩ := hrel
    have k0 := K0.out w2 HB.out
    by_cases hlt : i < D.F.length
    · obtain ⟨f, hf⟩ : ∃ f, D.F[i]? = some f := ⟨_, List.getElem?_eq_getElem hlt⟩
      obtain ⟨b, off, rfl, hb, c0, c1, c2⟩ := at_f (HLf.out.below HB.out) hf
      obtain ⟨hb1, hb2⟩ := HBL.out f (List.mem_of_getElem? hf)
      have HUN : Hid (mendL keep 0 (D.F.take (i + 1)) = U ++ (if leftN keep i f = 0 then [] else [mendF keep i f])) := Lib.hid (by rw [mend_take hf, HU.out])
      have HUL : Hid (U.length ≤ 100000) := Lib.hid (by
        have h1 := (mend_names keep (D.F.take i) 0).length_le
        rw [List.length_map, List.length_map, List.length_take, ← HU.out] at h1
        omega)
      have hlo := leftN_lo keep i f
      have hhi := leftN_hi keep i hb2
      have HLN : Hid (mendF keep i f = ⟨f.n, f.b.take (leftN keep i f), leftN keep i f⟩) := Lib.hid rfl
      have HX3 := Whole.fresh w2 61 #[sV f.n, sV f.b, .int .i64 (f.l : Int)]
      have b3 := fresh0 w2 (.cells #[sV f.n, sV f.b, .int .i64 (f.l : Int)] 61)
      have HV3 := Lib.hid (HV.out.below b3)
      have HB3 := Lib.hid (HB.out.trans (b3.mono HB.out.size))
      have HGX : Hid (w.heap.size ≤ w2.heap.size ∧ some w2.heap.size ≠ (Value.slice V U.length c4).ownBlock) := Lib.hid ⟨HB.out.size, OwnG.away HV.out (Nat.le_refl _)⟩
      have HKX := Lib.hid (lies_below2 HK.out HB3.out)
      clear hf HU HV HB b3
      go_upto_region 5 with fail
      change Code.wp _ _ _ _ (w2.alloc (.cells #[sV f.n, sV f.b, .int .i64 (f.l : Int)] 61))
      clear k0 c0 c1 c2
      generalize w2.alloc (.cells #[sV f.n, sV f.b, .int .i64 (f.l : Int)] 61) = w3 at HX3 HV3 HB3 HKX ⊢
      generalize w2.heap.size = gx at HX3 HGX ⊢
      have HX := Lib.hid HX3
      clear HX3
      obtain ⟨fl, hfl⟩ : ∃ fl, f.l = fl := ⟨_, rfl⟩
      rw [hfl] at HX ⊢
      by_cases hkl2 : i < keep.length
      · obtain ⟨x, hx⟩ : ∃ x, keep[i]? = some x := ⟨_, List.getElem?_eq_getElem hkl2⟩
        have hxm := hk x (List.mem_of_getElem? hx)
        obtain ⟨kb, ko, rfl, hkb, hcx⟩ := lies_at2 HKX.out (k := i) (x := .int .i64 x) (by rw [List.getElem?_map, hx]; rfl)
        by_cases h0 : 0 < x
        · have hrem := left_pos hx h0 hb2
          rw [hfl] at hrem hlo hb2
          have q1 : IntKind.i64.wrap ((f.b.length : Int) - (fl : Int)) = (f.b.length : Int) - (fl : Int) := by rw [IntKind.wrap_i64]; omega
          have q2 : IntKind.i64.wrap ((f.b.length : Int) - (fl : Int) + 1) = (f.b.length : Int) - (fl : Int) + 1 := by rw [IntKind.wrap_i64]; omega
          have q3 : ((f.b.length : Int) - (fl : Int) + 1 == 0) = false := by rw [beq_eq_false_iff_ne]; omega
          have x1 : w3.cell? ⟨gx, 1, none⟩ = some (sV f.b) := HX.out.read 1
          have x2 : w3.cell? ⟨gx, 2, none⟩ = some (.int .i64 (fl : Int)) := HX.out.read 2
          obtain ⟨ln, hln⟩ : ∃ ln, leftN keep i f = ln := ⟨_, rfl⟩
          have HLQ1 := Lib.hid hln
          rw [hln] at hrem hlo hhi HLN
          have hsum : IntKind.i64.wrap ((fl : Int) + ((ln : Int) - (fl : Int))) = (ln : Int) := by rw [IntKind.wrap_i64]; omega
          clear hln hx
          go_upto_region 7 with fail
          go_quiet (fail)
          clear q1 q2 q3 x1 x2 hcx
          go_upto_region 8 with fail
          have HXy := Lib.hid ((HX.out).drewN nq)
          have HVy := Lib.hid (HV3.out.below (below_drewN (Below.refl w3.heap.size w3) nq))
          have HBy := Lib.hid (below_drewN HB3.out nq)
          change Code.wp _ _ _ _ (w3.drewN nq)
          generalize w3.drewN nq = wy at HXy HVy HBy ⊢
          obtain ⟨tb, htb, htl⟩ : ∃ tb : Bs, tb = f.b.take ln ∧ ln = tb.length := ⟨_, rfl, by rw [List.length_take]; omega⟩
          have hsl := fun W => slice_take f.b tb ln hhi htb W
          have HTB : Hid (mendF keep i f = ⟨f.n, tb, tb.length⟩) := Lib.hid (by rw [HLN.out, ← htb, ← htl])
          have HLQ : Hid (leftN keep i f = tb.length) := Lib.hid (HLQ1.out.trans htl)
          subst htl
          clear htb HLN HLQ1
          have x1 : wy.cell? ⟨gx, 1, none⟩ = some (sV f.b) := HXy.out.read 1
          have x2 : wy.cell? ⟨gx, 2, none⟩ = some (.int .i64 (fl : Int)) := HXy.out.read 2
          have f1 : wy.frozen? ⟨gx, 1, none⟩ = false := HXy.out.soft 1
          have HX1 := HXy.out.store 1 (sV tb)
          have y1 : (wy.setCell ⟨gx, 1, none⟩ (sV tb)).cell? ⟨gx, 1, none⟩ = some (sV tb) := HX1.read 1
          have y2 : (wy.setCell ⟨gx, 1, none⟩ (sV tb)).cell? ⟨gx, 2, none⟩ = some (.int .i64 (fl : Int)) := HX1.read 2
          have g2 : (wy.setCell ⟨gx, 1, none⟩ (sV tb)).frozen? ⟨gx, 2, none⟩ = false := HX1.soft 2
          have HX2 := HX1.store 2 (.int .i64 (tb.length : Int))
          have hgw : wy.grownBy ((wy.setCell ⟨gx, 1, none⟩ (sV tb)).setCell ⟨gx, 2, none⟩ (.int .i64 (tb.length : Int))) (some gx) := only_store (only_store (grown0 wy gx) _) _
          have HVz := Lib.hid (OwnG.past HVy.out hgw (fun k e => by cases e; exact HGX.out.2))
          have HBz := Lib.hid (HBy.out.grown hgw HBy.out.size (fun k e => by cases e; exact HGX.out.1))
          have HXz := Lib.hid HX2
          clear HX1 HX2 hgw
          go_upto_region 10 with fail
          change Code.wp _ _ _ _ ((wy.setCell ⟨gx, 1, none⟩ (sV tb)).setCell ⟨gx, 2, none⟩ (.int .i64 (tb.length : Int)))
          clear x1 x2 f1 y1 y2 g2 hsl HXy HVy HBy
          generalize (wy.setCell ⟨gx, 1, none⟩ (sV tb)).setCell ⟨gx, 2, none⟩ (.int .i64 (tb.length : Int)) = wz at HVz HBz HXz ⊢
          have z0 : wz.cell? ⟨gx, 0, none⟩ = some (sV f.n) := HXz.out.read 0
          have z1 : wz.cell? ⟨gx, 1, none⟩ = some (sV tb) := HXz.out.read 1
          have z2 : wz.cell? ⟨gx, 2, none⟩ = some (.int .i64 (tb.length : Int)) := HXz.out.read 2
          by_cases h0 : tb.length = 0
          · have hn0 : ¬ (0 : Int) < (tb.length : Int) := by omega
            have HU5 : Hid (U = mendL keep 0 (D.F.take (i + 1))) := Lib.hid (by rw [HUN.out, if_pos (HLQ.out.trans h0), List.append_nil])
            clear h0
            go_wp2_with fail
            go_roundw
            case rel => exact ⟨i + 1, _, _, _, by omega, by go_num, rfl, HU5, HVz, HBz⟩
            case measure => simp [intOf]; omega
          · have hn0 : (0 : Int) < (tb.length : Int) := by omega
            have HX5 : Hid (U ++ [⟨f.n, tb, tb.length⟩] = mendL keep 0 (D.F.take (i + 1))) := Lib.hid (by rw [HUN.out, if_neg (fun e => h0 (HLQ.out.symm.trans e)), HTB.out])
            have bq := fresh0 wz (.cells #[sV f.n, sV tb, .int .i64 (tb.length : Int)] 61)
            have HV6 := Lib.hid (HVz.out.below bq)
            have HB6 := Lib.hid (HBz.out.trans (bq.mono HBz.out.size))
            have HL6 := Lib.hid (lg_loneF wz ⟨f.n, tb, tb.length⟩)
            have HSZ6 : Hid (w.heap.size ≤ (wz.alloc (.cells #[sV f.n, sV tb, .int .i64 (tb.length : Int)] 61)).heap.size) := Lib.hid HB6.out.size
            clear h0 bq
            go_wp2_with (at_builtin; refine wpList_append_row (T := 61) (f := cF) cellsF (by decide) rfl _ _ 26 rfl w.heap.size i0 (.agg #[.string ByteArray.empty, .string ByteArray.empty, .int .i64 0]) 40 Try.underlying26 hi0 hz0 hz1 hz2 rfl (N := U) (M := [⟨f.n, tb, tb.length⟩]) rfl rfl HV6.out HL6.out (by have := HUL.out; unfold maxLen; simp; omega) (by have := HUL.out; simp; omega) HSZ6.out ?_; intro B7 cap7 w7 hown7 hgrow hat; have HX7 := HX5; generalize U ++ [(⟨f.n, tb, tb.length⟩ : Fl)] = U7 at hown7 HX7 ⊢; have HV7 := Lib.hid hown7; have HB7 := Lib.hid (HB6.out.grown hgrow HSZ6.out (fun j e => (HV6.out.lt j e).1)); clear hown7 hgrow hat)
            go_roundw
            case rel => exact ⟨i + 1, _, _, _, by omega, by go_num, rfl, HX7, HV7, HB7⟩
            case measure => simp [intOf]; omega
        · have hkk : keepK keep i ≤ 0 := by unfold keepK; rw [hx]; simp; omega
          have hln := left_no (f := f) hkk
          have HLQ1 := Lib.hid (hln.trans hfl)
          rw [hln, hfl] at hhi HLN
          have hsum : IntKind.i64.wrap ((fl : Int)) = (fl : Int) := by rw [IntKind.wrap_i64]; omega
          clear hln hlo
          go_upto_region 8 with fail
          have HXy := HX
          have HVy := HV3
          have HBy := HB3
          clear HX HV3 HB3
          have wy' := w3
          generalize w3 = wy at HXy HVy HBy HKX ⊢
          obtain ⟨tb, htb, htl⟩ : ∃ tb : Bs, tb = f.b.take fl ∧ fl = tb.length := ⟨_, rfl, by rw [List.length_take]; omega⟩
          have hsl := fun W => slice_take f.b tb fl hhi htb W
          have HTB : Hid (mendF keep i f = ⟨f.n, tb, tb.length⟩) := Lib.hid (by rw [HLN.out, ← htb, ← htl])
          have HLQ : Hid (leftN keep i f = tb.length) := Lib.hid (HLQ1.out.trans htl)
          subst htl
          clear htb HLN HLQ1
          have x1 : wy.cell? ⟨gx, 1, none⟩ = some (sV f.b) := HXy.out.read 1
          have x2 : wy.cell? ⟨gx, 2, none⟩ = some (.int .i64 (tb.length : Int)) := HXy.out.read 2
          have f1 : wy.frozen? ⟨gx, 1, none⟩ = false := HXy.out.soft 1
          have HX1 := HXy.out.store 1 (sV tb)
          have y1 : (wy.setCell ⟨gx, 1, none⟩ (sV tb)).cell? ⟨gx, 1, none⟩ = some (sV tb) := HX1.read 1
          have y2 : (wy.setCell ⟨gx, 1, none⟩ (sV tb)).cell? ⟨gx, 2, none⟩ = some (.int .i64 (tb.length : Int)) := HX1.read 2
          have g2 : (wy.setCell ⟨gx, 1, none⟩ (sV tb)).frozen? ⟨gx, 2, none⟩ = false := HX1.soft 2
          have HX2 := HX1.store 2 (.int .i64 (tb.length : Int))
          have hgw : wy.grownBy ((wy.setCell ⟨gx, 1, none⟩ (sV tb)).setCell ⟨gx, 2, none⟩ (.int .i64 (tb.length : Int))) (some gx) := only_store (only_store (grown0 wy gx) _) _
          have HVz := Lib.hid (OwnG.past HVy.out hgw (fun k e => by cases e; exact HGX.out.2))
          have HBz := Lib.hid (HBy.out.grown hgw HBy.out.size (fun k e => by cases e; exact HGX.out.1))
          have HXz := Lib.hid HX2
          clear HX1 HX2 hgw
          go_upto_region 10 with fail
          change Code.wp _ _ _ _ ((wy.setCell ⟨gx, 1, none⟩ (sV tb)).setCell ⟨gx, 2, none⟩ (.int .i64 (tb.length : Int)))
          clear x1 x2 f1 y1 y2 g2 hsl HXy HVy HBy
          generalize (wy.setCell ⟨gx, 1, none⟩ (sV tb)).setCell ⟨gx, 2, none⟩ (.int .i64 (tb.length : Int)) = wz at HVz HBz HXz ⊢
          have z0 : wz.cell? ⟨gx, 0, none⟩ = some (sV f.n) := HXz.out.read 0
          have z1 : wz.cell? ⟨gx, 1, none⟩ = some (sV tb) := HXz.out.read 1
          have z2 : wz.cell? ⟨gx, 2, none⟩ = some (.int .i64 (tb.length : Int)) := HXz.out.read 2
          by_cases h0 : tb.length = 0
          · have hn0 : ¬ (0 : Int) < (tb.length : Int) := by omega
            have HU5 : Hid (U = mendL keep 0 (D.F.take (i + 1))) := Lib.hid (by rw [HUN.out, if_pos (HLQ.out.trans h0), List.append_nil])
            clear h0
            go_wp2_with fail
            go_roundw
            case rel => exact ⟨i + 1, _, _, _, by omega, by go_num, rfl, HU5, HVz, HBz⟩
            case measure => simp [intOf]; omega
          · have hn0 : (0 : Int) < (tb.length : Int) := by omega
            have HX5 : Hid (U ++ [⟨f.n, tb, tb.length⟩] = mendL keep 0 (D.F.take (i + 1))) := Lib.hid (by rw [HUN.out, if_neg (fun e => h0 (HLQ.out.symm.trans e)), HTB.out])
            have bq := fresh0 wz (.cells #[sV f.n, sV tb, .int .i64 (tb.length : Int)] 61)
            have HV6 := Lib.hid (HVz.out.below bq)
            have HB6 := Lib.hid (HBz.out.trans (bq.mono HBz.out.size))
            have HL6 := Lib.hid (lg_loneF wz ⟨f.n, tb, tb.length⟩)
            have HSZ6 : Hid (w.heap.size ≤ (wz.alloc (.cells #[sV f.n, sV tb, .int .i64 (tb.length : Int)] 61)).heap.size) := Lib.hid HB6.out.size
            clear h0 bq
            go_wp2_with (at_builtin; refine wpList_append_row (T := 61) (f := cF) cellsF (by decide) rfl _ _ 26 rfl w.heap.size i0 (.agg #[.string ByteArray.empty, .string ByteArray.empty, .int .i64 0]) 40 Try.underlying26 hi0 hz0 hz1 hz2 rfl (N := U) (M := [⟨f.n, tb, tb.length⟩]) rfl rfl HV6.out HL6.out (by have := HUL.out; unfold maxLen; simp; omega) (by have := HUL.out; simp; omega) HSZ6.out ?_; intro B7 cap7 w7 hown7 hgrow hat; have HX7 := HX5; generalize U ++ [(⟨f.n, tb, tb.length⟩ : Fl)] = U7 at hown7 HX7 ⊢; have HV7 := Lib.hid hown7; have HB7 := Lib.hid (HB6.out.grown hgrow HSZ6.out (fun j e => (HV6.out.lt j e).1)); clear hown7 hgrow hat)
            go_roundw
            case rel => exact ⟨i + 1, _, _, _, by omega, by go_num, rfl, HX7, HV7, HB7⟩
            case measure => simp [intOf]; omega
      · have hkk : keepK keep i ≤ 0 := by unfold keepK; rw [List.getElem?_eq_none (by omega)]; simp
        have hln := left_no (f := f) hkk
        have HLQ1 := Lib.hid (hln.trans hfl)
        rw [hln, hfl] at hhi HLN
        have hsum : IntKind.i64.wrap ((fl : Int)) = (fl : Int) := by rw [IntKind.wrap_i64]; omega
        clear hln hlo
        go_upto_region 8 with fail
        have HXy := HX
        have HVy := HV3
        have HBy := HB3
        clear HX HV3 HB3
        have wy' := w3
        generalize w3 = wy at HXy HVy HBy HKX ⊢
        obtain ⟨tb, htb, htl⟩ : ∃ tb : Bs, tb = f.b.take fl ∧ fl = tb.length := ⟨_, rfl, by rw [List.length_take]; omega⟩
        have hsl := fun W => slice_take f.b tb fl hhi htb W
        have HTB : Hid (mendF keep i f = ⟨f.n, tb, tb.length⟩) := Lib.hid (by rw [HLN.out, ← htb, ← htl])
        have HLQ : Hid (leftN keep i f = tb.length) := Lib.hid (HLQ1.out.trans htl)
        subst htl
        clear htb HLN HLQ1
        have x1 : wy.cell? ⟨gx, 1, none⟩ = some (sV f.b) := HXy.out.read 1
        have x2 : wy.cell? ⟨gx, 2, none⟩ = some (.int .i64 (tb.length : Int)) := HXy.out.read 2
        have f1 : wy.frozen? ⟨gx, 1, none⟩ = false := HXy.out.soft 1
        have HX1 := HXy.out.store 1 (sV tb)
        have y1 : (wy.setCell ⟨gx, 1, none⟩ (sV tb)).cell? ⟨gx, 1, none⟩ = some (sV tb) := HX1.read 1
        have y2 : (wy.setCell ⟨gx, 1, none⟩ (sV tb)).cell? ⟨gx, 2, none⟩ = some (.int .i64 (tb.length : Int)) := HX1.read 2
        have g2 : (wy.setCell ⟨gx, 1, none⟩ (sV tb)).frozen? ⟨gx, 2, none⟩ = false := HX1.soft 2
        have HX2 := HX1.store 2 (.int .i64 (tb.length : Int))
        have hgw : wy.grownBy ((wy.setCell ⟨gx, 1, none⟩ (sV tb)).setCell ⟨gx, 2, none⟩ (.int .i64 (tb.length : Int))) (some gx) := only_store (only_store (grown0 wy gx) _) _
        have HVz := Lib.hid (OwnG.past HVy.out hgw (fun k e => by cases e; exact HGX.out.2))
        have HBz := Lib.hid (HBy.out.grown hgw HBy.out.size (fun k e => by cases e; exact HGX.out.1))
        have HXz := Lib.hid HX2
        clear HX1 HX2 hgw
        go_upto_region 10 with fail
        change Code.wp _ _ _ _ ((wy.setCell ⟨gx, 1, none⟩ (sV tb)).setCell ⟨gx, 2, none⟩ (.int .i64 (tb.length : Int)))
        clear x1 x2 f1 y1 y2 g2 hsl HXy HVy HBy
        generalize (wy.setCell ⟨gx, 1, none⟩ (sV tb)).setCell ⟨gx, 2, none⟩ (.int .i64 (tb.length : Int)) = wz at HVz HBz HXz ⊢
        have z0 : wz.cell? ⟨gx, 0, none⟩ = some (sV f.n) := HXz.out.read 0
        have z1 : wz.cell? ⟨gx, 1, none⟩ = some (sV tb) := HXz.out.read 1
        have z2 : wz.cell? ⟨gx, 2, none⟩ = some (.int .i64 (tb.length : Int)) := HXz.out.read 2
        by_cases h0 : tb.length = 0
        · have hn0 : ¬ (0 : Int) < (tb.length : Int) := by omega
          have HU5 : Hid (U = mendL keep 0 (D.F.take (i + 1))) := Lib.hid (by rw [HUN.out, if_pos (HLQ.out.trans h0), List.append_nil])
          clear h0
          go_wp2_with fail
          go_roundw
          case rel => exact ⟨i + 1, _, _, _, by omega, by go_num, rfl, HU5, HVz, HBz⟩
          case measure => simp [intOf]; omega
        · have hn0 : (0 : Int) < (tb.length : Int) := by omega
          have HX5 : Hid (U ++ [⟨f.n, tb, tb.length⟩] = mendL keep 0 (D.F.take (i + 1))) := Lib.hid (by rw [HUN.out, if_neg (fun e => h0 (HLQ.out.symm.trans e)), HTB.out])
          have bq := fresh0 wz (.cells #[sV f.n, sV tb, .int .i64 (tb.length : Int)] 61)
          have HV6 := Lib.hid (HVz.out.below bq)
          have HB6 := Lib.hid (HBz.out.trans (bq.mono HBz.out.size))
          have HL6 := Lib.hid (lg_loneF wz ⟨f.n, tb, tb.length⟩)
          have HSZ6 : Hid (w.heap.size ≤ (wz.alloc (.cells #[sV f.n, sV tb, .int .i64 (tb.length : Int)] 61)).heap.size) := Lib.hid HB6.out.size
          clear h0 bq
          go_wp2_with (at_builtin; refine wpList_append_row (T := 61) (f := cF) cellsF (by decide) rfl _ _ 26 rfl w.heap.size i0 (.agg #[.string ByteArray.empty, .string ByteArray.empty, .int .i64 0]) 40 Try.underlying26 hi0 hz0 hz1 hz2 rfl (N := U) (M := [⟨f.n, tb, tb.length⟩]) rfl rfl HV6.out HL6.out (by have := HUL.out; unfold maxLen; simp; omega) (by have := HUL.out; simp; omega) HSZ6.out ?_; intro B7 cap7 w7 hown7 hgrow hat; have HX7 := HX5; generalize U ++ [(⟨f.n, tb, tb.length⟩ : Fl)] = U7 at hown7 HX7 ⊢; have HV7 := Lib.hid hown7; have HB7 := Lib.hid (HB6.out.grown hgrow HSZ6.out (fun j e => (HV6.out.lt j e).1)); clear hown7 hgrow hat)
          go_roundw
          case rel => exact ⟨i + 1, _, _, _, by omega, by go_num, rfl, HX7, HV7, HB7⟩
          case measure => simp [intOf]; omega
    · have hUm : U = mendL keep 0 D.F := by rw [HU.out, List.take_of_length_le (by omega)]
      have H2 := H.out.below HB.out
      have f0 : w2.frozen? ⟨g, 0, none⟩ = false := H2.cells.soft 0
      have HX1 := H2.cells.store 0 (.slice V U.length c4)
      have e3 : (w2.setCell ⟨g, 0, none⟩ (.slice V U.length c4)).cell? ⟨g, 3, none⟩ = some (.bool D.off) := HX1.read 3
      have f3 : (w2.setCell ⟨g, 0, none⟩ (.slice V U.length c4)).frozen? ⟨g, 3, none⟩ = false := HX1.soft 3
      have HX2 := HX1.store 3 (.bool false)
      have hgw : w2.grownBy ((w2.setCell ⟨g, 0, none⟩ (.slice V U.length c4)).setCell ⟨g, 3, none⟩ (.bool false)) (some g) := only_store (only_store (grown0 w2 g) _) _
      have hz8 : ∀ k, (Value.slice V U.length c4).ownBlock = some k → w.heap.size ≤ k := fun k e => OwnG.above HV.out e
      have hgl := HGL.out
      have hfar : (Value.slice V U.length c4).ownBlock ≠ some g := fun e => by have := hz8 g e; omega
      have HQ : RefE ((w2.setCell ⟨g, 0, none⟩ (.slice V U.length c4)).setCell ⟨g, 3, none⟩ (.bool false)) g ⟨mendL keep 0 D.F, false, D.left⟩ (.slice V U.length c4) n0 := by
        rw [← hUm]
        refine ⟨?_, H2.left, (OwnG.low HV.out (Nat.zero_le _)).past hgw (fun k e he => hfar (by rw [← he, ← e])), hfar⟩
        simpa using HX2
      have AR := Lib.hid (armR_any (-1) _ HQ)
      have TQ := Lib.hid ((turn_below HB.out S).trans (turn_grown hgw (fun k e => by cases e; exact hSg) : Turn _ _ S) (fun j hj => .inl hj))
      have HZ := Lib.hid hz8
      clear HX1 HX2 HQ hgw hz8 hfar H2 hUm
      go_wp2_with (go_at_call 16; refine AR.out.mono ?_; rintro e w9 ⟨rfl, h9, g9, s9⟩; have H9 := Lib.hid h9; have G9 := Lib.hid g9; clear h9 g9 s9)
      go_end0
      exact ⟨rfl, ⟨_, _, H9.out, .inl hSg, fun k e => .inr (HZ.out k e)⟩, TQ.out.trans (turn_grown G9.out (fun k e => by cases e; exact hSg) : Turn _ _ S) (fun j hj => .inl hj)⟩
end Go.Proofs.Ytkfjgmfokpgcbaa.disk
