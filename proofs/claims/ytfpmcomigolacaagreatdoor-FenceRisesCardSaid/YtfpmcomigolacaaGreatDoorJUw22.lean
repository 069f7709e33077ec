/-
  The contract of Open, where the name and the number are right.
  The contract of Open, whole.
-/
import Derived.Test.YtfpmcomigolacaaGreatDoorJUw20
import Derived.Deep.CutBlock
import Derived.Deep.CutRange
import Derived.Stop.RegionWithIn
set_option linter.unusedSimpArgs false
set_option linter.unusedVariables false
namespace Go.Proofs.YtfpmcomigolacaaGreatDoor.wal
attribute [local go_sem] Oper.semAt_some
open Go.ChangeShapes Go.WideShapes Go.ChangeAt Go.RowKit Go.Maps Go.WideMaps
open Go.Proofs.YtfpmcomigolacaaGreatDoor.opened Go.Proofs.YtfpmcomigolacaaGreatDoor.block Go.Proofs.YtfpmcomigolacaaGreatDoor.words Go.Proofs.YtfpmcomigolacaaGreatDoor.disk Go.Proofs.YtfpmcomigolacaaGreatDoor.tailed Go.Proofs.YtfpmcomigolacaaGreatDoor.enc Go.Proofs.YtfpmcomigolacaaGreatDoor.code Go.Proofs.YtfpmcomigolacaaGreatDoor.region Go.Proofs.YtfpmcomigolacaaGreatDoor.seqBox
section
variable {gd B : Nat} {D : Dk} {w : World}
/-- The log that Open makes. -/
theorem log_new (w1 : World) (gd : Nat) (nm : Bs) (per : Int) : ∀ W, W = (w1.alloc (.cells #[.pointer (some ⟨gd, 0, none⟩), sV nm, .int .i64 per, .int .i64 1, .slice none 0 0, .slice none 0 0, .bool false, .int .i64 0, .bool false] 67)).alloc (.cells #[.pointer (some ⟨w1.heap.size, 0, none⟩)] 28) →
    LogE W w1.heap.size gd (lg0 nm per) none 0 none 0 ∧ Boxed W (w1.heap.size + 1) 28 (.pointer (some ⟨w1.heap.size, 0, none⟩)) ∧ Below w1.heap.size w1 W ∧ W.heap.size = w1.heap.size + 2 := by
  intro W hW
  have q1 : Whole (w1.alloc (.cells #[.pointer (some ⟨gd, 0, none⟩), sV nm, .int .i64 per, .int .i64 1, .slice none 0 0, .slice none 0 0, .bool false, .int .i64 0, .bool false] 67)) w1.heap.size 67 #[.pointer (some ⟨gd, 0, none⟩), sV nm, .int .i64 per, .int .i64 1, .slice none 0 0, .slice none 0 0, .bool false, .int .i64 0, .bool false] := World.alloc_heap_new w1 _
  have hb1 := (Below.refl w1.heap.size w1).alloc (Nat.le_refl _) (.cells #[.pointer (some ⟨gd, 0, none⟩), sV nm, .int .i64 per, .int .i64 1, .slice none 0 0, .slice none 0 0, .bool false, .int .i64 0, .bool false] 67)
  have z1 : (w1.alloc (.cells #[.pointer (some ⟨gd, 0, none⟩), sV nm, .int .i64 per, .int .i64 1, .slice none 0 0, .slice none 0 0, .bool false, .int .i64 0, .bool false] 67)).heap.size = w1.heap.size + 1 := by simp
  generalize (w1.alloc (.cells #[.pointer (some ⟨gd, 0, none⟩), sV nm, .int .i64 per, .int .i64 1, .slice none 0 0, .slice none 0 0, .bool false, .int .i64 0, .bool false] 67)) = W1 at q1 hb1 z1 hW
  have b9 := Boxed.new W1 28 (.pointer (some ⟨w1.heap.size, 0, none⟩))
  have g1 := World.grownBy_alloc W1 (.cells #[.pointer (some ⟨w1.heap.size, 0, none⟩)] 28) none
  rw [z1] at b9
  subst hW
  exact ⟨⟨q1.grown g1 (by simp), World.ownsRow_nil _ _ _ _, World.ownsRow_nil _ _ _ _⟩, b9, hb1.alloc (by omega) _, by simp [z1]⟩
set_option maxRecDepth 100000 in
set_option maxHeartbeats 4000000 in
theorem open_ok (GD : GoodD D) (hF : D.F.length ≤ 998) (hE : EnvB B w) (hD : DiskB w B gd D) (nm : Bs) (hnm : nm.length ≤ 100000) (per : Int) (hc : chkE D nm per = 0) :
    Calls Tryz.prog 9 #[.pointer (some ⟨gd, 0, none⟩), sV nm, .int .i64 per] w fun e w' => OpenPost B gd w (opnV D nm per (srtI (numsU nm D.F))) e w' := by
  have hB := hE.le
  have hl8 : nm.length ≤ 8 := by
    unfold chkE at hc
    split at hc
    · cases hc
    split at hc
    · cases hc
    split at hc
    · cases hc
    omega
  have HOV : Hid (opnV D nm per (srtI (numsU nm D.F)) = (let L := takesV D (lg0 nm per) (srtI (numsU nm D.F)); let R := rmV nm D ((srtI (numsU nm D.F)).drop L.heads.length).reverse; if R.1 ≠ 0 then (R.1, L, R.2) else (syE L R.2, syL L R.2, syD L R.2))) := Lib.hid (by unfold opnV; rw [if_neg (by rw [hc]; simp)])
  obtain ⟨W0, hW0⟩ : ∃ W0, W0 = (((w.alloc (.cells #[.pointer (some ⟨gd, 0, none⟩)] 26)).alloc (.cells #[.pointer none] 28)).alloc (.cells #[.int .i64 0] 29)) := ⟨_, rfl⟩
  obtain ⟨z, b3, b6, b7, hb0⟩ := open_start w gd W0 hW0
  have c3 : W0.cell? ⟨w.heap.size, 0, none⟩ = some (.pointer (some ⟨gd, 0, none⟩)) := b3.cell
  have HCk := Lib.hid (check_log nm hnm per (hD.below hb0))
  rw [hc] at HCk
  have HB0 := Lib.hid hb0
  have HD := Lib.hid hD
  have HE := Lib.hid hE
  have H3 := Lib.hid b3
  have H6 := Lib.hid b6
  have H7 := Lib.hid b7
  have HGD := Lib.hid GD
  have HK : Hid (∀ k ∈ srtI (numsU nm D.F), 1 ≤ k ∧ k ≤ 999) := Lib.hid fun k hk => by
    have hk2 := (srt_perm _).mem_iff.1 hk
    obtain ⟨h0, h1, -⟩ := nums_mem.1 hk2
    exact ⟨h0, h1⟩
  have hNl : (srtI (numsU nm D.F)).length ≤ 998 := by
    rw [(srt_perm _).length_eq]
    unfold numsU
    have := List.length_filterMap_le (numOf nm) (D.F.map Fl.n)
    rw [List.length_map] at this
    omega
  have HNu : Hid (∀ w2, Below w.heap.size w w2 → ∀ gl A c R d, LogE w2 gl gd (lg0 nm per) A c R d → Calls Tryz.prog 32 #[.pointer (some ⟨gl, 0, none⟩)] w2 fun e w' => ∃ A' c', e = .returned (.slice A' (srtI (numsU nm D.F)).length c') ∧ w'.ownsRow w2.heap.size 3 1 (.slice A' (srtI (numsU nm D.F)).length c') (srtI (numsU nm D.F)).length ((srtI (numsU nm D.F)).map (Value.int .i64)) ∧ Below w2.heap.size w2 w') := Lib.hid fun w2 b gl A c R d h => numbers_any GD (by omega) hl8 (hE.below b) h (hD.below b)
  clear b3 b6 b7 hD hE hc hb0 GD
  generalize opnV D nm per (srtI (numsU nm D.F)) = X at HOV ⊢
  generalize srtI (numsU nm D.F) = N at HOV HK hNl HNu
  refine (callsIn_wide (n := 6)).1 ?_
  refine callsIn_of_wp_marks Tryz.func9 rfl trivial ?_ rfl
  simp only [Tryz.ntmps9, List.size_toArray, List.length_cons, List.length_nil, Nat.reduceAdd, Nat.reduceSub, Array.replicate_succ, Array.replicate_zero, List.push_toArray, List.append_toArray, List.nil_append, List.cons_append]
  refine wpIn_wide.2 ?_
  go_upto_region 1 with fail
  rw [← hW0]
  clear hW0
  go_upto_region 4 with (go_at_call 31; refine HCk.out.mono ?_; rintro e w1 ⟨rfl, b1⟩; have B1 := Lib.hid (HB0.out.trans (b1.mono (by omega))); have hs1 := b1.size; have K3 := Lib.hid (boxed_under H3.out b1 (by omega)); have K6 := Lib.hid (boxed_under H6.out b1 (by omega)); have K7 := Lib.hid (boxed_under H7.out b1 (by omega)); clear b1)
  have c3' := K3.out.cell
  clear c3 H3 H6 H7
  go_upto_region 5 with fail
  obtain ⟨W2, hW2⟩ : ∃ W, W = (w1.alloc (.cells #[.pointer (some ⟨gd, 0, none⟩), sV nm, .int .i64 per, .int .i64 1, .slice none 0 0, .slice none 0 0, .bool false, .int .i64 0, .bool false] 67)).alloc (.cells #[.pointer (some ⟨w1.heap.size, 0, none⟩)] 28) := ⟨_, rfl⟩
  obtain ⟨l2, b9, hbl, zW2⟩ := log_new w1 gd nm per W2 hW2
  rw [← hW2]
  clear hW2
  have B2 := Lib.hid (B1.out.trans (hbl.mono (by omega)))
  have J3 := Lib.hid (boxed_under K3.out hbl (by omega))
  have J6 := Lib.hid (boxed_under K6.out hbl (by omega))
  have J7 := Lib.hid (boxed_under K7.out hbl (by omega))
  have c9 := b9.cell
  have J9 := Lib.hid b9
  have HN2 := Lib.hid (HNu.out W2 B2.out _ _ _ _ _ l2)
  have L2 := Lib.hid l2
  clear l2 b9 hbl K3 K6 K7 c3' HNu
  have hs1g : w.heap.size + 3 ≤ w1.heap.size := by omega
  generalize w1.heap.size = gl at *
  go_upto_block 0 with (go_at_call 32; refine HN2.out.mono ?_; rintro e w3 ⟨NA, nc, rfl, o3, b3⟩; have O3 := Lib.hid o3; have B3 := Lib.hid (B2.out.trans (b3.mono (by omega))); have hs3 := b3.size; have M3 := Lib.hid (boxed_under J3.out b3 (by omega)); have M6 := Lib.hid (boxed_under J6.out b3 (by omega)); have M7 := Lib.hid (boxed_under J7.out b3 (by omega)); have M9 := Lib.hid (boxed_under J9.out b3 (by omega)); have L3 := Lib.hid (L2.out.below b3); clear o3 b3)
  clear J3 J6 J7 J9 HN2 L2 c9 HCk hs1
  have hg3 : w.heap.size ≤ gl := by omega
  have HT0 : Hid (TK (lg0 nm per)) := Lib.hid (tk_zero per hl8)
  have HTu0 : Hid (LTurn B gl gd none none (lg0 nm per) D w3 w3) := Lib.hid (lturn_of L3.out (HD.out.below B3.out) (WT.refl _ _) (Below.refl _ _))
  go_cut [12] from 33 to 41 (fun _ wx => Hid (LTurn B gl gd none none (takesV D (lg0 nm per) N) D w3 wx))
  case first =>
    have HRow : Hid (∀ L wr, LTurn B gl gd none none L D w3 wr → wr.ownsRow W2.heap.size 3 1 (.slice NA N.length nc) N.length (N.map (Value.int .i64))) := Lib.hid fun L wr ht => own_same O3.out fun k hk => by
      obtain ⟨cs, q⟩ := own_type O3.out hk
      have hne : ¬ lblk gl none none k := fun hx => by
        rcases hx with rfl | ⟨a, ha, -⟩ | ⟨a, ha, -⟩
        · exact absurd (whole_type q L3.out.cells) (by decide)
        · cases ha
        · cases ha
      exact (Whole.wt q ht.wt hne (by decide) (by decide)).trans q.symm
    have H9 : Hid (∀ L wr, LTurn B gl gd none none L D w3 wr → wr.cell? ⟨gl + 1, 0, none⟩ = some (.pointer (some ⟨gl, 0, none⟩))) := Lib.hid fun L wr ht => (boxed_wt M9.out ht.wt (fun hx => by
      rcases hx with hx | ⟨a, ha, -⟩ | ⟨a, ha, -⟩
      · omega
      · cases ha
      · cases ha) (by decide) (by decide)).cell
    have HTk : Hid (∀ L wr (k : Int), 1 ≤ k → k ≤ 999 → TK L → L.heads.length ≤ 998 → LTurn B gl gd none none L D w3 wr → Calls Tryz.prog 33 #[.pointer (some ⟨gl, 0, none⟩), .int .i64 k] wr fun e w' => e = .returned (.bool (takeB L D k)) ∧ LTurn B gl gd none none (if takeB L D k = true then takeV L D k else L) D w3 w') := Lib.hid fun L wr k k0 k1 tk hl ht => by
      obtain ⟨A4, c4, R4, d4, l4, hi4⟩ := ht.log
      have hlb : ∀ j, lblk gl A4 R4 j → B ≤ j := fun j hj => by
        rcases hi4 j hj with (rfl | ⟨a, ha, -⟩ | ⟨a, ha, -⟩) | q
        · omega
        · cases ha
        · cases ha
        · omega
      exact (take_any tk.good (tk.next (by omega)) (tk.rl (by omega)) (by omega) HGD.out (by omega) (HE.out.step ((B3.out.mono hB).trans ht.below)) l4 ht.disk hlb k (by omega) (by omega)).mono fun e w' ⟨h1, h2⟩ => ⟨h1, ht.then_ hi4 h2⟩
    clear HOV O3 B3 M3 M6 M7 M9 L3 B2 HB0 HD HE B1
    go_wp2_with fail
    go_loopw [33] (fun i wr => ∃ (j : Nat) (L : Lg), j ≤ N.length ∧ i = .int .i64 (j : Int) ∧ Hid (takesV D (lg0 nm per) N = takesV D L (N.drop j)) ∧ Hid (TK L) ∧ L.heads.length ≤ j ∧ Hid (LTurn B gl gd none none L D w3 wr)) (fun i _ => N.length - (intOf i).toNat)
    case atStart => exact ⟨0, _, Nat.zero_le _, rfl, Lib.hid rfl, HT0, Nat.le_refl _, HTu0⟩
    case round =>
      obtain ⟨j, L, hj, rfl, HTs, HTK, hLj, HTu⟩ := hrel
      have c9 := H9.out _ _ HTu.out
      by_cases hlt : j < N.length
      · obtain ⟨k, hk⟩ : ∃ k, N[j]? = some k := ⟨_, List.getElem?_eq_getElem hlt⟩
        obtain ⟨g1, hA1, -, hcf⟩ := own_at (HRow.out _ _ HTu.out) (k := j) (x := .int .i64 k) (by rw [List.getElem?_map, hk]; rfl)
        subst hA1
        obtain ⟨k0, k1⟩ := HK.out k (List.mem_of_getElem? hk)
        have HT1 := Lib.hid (HTk.out L wr k k0 k1 HTK.out (by omega) HTu.out)
        have HTK2 : Hid (takeB L D k = true → TK (takeV L D k)) := Lib.hid fun e => tk_take HGD.out k0 k1 HTK.out e
        have hhl : (takeV L D k).heads.length = L.heads.length + 1 := by show (L.heads ++ [_]).length = _; simp
        have HS1 : Hid (takeB L D k = true → takesV D (lg0 nm per) N = takesV D (takeV L D k) (N.drop (j + 1))) := Lib.hid fun e => HTs.out.trans (takes_step hk e)
        have HS2 : Hid (takeB L D k = false → takesV D (lg0 nm per) N = L) := Lib.hid fun e => HTs.out.trans (takes_stop hk e)
        clear HTs HTK HRow H9 HTk hk k0 k1
        generalize takeB L D k = tb at HT1 HTK2 HS1 HS2
        cases tb with
        | true =>
          rw [if_pos rfl] at HT1
          replace HS1 := Lib.hid (HS1.out rfl)
          replace HTK2 := Lib.hid (HTK2.out rfl)
          clear HS2
          generalize takeV L D k = L' at HT1 HTK2 HS1 hhl
          go_wp2_with (go_at_call 33; refine HT1.out.mono ?_; rintro e w5 ⟨rfl, t5⟩; have T5 := Lib.hid t5; clear t5)
          go_roundw
          case rel => exact ⟨j + 1, L', by omega, by go_num, HS1, HTK2, by omega, T5⟩
          case measure => simp [intOf]; omega
        | false =>
          rw [if_neg (by decide)] at HT1
          replace HS2 := Lib.hid (HS2.out rfl)
          clear HS1 HTK2
          go_wp2_with (go_at_call 33; refine HT1.out.mono ?_; rintro e w5 ⟨rfl, t5⟩; have T5 := Lib.hid t5; clear t5)
          go_meet
          case rel =>
            rw [HS2.out]
            exact T5
      · have hN : N.drop j = [] := List.drop_eq_nil_of_le (by omega)
        have HS3 : Hid (takesV D (lg0 nm per) N = L) := Lib.hid (by rw [HTs.out, hN]; rfl)
        clear hN HTs
        go_wp2_with fail
        go_meet
        case rel =>
          rw [HS3.out]
          exact HTu
  case rest =>
    obtain ⟨tk5, nm5, len5⟩ := tk_takes HGD.out N HK.out (lg0 nm per) HT0.out
    have len5 : (takesV D (lg0 nm per) N).heads.length ≤ N.length := by have := len5; simpa [lg0] using this
    have nm5 : (takesV D (lg0 nm per) N).nm = nm := nm5
    clear HTu0 HT0
    generalize takesV D (lg0 nm per) N = L5 at *
    obtain ⟨A5, c5, R5, d5, l5, hi5⟩ := hcut.out.log
    have HF5 := Lib.hid (files_any l5)
    have TK5 := Lib.hid tk5
    have HNx := Lib.hid (tk5.next (by omega))
    have L5' := Lib.hid l5
    have HI5 := Lib.hid hi5
    have HNM := Lib.hid nm5
    have c9 : wc.cell? ⟨gl + 1, 0, none⟩ = some (.pointer (some ⟨gl, 0, none⟩)) := (boxed_wt M9.out hcut.out.wt (fun hx => by
      rcases hx with hx | ⟨a, ha, -⟩ | ⟨a, ha, -⟩
      · omega
      · cases ha
      · cases ha) (by decide) (by decide)).cell
    obtain ⟨NA2, nc2, hsl, hrow⟩ := slice_from O3.out len5
    have HRw := Lib.hid hrow
    clear tk5 l5 hi5 nm5 hrow
    generalize L5.heads.length = h5 at *
    have hm5 : (N.drop h5).length = N.length - h5 := List.length_drop
    generalize N.length - h5 = m5 at *
    go_wp2_with (first
      | (go_at_call 18; refine HF5.out.mono ?_; rintro e w6 ⟨rfl, b6⟩; have B6 := Lib.hid b6; have hs6 := b6.size; clear b6)
      | (go_at_call 34; refine (backward_any NA2 m5 nc2 _).mono ?_; rintro e w7 ⟨rfl, rfl⟩))
    --RANGE
    have hB6 : Below wc.heap.size wc w6 := B6.out
    have hszc := hcut.out.wt.size
    have hb0 : w.heap.size ≤ w6.heap.size := by omega
    have DB6 : DiskB w6 B gd D := hcut.out.disk.below hB6
    have hWT : WT w w6 (fun _ => False) := ((wt_below B3.out (fun _ => False)).trans hcut.out.wt (fun j hj => by
      rcases hj with rfl | ⟨a, ha, -⟩ | ⟨a, ha, -⟩
      · exact .inr (by omega)
      · cases ha
      · cases ha)).trans (wt_below hB6 (fun _ => False)) fun _ q => q.elim
    have nq : ∀ j, j < gl ∨ j = gl + 1 → ¬ lblk gl none none j := fun j hj hx => by
      rcases hx with rfl | ⟨a, ha, -⟩ | ⟨a, ha, -⟩
      · omega
      · cases ha
      · cases ha
    have OB6 : Hid (OB w6.heap.size B w.heap.size gl gd w L5 A5 c5 R5 d5 (.pointer none) 0 D (w6.alloc (.cells #[.slice NA2 m5 nc2] 23))) := Lib.hid (by
      have b6' : Below w6.heap.size w6 (w6.alloc (.cells #[.slice NA2 m5 nc2] 23)) := (Below.refl _ _).alloc (Nat.le_refl _) _
      obtain ⟨mb, E, hE6, hS6⟩ := DB6
      have M3' := (boxed_wt M3.out hcut.out.wt (nq _ (.inl (by omega))) (by decide) (by decide))
      have M6' := (boxed_wt M6.out hcut.out.wt (nq _ (.inl (by omega))) (by decide) (by decide))
      have M7' := (boxed_wt M7.out hcut.out.wt (nq _ (.inl (by omega))) (by decide) (by decide))
      have M9' := (boxed_wt M9.out hcut.out.wt (nq _ (.inr rfl)) (by decide) (by decide))
      have lt3 := M3'.lt
      have lt6 := M6'.lt
      have lt7 := M7'.lt
      have lt9 := M9'.lt
      refine ⟨⟨mb, E, hE6.below b6', fun k hk => ⟨hS6 k hk, hE6.inside hk⟩⟩, (L5'.out.below hB6).below b6', fun k hk => ?_, boxed_under (boxed_under M3' hB6 lt3) b6' (by omega), boxed_under (boxed_under M6' hB6 lt6) b6' (by omega), boxed_under (boxed_under M7' hB6 lt7) b6' (by omega), boxed_under (boxed_under M9' hB6 lt9) b6' (by omega), ⟨rfl, by omega, by omega, hB⟩,
        ((B3.out.mono hB).trans (hcut.out.below.trans (hB6.mono (by omega)))).trans (b6'.mono (by omega)), hWT.trans (wt_below b6' (fun _ => False)) fun _ q => q.elim, by simp⟩
      have hin := L5'.out.inside hk
      rcases HI5.out k hk with (rfl | ⟨a, ha, -⟩ | ⟨a, ha, -⟩) | q
      · omega
      · cases ha
      · cases ha
      · omega)
    have HRw6 : Hid (RowI (w6.alloc (.cells #[.slice NA2 m5 nc2] 23)) (.slice NA2 m5 nc2) (N.drop h5)) := Lib.hid ⟨NA2, nc2, by rw [hm5], fun j x hx => by
      obtain ⟨g, q1, q2, q3, q4⟩ := HRw.out j x hx
      refine ⟨_, q2, ?_⟩
      rw [add_at']
      have ho := own_type O3.out (blk_own q1)
      obtain ⟨cs, ho⟩ := ho
      have hne : ¬ lblk gl none none g := fun hx => by
        rcases hx with rfl | ⟨a, ha, -⟩ | ⟨a, ha, -⟩
        · exact absurd (whole_type ho L3.out.cells) (by decide)
        · cases ha
        · cases ha
      have e1 := (Whole.wt ho hcut.out.wt hne (by decide) (by decide)).trans ho.symm
      have e2 := hB6.block g (by omega)
      have e3 := (World.grownBy_alloc w6 (.cells #[.slice NA2 m5 nc2] 23) none).block g (by omega) (by simp)
      exact (World.cell?_of_block (a := ⟨g, h5 + j, none⟩) (e3.trans (e2.trans e1))).trans q4⟩
    have HNI : Hid (∀ a, NA = some a → ∃ cs, Whole (w6.alloc (.cells #[.slice NA2 m5 nc2] 23)) a.block 3 cs) := Lib.hid fun a ha => by
      obtain ⟨cs, ho⟩ := own_type O3.out (blk_own ha)
      have hne : ¬ lblk gl none none a.block := fun hx => by
        rcases hx with hx | ⟨a', ha', -⟩ | ⟨a', ha', -⟩
        · rw [hx] at ho
          exact absurd (whole_type ho L3.out.cells) (by decide)
        · cases ha'
        · cases ha'
      have e1 := Whole.wt ho hcut.out.wt hne (by decide) (by decide)
      have e2 := (hB6.block a.block e1.inside).trans e1
      exact ⟨cs, ((World.grownBy_alloc w6 (.cells #[.slice NA2 m5 nc2] 23) none).block a.block (Nat.lt_of_lt_of_le e1.inside hB6.size) (by simp)).trans e2⟩
    have hbox : (w6.alloc (.cells #[.slice NA2 m5 nc2] 23)).cell? ⟨w6.heap.size, 0, none⟩ = some (.slice NA2 m5 nc2) := (Boxed.new w6 23 (.slice NA2 m5 nc2)).cell
    have hz7 : (w6.alloc (.cells #[.slice NA2 m5 nc2] 23)).heap.size = w6.heap.size + 1 := by simp
    have HNA : Hid (∀ a, NA = some a → a.block < w6.heap.size) := Lib.hid fun a ha => by
      have := (O3.out.lt a.block (blk_own ha)).2
      omega
    have HRg : Hid (∀ j x, (N.drop h5)[j]? = some x → ∃ a, NA = some a ∧ NA2 = some ⟨a.block, h5, none⟩) := Lib.hid fun j x hx => by
      obtain ⟨g, q1, q2, -⟩ := HRw.out j x hx
      exact ⟨_, q1, q2⟩
    have hN7 : (N.drop h5).length ≤ 1000000 := by rw [List.length_drop]; omega
    have HK7 : Hid (∀ pre x, pre ++ [x] <+: bkV (N.drop h5) → 1 ≤ x.2 ∧ x.2 ≤ 999) := Lib.hid fun pre x hp => by
      have h1 : x ∈ bkV (N.drop h5) := hp.subset (by simp)
      have h2 : x.2 ∈ (bkV (N.drop h5)).map Prod.snd := List.mem_map_of_mem h1
      rw [bk_all, List.mem_reverse] at h2
      exact HK.out _ (List.mem_of_mem_drop h2)
    have HEn : Hid (∀ W, Below B w W → Env W) := Lib.hid fun W hb => (HE.out.step hb).env
    clear M3 M6 M7 M9 L3 O3 HRw hWT nq DB6 hcut B3 hszc HF5 c9 HI5 HB0 B1 B2
    obtain ⟨W7, hW7⟩ : ∃ W7, W7 = w6.alloc (.cells #[.slice NA2 m5 nc2] 23) := ⟨_, rfl⟩
    rw [← hW7] at OB6 HRw6 hbox hz7 HNI ⊢
    clear hW7
    have hRb : ∀ (p : Value) (e : Int) (D' : Dk) (W W' : World) (row : Option Nat), OB w6.heap.size B w.heap.size gl gd w L5 A5 c5 R5 d5 p e D' W → W.grownBy W' row → (∀ r, row = some r → r = w6.heap.size ∨ (W7.heap.size ≤ r ∧ ∃ o : Obj, W.heap[r]? = some o ∧ o.isCells = false)) → OB w6.heap.size B w.heap.size gl gd w L5 A5 c5 R5 d5 p e D' W' := fun p e D' W W' row h hg hr => h.rest hg fun r q => by
      rcases hr r q with q | ⟨q, -⟩ <;> omega
    refine (wpIn_wide (n := 6)).1 ?_
    refine wpIn_rangeBox (n := 6) (b := w6.heap.size) (Kp := fun X Y => Y.heap[w6.heap.size]? = X.heap[w6.heap.size]? ∧ ∀ a, NA = some a → Y.heap[a.block]? = X.heap[a.block]?) rfl (by omega) (gf := 61) rfl trivial (enters_of Tryz.func61 (by kernel_rfl) rfl) (by omega)
      (back_box 5 (by omega) w6.heap.size (.slice NA2 m5 nc2) (N.drop h5) hN7 _ (fun X Y h => ⟨World.cell?_of_block (a := ⟨w6.heap.size, 0, none⟩) h.1, fun hr => by
        obtain ⟨A', c', hv, hc⟩ := hr
        injection hv with hv1 hv2 hv3
        subst hv1 hv3
        refine ⟨NA2, nc2, by rw [hm5], fun j x hx => ?_⟩
        obtain ⟨a, ha, ha2⟩ := HRg.out j x hx
        obtain ⟨a', e1, e2⟩ := hc j x hx
        rw [ha2] at e1
        cases e1
        refine ⟨_, ha2, ?_⟩
        rw [add_at'] at e2 ⊢
        exact (World.cell?_of_block (a := ⟨a.block, h5 + j, none⟩) (h.2 a ha)).trans e2⟩) W7 hbox HRw6.out)
      (fun h k => ⟨k.1.trans h.1, fun a ha => (k.2 a ha).trans (h.2 a ha)⟩) (fun X Y row hX hg hr => ⟨hg.block _ (by omega) (fun e => by have := hr _ e.symm; omega), fun a ha => hg.block _ (by have := HNA.out a ha; omega) (fun e => by have := hr _ e.symm; have := HNA.out a ha; omega)⟩) ⟨rfl, fun _ _ => rfl⟩ (fun _ => rfl)
      (fun pre W => ∃ D', rmV nm D (pre.map Prod.snd) = (0, D') ∧ GoodD D' ∧ OB w6.heap.size B w.heap.size gl gd w L5 A5 c5 R5 d5 (.pointer none) 0 D' W ∧ (∀ a, NA = some a → ∃ cs, Whole W a.block 3 cs) ∧ w6.heap.size < W.heap.size)
      (fun c pre W => c = .ret ∧ ∃ D' e, e ≠ 0 ∧ rmV nm D (pre.map Prod.snd) = (e, D') ∧ OB w6.heap.size B w.heap.size gl gd w L5 A5 c5 R5 d5 (.pointer none) e D' W)
      (fun s X Y row ⟨D', h1, h2, h3, h4, h5⟩ hg hr => ⟨D', h1, h2, hRb _ _ _ _ _ _ h3 hg hr, fun a ha => by
        obtain ⟨cs, q⟩ := h4 a ha
        have := HNA.out a ha
        exact ⟨cs, (hg.block a.block q.inside (fun e => by rcases hr _ e.symm with e | ⟨e, -⟩ <;> omega)).trans q⟩, Nat.lt_of_lt_of_le h5 hg.size⟩) (fun c s X Y row ⟨h0, D', e, h1, h2, h3⟩ hg hr => ⟨h0, D', e, h1, h2, hRb _ _ _ _ _ _ h3 hg hr⟩) ⟨D, rfl, HGD.out, OB6.out, HNI.out, by omega⟩ (fun x => { tmps := #[.pointer (some ⟨gd, 0, none⟩), sV nm, .int .i64 per, .pointer (some ⟨w.heap.size, 0, none⟩), undef, undef, .pointer (some ⟨w.heap.size + 1, 0, none⟩), .pointer (some ⟨w.heap.size + 1 + 1, 0, none⟩), .int .i64 0, .pointer (some ⟨gl + 1, 0, none⟩), .slice NA N.length nc, undef, u12, undef, .int .i64 x.2, undef, undef, .pointer (some ⟨gd, 0, none⟩), sV nm, .int .i64 per, .int .i64 0, .int .i64 0, .bool false, undef, .pointer (some ⟨gd, 0, none⟩), sV nm, .int .i64 per, .agg #[.pointer (some ⟨gd, 0, none⟩), sV nm, .int .i64 per, .int .i64 1, .slice none 0 0, .slice none 0 0, .bool false, .int .i64 0, .bool false], .pointer (some ⟨gl, 0, none⟩), .pointer (some ⟨gl, 0, none⟩), .slice NA N.length nc, .slice NA N.length nc, .int .i64 (N.length : Int), u33, u34, u35, u36, u37, u38, u39, u40, u41, .slice NA N.length nc, .pointer (some ⟨gl, 0, none⟩), .int .i64 (h5 : Int), .slice NA2 m5 nc2, .func (.func 61) #[] #[.pointer (some ⟨w6.heap.size, 0, none⟩)], .int .i64 (x.1 : Int), .int .i64 x.2, undef, undef, undef, undef, undef, undef, undef, undef, undef, undef, undef, undef, undef, undef], defers := [] }) ?assign ?body ?done ?stop
    case assign =>
      intro l x W K hK
      gi_wp2
      exact hK
    case body =>
      rintro l pre x W ⟨D', hR, GD', ob, hni, hbW⟩ hok
      obtain ⟨x0, x1⟩ := HK7.out _ _ hok
      have hfl : (fn nm x.2).length ≤ 100000 := by have := fn_len (nm := nm) (k := x.2) (by omega) (by omega); omega
      have c3 := ob.b3.cell
      have c9 := ob.b9.cell
      have hsz := ob.size
      have HC3 : Hid (∀ w1, Below W.heap.size W w1 → w1.cell? ⟨w.heap.size, 0, none⟩ = some (.pointer (some ⟨gd, 0, none⟩))) := Lib.hid fun w1 b => (ob.later b).b3.cell
      have HFi : Hid (∀ w1, Below W.heap.size W w1 → Calls Tryz.prog 36 #[.pointer (some ⟨gl, 0, none⟩), .int .i64 x.2] w1 fun e w' => e = .returned (sV (fn nm x.2)) ∧ Below w1.heap.size w1 w') := Lib.hid fun w1 b => by
        have := file_any (L := L5) (by rw [HNM.out]; exact hl8) x.2 (by omega) (by omega) (ob.later b).log (HEn.out _ (ob.later b).below)
        rwa [HNM.out] at this
      have HRm : Hid (∀ w1, Below W.heap.size W w1 → Calls Tryz.prog 35 #[.pointer (some ⟨gd, 0, none⟩), sV (fn nm x.2)] w1 fun e w' => e = .returned (.int .i64 (onE D' (fn nm x.2))) ∧ OB w6.heap.size B w.heap.size gl gd w L5 A5 c5 R5 d5 (.pointer none) 0 (remV D' (fn nm x.2)) w' ∧ Turn w1 w' (fun k => B ≤ k ∧ k < w6.heap.size) ∧ WT w1 w' (fun _ => False)) := Lib.hid fun w1 b => (remove_in GD' (fn nm x.2) hfl w1 (ob.later b).disk).mono fun e w' ⟨h1, h2, h3, h4⟩ => ⟨h1, (ob.later b).rem h2 h3 h4, h3, h4⟩
      have hsn := rm_snoc (nm := nm) (k := x.2) (pre.map Prod.snd) D D' hR
      have hmp : (pre ++ [x]).map Prod.snd = pre.map Prod.snd ++ [x.2] := by simp
      have HKe : Hid (∀ w2 w8, Below W.heap.size W w2 → Turn w2 w8 (fun k => B ≤ k ∧ k < w6.heap.size) → WT w2 w8 (fun _ => False) → KeepsFrom W7.heap.size W w8 ∧ ((w8.heap[w6.heap.size]? = W.heap[w6.heap.size]? ∧ ∀ a, NA = some a → w8.heap[a.block]? = W.heap[a.block]?) ∧ ∀ a, NA = some a → ∃ cs, Whole w8 a.block 3 cs)) := Lib.hid fun w2 w8 hb ht hw => by
        have hW7 : W7.heap.size = w6.heap.size + 1 := hz7
        have nn : ∀ a, NA = some a → ∃ cs, Whole W a.block 3 cs ∧ Whole w8 a.block 3 cs := fun a ha => by
          obtain ⟨cs, q⟩ := hni a ha
          have q2 : Whole w2 a.block 3 cs := (hb.block a.block q.inside).trans q
          exact ⟨cs, q, Whole.wt q2 hw (fun q => q) (by decide) (by decide)⟩
        refine ⟨⟨Nat.le_trans hb.size ht.size, fun k o hk ho _ => ?_⟩, ⟨?_, fun a ha => ?_⟩, fun a ha => ?_⟩
        · have hkl := (Array.getElem?_eq_some_iff.1 ho).1
          exact ((ht.block k (Nat.lt_of_lt_of_le hkl hb.size) (by omega)).trans (hb.block k hkl)).trans ho
        · exact (ht.block _ (Nat.lt_of_lt_of_le hbW hb.size) (by omega)).trans (hb.block _ hbW)
        · obtain ⟨cs, q1, q2⟩ := nn a ha
          exact (show w8.heap[a.block]? = _ from q2).trans (show W.heap[a.block]? = _ from q1).symm
        · obtain ⟨cs, q1, q2⟩ := nn a ha
          exact ⟨cs, q2⟩
      have HE0 : Hid (onE D' (fn nm x.2) = 0 → ∀ w8, OB w6.heap.size B w.heap.size gl gd w L5 A5 c5 R5 d5 (.pointer none) 0 (remV D' (fn nm x.2)) w8 → (∀ a, NA = some a → ∃ cs, Whole w8 a.block 3 cs) → w6.heap.size < w8.heap.size → ∃ D', rmV nm D ((pre ++ [x]).map Prod.snd) = (0, D') ∧ GoodD D' ∧ OB w6.heap.size B w.heap.size gl gd w L5 A5 c5 R5 d5 (.pointer none) 0 D' w8 ∧ (∀ a, NA = some a → ∃ cs, Whole w8 a.block 3 cs) ∧ w6.heap.size < w8.heap.size) := Lib.hid fun he w8 hob hn hz => ⟨_, by rw [hmp, hsn, if_neg (by rw [he]; simp)], good_rem GD' _, hob, hn, hz⟩
      have HE1 : Hid (onE D' (fn nm x.2) ≠ 0 → ∀ w8, OB w6.heap.size B w.heap.size gl gd w L5 A5 c5 R5 d5 (.pointer none) 0 (remV D' (fn nm x.2)) w8 → ∃ D2 e, e ≠ 0 ∧ rmV nm D ((pre ++ [x]).map Prod.snd) = (e, D2) ∧ OB w6.heap.size B w.heap.size gl gd w L5 A5 c5 R5 d5 (.pointer none) e D2 ((w8.setCell ⟨w.heap.size + 1, 0, none⟩ (.pointer none)).setCell ⟨w.heap.size + 2, 0, none⟩ (.int .i64 (onE D' (fn nm x.2))))) := Lib.hid fun he w8 hob => ⟨_, _, he, by rw [hmp, hsn, if_pos he], hob.set _ _⟩
      have h41 : 1 ≤ 6 - 1 - 1 := by omega
      clear ob hR hni hsn hmp GD' hok hfl
      generalize fn nm x.2 = f at HFi HRm HE0 HE1
      gi_wp2
      by_cases he : onE D' f = 0
      · have h0 := HE0.out he
        have HE0 := Lib.hid h0
        rw [he] at HRm
        clear HE1 he h0
        gi_region_with (first
          | (refine ⟨trivial, ?_⟩; gi_at_call 36; refine (CallsIn.inRound l (callsIn_wide.2 (HFi.out _ ((Below.refl _ W).drew)))).mono ?_; rintro e w2 ⟨rfl, b2⟩; have c3' := HC3.out _ (((Below.refl _ W).drew).trans b2); have B2 := Lib.hid (((Below.refl _ W).drew).trans b2); clear b2)
          | (refine ⟨trivial, ?_⟩; gi_at_call 35; refine (CallsIn.inRound l (callsIn_wide.2 (HRm.out _ B2.out))).mono ?_; rintro e w8 ⟨rfl, hob⟩; have HOB := Lib.hid hob; clear hob))
        all_goals
          gi_wp2
          obtain ⟨ob8, t8, wt8⟩ := HOB.out
          obtain ⟨k1, k2, k3⟩ := HKe.out _ _ B2.out t8 wt8
          exact ⟨k1, k2, HE0.out _ ob8 k3 (by have := B2.out.size; have := t8.size; have h9 : W.drew.heap.size = W.heap.size := rfl; omega)⟩
      · have h0 := HE1.out he
        have HE1 := Lib.hid h0
        have he2 : (onE D' f != 0) = true := by simpa using he
        clear HE0 he h0
        generalize onE D' f = oe at HE1 HRm he2
        gi_region_with (first
          | (refine ⟨trivial, ?_⟩; gi_at_call 36; refine (CallsIn.inRound l (callsIn_wide.2 (HFi.out _ ((Below.refl _ W).drew)))).mono ?_; rintro e w2 ⟨rfl, b2⟩; have c3' := HC3.out _ (((Below.refl _ W).drew).trans b2); have B2 := Lib.hid (((Below.refl _ W).drew).trans b2); clear b2)
          | (refine ⟨trivial, ?_⟩; gi_at_call 35; refine (CallsIn.inRound l (callsIn_wide.2 (HRm.out _ B2.out))).mono ?_; rintro e w8 ⟨rfl, hob⟩; have HOB := Lib.hid hob; have c6 := hob.1.b6.cell; have f6 := hob.1.b6.frozen; have v7 := hob.1.b7.kept (grownBy_setCell' w8 (w.heap.size + 1) (.pointer none)) (by simp); have c7 := v7.cell; have f7 := v7.frozen; clear v7 hob))
        all_goals
          gi_wp2
          obtain ⟨ob8, t8, wt8⟩ := HOB.out
          obtain ⟨k1, k2, k3⟩ := HKe.out _ _ B2.out t8 wt8
          exact ⟨k1.trans (((KeepsOthers.setCell _ _ _).trans (KeepsOthers.setCell _ _ _)).from _), rfl, HE1.out _ ob8⟩
    case done =>
      rintro Dk xs W hD rfl ⟨D', hR, GD', ob, hni, hbW⟩ hK
      rw [bk_all] at hR
      have hX : X = (syE L5 D', syL L5 D', syD L5 D') := by rw [HOV.out, hR, if_neg (by simp)]
      have hFD : D'.F.length ≤ 1000 := by
        have := (rm_good (nm := nm) ((N.drop h5).reverse) D HGD.out).2
        rw [hR] at this
        have h2 : D'.F.length ≤ D.F.length := this
        omega
      have c9 := ob.b9.cell
      have hglB : B ≤ gl := by omega
      have HSy := Lib.hid (sync_log TK5.out.good HNx.out GD' hFD (HE.out.step ob.below) ob.log ob.diskB hglB)
      have hDk : w.heap.size ≤ Dk := by omega
      have HEnd : Hid (∀ W', LogE W' gl gd (syL L5 D') A5 c5 R5 d5 → DiskB W' B gd (syD L5 D') → WT W W' (fun k => k = gl) → Below B W W' → OB W'.heap.size B w.heap.size gl gd w (syL L5 D') A5 c5 R5 d5 (.pointer none) 0 (syD L5 D') W' ∧ W'.heap[Dk]? = some (.deferred (some []))) := Lib.hid fun W' h1 h2 h3 h4 => ⟨ob.sync h1 h2 h3 h4, h3.block Dk _ hK (by have := ob.hn; omega) (by rintro (⟨_, _, q⟩ | ⟨_, _, q⟩ | ⟨_, _, q⟩) <;> cases q)⟩
      have HFi : Hid (∀ (p : Value) (e : Int) (b : Nat) (W' : World), OB b B w.heap.size gl gd w (syL L5 D') A5 c5 R5 d5 p e (syD L5 D') W' → e = syE L5 D' → p = (if syE L5 D' = 0 then .pointer (some ⟨gl, 0, none⟩) else .pointer none) → OpenPost B gd w X (.returned (.tuple #[p, .int .i64 e])) W') := Lib.hid fun p e b W' ob2 he hp => ⟨gl, by rw [hX, he, hp], fun _ => ⟨_, _, _, _, by rw [hX]; exact ob2.log, fun k hk => (ob2.lb k hk).1⟩, by rw [hX]; exact ob2.dturn⟩
      clear ob hni hR HOV hK hX TK5 HNx GD' HNI OB6 HRw6 HK7 HRg HNA hRb hbox
      generalize syL L5 D' = LS at HSy HEnd HFi
      generalize syD L5 D' = DS at HSy HEnd HFi
      by_cases he : syE L5 D' = 0
      · rw [he] at HSy HFi
        rw [if_pos rfl] at HFi
        clear he
        go_upto_region 19 with (go_at_call 12; refine HSy.out.mono ?_; rintro e w10 ⟨rfl, y1, y2, y3, y4⟩; obtain ⟨ob10, k10⟩ := HEnd.out _ y1 y2 y3 y4; have OB10 := Lib.hid ob10; have K10 := Lib.hid k10; clear y1 y2 y3 y4)
        have c6 := ob10.b6.cell
        have f6 := ob10.b6.frozen
        have v7 := ob10.b7.kept (grownBy_setCell' w10 (w.heap.size + 1) (.pointer (some ⟨gl, 0, none⟩))) (by simp)
        have c7 := v7.cell
        have f7 := v7.frozen
        have c9' := ob10.b9.cell
        clear v7 ob10 k10 c9
        go_wp2_with fail
        have kk := ((KeepsOthers.setCell w10 ⟨w.heap.size + 1, 0, none⟩ (.pointer (some ⟨gl, 0, none⟩))).trans (KeepsOthers.setCell _ ⟨w.heap.size + 2, 0, none⟩ (.int .i64 0))).same Dk _ K10.out rfl
        have OB11 := ((OB10.out.set (.pointer (some ⟨gl, 0, none⟩)) 0).past kk hDk (.deferred none))
        refine ⟨by simp, .inl ⟨_, _, rfl, run_takeDeferred kk, ?_⟩⟩
        exact ⟨_, cell_res7 rfl rfl OB11.b6 OB11.b7, HFi.out _ _ _ _ OB11 rfl rfl⟩
      · rw [if_neg he] at HFi
        have he2 : (syE L5 D' != 0) = true := by simpa using he
        clear he
        generalize syE L5 D' = oe at HSy HFi he2
        go_upto_region 18 with (go_at_call 12; refine HSy.out.mono ?_; rintro e w10 ⟨rfl, y1, y2, y3, y4⟩; obtain ⟨ob10, k10⟩ := HEnd.out _ y1 y2 y3 y4; have OB10 := Lib.hid ob10; have K10 := Lib.hid k10; clear y1 y2 y3 y4)
        have c6 := ob10.b6.cell
        have f6 := ob10.b6.frozen
        have v7 := ob10.b7.kept (grownBy_setCell' w10 (w.heap.size + 1) (.pointer none)) (by simp)
        have c7 := v7.cell
        have f7 := v7.frozen
        clear v7 ob10 k10 c9
        go_wp2_with fail
        have kk := ((KeepsOthers.setCell w10 ⟨w.heap.size + 1, 0, none⟩ (.pointer none)).trans (KeepsOthers.setCell _ ⟨w.heap.size + 2, 0, none⟩ (.int .i64 oe))).same Dk _ K10.out rfl
        have OB11 := ((OB10.out.set (.pointer none) oe).past kk hDk (.deferred none))
        refine ⟨by simp, .inl ⟨_, _, rfl, run_takeDeferred kk, ?_⟩⟩
        exact ⟨_, cell_res7 rfl rfl OB11.b6 OB11.b7, HFi.out _ _ _ _ OB11 rfl rfl⟩
    case stop =>
      rintro Dk c pre W hD hpre ⟨rfl, D', e, he, hR, ob⟩ hK
      have hDk : w.heap.size ≤ Dk := by have := ob.hn; omega
      have hX : X = (e, L5, D') := by
        have h1 : rmV nm D (N.drop h5).reverse = (e, D') := by
          obtain ⟨t, ht⟩ := hpre
          rw [← bk_all, ← ht, List.map_append]
          exact rm_stop _ _ _ _ _ he hR
        rw [HOV.out, h1, if_pos he]
      have OB11 := ob.past hK hDk (.deferred none)
      gi_wp2
      refine ⟨by simp, .inl ⟨_, _, rfl, run_takeDeferred hK, ?_⟩⟩
      refine ⟨_, cell_res7 rfl rfl OB11.b6 OB11.b7, gl, by rw [hX]; dsimp only; rw [if_neg he], fun h0 => ?_, by rw [hX]; exact OB11.dturn⟩
      rw [hX] at h0
      exact absurd h0 he
end
end Go.Proofs.YtfpmcomigolacaaGreatDoor.wal
set_option linter.unusedSimpArgs false
set_option linter.unusedVariables false
namespace Go.Proofs.YtfpmcomigolacaaGreatDoor.wal
open Go.Proofs.YtfpmcomigolacaaGreatDoor.opened Go.Proofs.YtfpmcomigolacaaGreatDoor.block Go.Proofs.YtfpmcomigolacaaGreatDoor.words Go.Proofs.YtfpmcomigolacaaGreatDoor.disk Go.Proofs.YtfpmcomigolacaaGreatDoor.tailed Go.Proofs.YtfpmcomigolacaaGreatDoor.enc Go.Proofs.YtfpmcomigolacaaGreatDoor.code
section
variable {gd B : Nat} {D : Dk} {w : World}
theorem open_log (GD : GoodD D) (hF : D.F.length ≤ 998) (hE : EnvB B w) (hD : DiskB w B gd D) (nm : Bs) (hnm : nm.length ≤ 100000) (per : Int) :
    Calls Tryz.prog 9 #[.pointer (some ⟨gd, 0, none⟩), sV nm, .int .i64 per] w fun e w' => OpenPost B gd w (opnV D nm per (srtI (numsU nm D.F))) e w' := by
  by_cases hc : chkE D nm per = 0
  · exact open_ok GD hF hE hD nm hnm per hc
  · have h : opnV D nm per (srtI (numsU nm D.F)) = (chkE D nm per, lg0 nm per, D) := by unfold opnV; rw [if_pos hc]
    rw [h]
    exact open_bad hE hD nm hnm per _ hc
end
end Go.Proofs.YtfpmcomigolacaaGreatDoor.wal
