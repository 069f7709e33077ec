/-
  The contract of Mend.
  What works does to a disk, as mathematics.
-/
import Derived.Test.YtcogehhjofgbiaaGreatDoorJKu
import Derived.Test.YtcogehhjofgbiaaGreatDoorJKv
import Derived.Test.YtcogehhjofgbiaaGreatDoorJRt6
set_option linter.unusedSimpArgs false
set_option linter.unusedVariables false
namespace Go.Proofs.YtcogehhjofgbiaaGreatDoor.disk
open Go.ChangeShapes Go.WideShapes Go.ChangeAt Go.RowKit Go.Maps Go.WideMaps
open Go.Proofs.YtcogehhjofgbiaaGreatDoor.words Go.Proofs.YtcogehhjofgbiaaGreatDoor.opened Go.Proofs.YtcogehhjofgbiaaGreatDoor.block

theorem slice_to (A : Option Addr) (len c n : Nat) (hn : n ≤ c) (W : World) : (Instr.slice 78 (.slice A len c) none (some (.int .i64 (n : Int))) none).run Tryz.prog W = .ok (.slice A n c) W := by
  go_simp
theorem midL_len (keep : List Int) (k : Nat) (F : List Fl) : (midL keep k F).length ≤ F.length := by
  unfold midL
  have h1 : (mendL keep 0 (F.take k)).length ≤ (F.take k).length := by
    have := (mend_names keep (F.take k) 0).length_le
    simpa using this
  rw [List.length_append, List.length_drop]
  rw [List.length_take] at h1
  omega
theorem lies_turn {w w' : World} {A : Option Addr} {xs : List Value} {S : Nat → Prop} (h : Lies w A xs) (ht : Turn w w' S) (hs : ∀ a, A = some a → ¬ S a.block) : Lies w' A xs := by
  rcases h with h | ⟨b, off, hA, hb, hc⟩
  · exact .inl h
  · have hbb := ht.block b hb (hs _ hA)
    exact .inr ⟨b, off, hA, Nat.lt_of_lt_of_le hb ht.size, fun i x hx => (World.cell?_of_block (w := w) (w' := w') (a := ⟨b, off + i, none⟩) hbb).trans (hc i x hx)⟩
theorem lies_at {w : World} {A : Option Addr} {xs : List Value} (h : Lies w A xs) {k : Nat} {x : Value} (hk : xs[k]? = some x) : ∃ b off, A = some ⟨b, off, none⟩ ∧ b < w.heap.size ∧ w.cell? ⟨b, off + k, none⟩ = some x := by
  rcases h with h | ⟨b, off, hA, hb, hc⟩
  · rw [h] at hk
    simp at hk
  · exact ⟨b, off, hA, hb, hc k x hk⟩
theorem mend_round {wr : World} {S : Nat → Prop} {g : Nat} {D : Dk} (G : GoodD D) (hF : D.F.length ≤ 1000) {keep : List Int} {k : Nat} {f : Fl} (hf : D.F[k]? = some f) (h : DiskP wr S g ⟨midL keep k D.F, D.off, D.left⟩) :
    ∃ (mb : Nat) (A : Option Addr) (c : Nat), f.b.length ≤ c ∧ (∀ w1, Below wr.heap.size wr w1 → w1.cell? ⟨g, 0, none⟩ = some (.map (some mb)) ∧ w1.frozen? ⟨g, 0, none⟩ = false ∧ (Instr.lookup 63 (.map (some mb)) (sV f.n) false).run Tryz.prog w1 = .ok (.agg #[.slice A f.b.length c, .int .i64 (f.l : Int)]) w1) ∧
      (leftN keep k f = 0 → ∀ w1, Below wr.heap.size wr w1 → ∃ w2, (Builtin.delete_ #[63, 9] 0 #[.map (some mb), sV f.n]).run Tryz.prog w1 = .ok (.tuple #[]) w2 ∧ Hid (DiskP w2 S g ⟨midL keep (k + 1) D.F, D.off, D.left⟩ ∧ Turn wr w2 S)) ∧
      (leftN keep k f ≠ 0 → ∀ w1, Below wr.heap.size wr w1 → ∃ w2, (Instr.mapUpdate 63 (.map (some mb)) (sV f.n) (.agg #[.slice A (leftN keep k f) c, .int .i64 (leftN keep k f : Int)])).run Tryz.prog w1 = .ok () w2 ∧ Hid (DiskP w2 S g ⟨midL keep (k + 1) D.F, D.off, D.left⟩ ∧ Turn wr w2 S)) := by
  obtain ⟨mb, E, hE, hS⟩ := h
  have hn : f.n.length ≤ 100000 := by
    have := G.names f (List.mem_of_getElem? hf)
    unfold nameB at this
    simp at this
    omega
  have hlk := mid_lk (keep := keep) G.srt hf
  have hob : oldB (midL keep k D.F) f.n = f.b := by unfold oldB; rw [hlk]; rfl
  have hol : oldL (midL keep k D.F) f.n = f.l := by unfold oldL; rw [hlk]; rfl
  have hef : (lookE E f.n).f = f := by rw [look_f, hE.fs]; show (⟨f.n, oldB (midL keep k D.F) f.n, oldL (midL keep k D.F) f.n⟩ : Fl) = f; rw [hob, hol]
  have hlen : E.length ≤ 1000 := by
    rw [hE.len]
    exact Nat.le_trans (midL_len keep k D.F) hF
  have hrow := hE.look_row f.n
  have hcap := hrow.cap
  rw [hef] at hcap
  have hfl := G.lasts f (List.mem_of_getElem? hf)
  refine ⟨mb, (lookE E f.n).A, (lookE E f.n).c, hcap.1, fun w1 b => ?_, fun h0 w1 b => ?_, fun h0 w1 b => ?_⟩
  · have h1 := hE.below b
    refine ⟨h1.cells.read 0, h1.cells.soft 0, ?_⟩
    have := look_run h1.own h1.ok hn
    rw [this]
    show Result.ok (Value.agg #[.slice (lookE E f.n).A (lookE E f.n).f.b.length (lookE E f.n).c, .int .i64 ((lookE E f.n).f.l : Int)]) w1 = _
    rw [hef]
  · have h1 := hE.below b
    obtain ⟨w2, hrun, ho, hg, -⟩ := del_run h1.own hn 0
    refine ⟨w2, hrun, Lib.hid ⟨⟨mb, delE f.n E, ?_, fun k hk => hS k (blk_del hk)⟩, (turn_below b S).trans (turn_grown hg (S := S) fun k e => by cases e; exact hS mb (.inr (.inl rfl))) fun j hj => .inl hj⟩⟩
    have := h1.del ho hg
    have e : del f.n (midL keep k D.F) = midL keep (k + 1) D.F := mid_del G.srt hf h0
    rw [← e]
    exact this
  · have h1 := hE.below b
    have hle := leftN_hi keep k hfl
    have hv : (mendF keep k f).b.length = leftN keep k f := by unfold mendF; simp; omega
    obtain ⟨w2, hrun, ho, hg, -⟩ := put_run h1.own (by omega) (e := ⟨mendF keep k f, (lookE E f.n).A, (lookE E f.n).c⟩) (look_ok h1.ok f.n) hn
    have hrun' : (Instr.mapUpdate 63 (.map (some mb)) (sV f.n) (.agg #[.slice (lookE E f.n).A (mendF keep k f).b.length (lookE E f.n).c, .int .i64 ((mendF keep k f).l : Int)])).run Tryz.prog w1 = .ok () w2 := hrun
    rw [hv] at hrun'
    refine ⟨w2, hrun', Lib.hid ?_⟩
    have hr2 : RowE wr ⟨mendF keep k f, (lookE E f.n).A, (lookE E f.n).c⟩ := by
      unfold RowE Fe.row at hrow ⊢
      rw [hef] at hrow
      dsimp only at hrow ⊢
      refine ⟨⟨by rw [bsC_len, Nat.mul_one], ?_⟩, fun e0 => absurd (by rw [e0] at hv; exact hv.symm) h0⟩
      rcases hrow.1.2 with ⟨hv1, hn1⟩ | ⟨g', cap, cur, hv1, hb1, hh, h3, h4, h5, h6⟩
      · injection hv1 with e1 e2 e3
        have e0 : leftN keep k f = 0 := by omega
        exact absurd e0 h0
      · injection hv1 with e1 e2 e3
        refine .inr ⟨g', cap, cur, by rw [e1, e3], hb1, hh, by rw [hv]; omega, h4, h5, ?_⟩
        rw [hv]
        have h7 : cur.toList.take (leftN keep k f * 1) = (cur.toList.take (f.b.length * 1)).take (leftN keep k f) := by rw [Nat.mul_one, Nat.mul_one, List.take_take, Nat.min_eq_left (by omega)]
        rw [h7, h6]
        unfold bsC mendF
        rw [List.map_take]
    obtain ⟨p1, p2⟩ := put_back hE hS b hr2 (hE.look_apart f.n) (hE.look_far f.n) ho hg
    refine ⟨?_, p2⟩
    have e : put (mendF keep k f) (midL keep k D.F) = midL keep (k + 1) D.F := mid_put G.srt hf h0
    rw [← e]
    exact p1
set_option maxRecDepth 100000 in
set_option maxHeartbeats 4000000 in
theorem mend_any {S : Nat → Prop} {g : Nat} {D : Dk} (G : GoodD D) (hF : D.F.length ≤ 1000) (K : Option Addr) (kc : Nat) (keep : List Int) (hk : ∀ x ∈ keep, x ≤ 9223372036854775807) (hkl : keep.length ≤ 100000) (w : World) (h : DiskP w S g D) (hK : Lies w K (keep.map (Value.int .i64))) (hKS : ∀ a, K = some a → ¬ S a.block) :
    Calls Tryz.prog 16 #[.pointer (some ⟨g, 0, none⟩), .slice K keep.length kc] w fun e w' => e = .returned (.tuple #[]) ∧ DiskP w' (More w S) g (mendV D keep) ∧ Turn w w' S := by
  -- the disk's blocks lie in S, and below the new ones
  have h0 : DiskP w (fun k => S k ∧ k < w.heap.size) g D := by
    obtain ⟨mb, E, h1, h2⟩ := h
    exact ⟨mb, E, h1, fun k hk => ⟨h2 k hk, h1.inside hk⟩⟩
  have HN0 : Hid (Calls Tryz.prog 43 #[.pointer (some ⟨g, 0, none⟩)] w fun e w' => ∃ A c, e = .returned (.slice A (D.F.map Fl.n).length c) ∧ OwnS w' w.heap.size (.slice A (D.F.map Fl.n).length c) (D.F.map Fl.n) ∧ Below w.heap.size w w') := Lib.hid (by
    obtain ⟨mb, E, h1, -⟩ := h
    exact names_any G hF w h1)
  have KS := Lib.hid hKS
  have HK := Lib.hid hK
  have HP := Lib.hid h0
  have hKK : ∀ k, keepK keep k ≤ 9223372036854775807 := fun k => by
    unfold keepK
    cases hx : keep[k]? with
    | none => simp
    | some x => exact hk x (List.mem_of_getElem? hx)
  have hlF : (D.F.map Fl.n).length = D.F.length := List.length_map ..
  have HEND : Hid (∀ wr : World, DiskP wr (fun k => S k ∧ k < w.heap.size) g ⟨mendL keep 0 D.F, D.off, D.left⟩ → Turn w wr (fun k => S k ∧ k < w.heap.size) → wr.cell? ⟨g, 1, none⟩ = some (.bool D.off) ∧ wr.frozen? ⟨g, 1, none⟩ = false ∧ wr.cell? ⟨g, 2, none⟩ = some (.int .i64 D.left) ∧ wr.frozen? ⟨g, 2, none⟩ = false ∧
      Hid (DiskP ((wr.setCell ⟨g, 1, none⟩ (.bool false)).setCell ⟨g, 2, none⟩ (.int .i64 (-1))) (More w S) g (mendV D keep) ∧ Turn w ((wr.setCell ⟨g, 1, none⟩ (.bool false)).setCell ⟨g, 2, none⟩ (.int .i64 (-1))) S)) := Lib.hid (fun wr ⟨mb, E, e1, e2⟩ ht => by
    refine ⟨e1.cells.read 1, e1.cells.soft 1, e1.cells.read 2, e1.cells.soft 2, Lib.hid ?_⟩
    have hg0 : wr.grownBy wr (some g) := ⟨rfl, rfl, rfl, Nat.le_refl _, fun _ _ _ => rfl⟩
    have hg1 := only_store (i := 1) hg0 (.bool false)
    have hg2 := only_store (i := 2) hg1 (.int .i64 (-1))
    have hc := (e1.cells.store 1 (.bool false)).store 2 (.int .i64 (-1))
    refine ⟨⟨mb, E, e1.write ⟨mendL keep 0 D.F, false, -1⟩ rfl (by simpa using hc) hg2, fun k hk => .inl (e2 k hk).1⟩, ?_⟩
    exact (ht.wide (Q := S) fun k hk => hk.1).trans (turn_grown hg2 (S := S) fun k e => by cases e; exact (e2 g (.inl rfl)).1) fun j hj => .inl hj)
  clear hk hK hKS h h0
  obtain ⟨N, hN⟩ : ∃ N, N = D.F.length := ⟨_, rfl⟩
  rw [hlF, ← hN] at HN0
  have hNl : N ≤ 1000 := by omega
  have HNN := Lib.hid hN
  clear hN hlF
  go_enter Tryz.func16, Tryz.ntmps16
  go_wp2_with (go_at_call 43; refine HN0.out.mono ?_; rintro e w1 ⟨NA, nc, rfl, o1, b1⟩; have O1 := Lib.hid o1; have B1 := Lib.hid b1; clear o1 b1)
  have NS : Hid (∀ a, NA = some a → ¬ (S a.block ∧ a.block < w.heap.size)) := Lib.hid (fun a ha hh => by
    have := World.ownsRow.lt O1.out a.block (by rw [ha]; rfl)
    omega)
  have L1 : Hid (Lies w1 NA ((D.F.map Fl.n).map sV)) := Lib.hid (OwnS.lies O1.out)
  have P1 := Lib.hid (HP.out.below B1.out)
  have T1 := Lib.hid (turn_below B1.out (fun k => S k ∧ k < w.heap.size))
  clear O1
  go_loopw [4, 5, 6, 7, 8, 12] (fun _ _ _ _ _ i wr => ∃ k : Nat, k ≤ N ∧ i = .int .i64 (k : Int) ∧ Hid (DiskP wr (fun k => S k ∧ k < w.heap.size) g ⟨midL keep k D.F, D.off, D.left⟩) ∧ Hid (Turn w wr (fun k => S k ∧ k < w.heap.size)) ∧ Hid (Lies wr NA ((D.F.map Fl.n).map sV))) (fun _ _ _ _ _ i _ => N - (intOf i).toNat)
  case atStart => exact ⟨0, Nat.zero_le _, rfl, by rw [mid_zero]; exact P1, T1, L1⟩
  case round =>
    obtain ⟨k, hkN, rfl, HD, HT, HN⟩ := hrel
    by_cases hlt : k < N
    · obtain ⟨f, hf⟩ : ∃ f, D.F[k]? = some f := ⟨_, List.getElem?_eq_getElem (by have := HNN.out; omega)⟩
      obtain ⟨nb, no, hNA, hnb, ncell⟩ := lies_at HN.out (k := k) (x := sV f.n) (by rw [List.getElem?_map, List.getElem?_map, hf]; rfl)
      subst hNA
      have hfm := List.mem_of_getElem? hf
      have hfl := G.lasts f hfm
      have hfb := G.len hfm
      obtain ⟨mb, A, c, hcl, H1, H2, H3⟩ := mend_round G hF hf HD.out
      have h1 := Lib.hid H1
      have h2 := Lib.hid H2
      have h3 := Lib.hid H3
      obtain ⟨k0, k1, hlk⟩ := H1 wr (Below.refl _ _)
      clear H1 H2 H3
      have hS1 := Lib.hid (fun W => survives_any keep k f A c hfl hfb (hKK k) W)
      have B2 := Lib.hid (fresh1' wr (.cells #[.slice A f.b.length c, .int .i64 (f.l : Int)] 80))
      have OZ := Lib.hid (Whole.fresh wr 80 #[.slice A f.b.length c, .int .i64 (f.l : Int)])
      have HLN := Lib.hid (leftN_hi keep k hfl)
      by_cases hkk : k < keep.length
      · obtain ⟨x, hx⟩ : ∃ x, keep[k]? = some x := ⟨_, List.getElem?_eq_getElem hkk⟩
        have hxk : keepK keep k = x := by unfold keepK; rw [hx]; rfl
        obtain ⟨kb, ko, hKA, hkb, kcell⟩ := lies_at (lies_turn HK.out HT.out (fun a ha hh => KS.out a ha hh.1)) (k := k) (x := .int .i64 x) (by rw [List.getElem?_map, hx]; rfl)
        subst hKA
        rw [hxk] at hS1
        clear hx hxk hf hfm
        generalize hln : leftN keep k f = ln at h2 h3 hS1 HLN
        clear hln
        go_upto_region 7 with fail
        change Code.wp _ _ _ _ (wr.alloc (.cells #[.slice A f.b.length c, .int .i64 (f.l : Int)] 80))
        clear k0 k1 hlk
        generalize wr.alloc (.cells #[.slice A f.b.length c, .int .i64 (f.l : Int)] 80) = W2 at B2 OZ ⊢
        generalize wr.heap.size = gz at OZ ⊢
        have hln0 := HLN.out
        by_cases hz : ln = 0
        · subst hz
          go_upto_region 9 with (first | (refine get rfl 80 (.tmp 7) rfl rfl OZ.out Tryz.underlying80 rfl info59 ?_) | (go_at_call 44; refine (hS1.out _).mono ?_; rintro e w3 ⟨rfl, b3⟩; have B3 := Lib.hid (then_below B2.out b3); have OZ3 := Lib.hid (OZ.out.below b3 OZ.out.inside); clear b3))
          obtain ⟨k0, k1, -⟩ := h1.out w3 B3.out
          obtain ⟨w4, hdel, HD4⟩ := h2.out (by trivial) w3 B3.out
          go_wp2_with fail
          go_roundw
          case rel => exact ⟨k + 1, by omega, by go_num, Lib.hid HD4.out.1, Lib.hid (HT.out.trans HD4.out.2 fun j hj => .inl hj), Lib.hid (lies_turn HN.out HD4.out.2 NS.out)⟩
          case measure => simp [intOf]; omega
        · have hz' : ((ln : Int) == 0) = false := by simpa using hz
          have hsl := fun W => slice_to A f.b.length c ln (by omega) W
          go_upto_region 10 with (first | (refine get rfl 80 (.tmp 7) rfl rfl OZ.out Tryz.underlying80 rfl info59 ?_) | (go_at_call 44; refine (hS1.out _).mono ?_; rintro e w3 ⟨rfl, b3⟩; have B3 := Lib.hid (then_below B2.out b3); have OZ3 := Lib.hid (OZ.out.below b3 OZ.out.inside); clear b3))
          obtain ⟨k0, k1, -⟩ := h1.out w3.drew B3.out.drew
          obtain ⟨w4, hput, HD4⟩ := h3.out hz w3.drew B3.out.drew
          have z0 : w3.drew.cell? ⟨gz, 0, none⟩ = some (.slice A f.b.length c) := OZ3.out.read 0
          clear hz
          go_region
          go_wp2_with fail
          go_roundw
          case rel => exact ⟨k + 1, by omega, by go_num, Lib.hid HD4.out.1, Lib.hid (HT.out.trans HD4.out.2 fun j hj => .inl hj), Lib.hid (lies_turn HN.out HD4.out.2 NS.out)⟩
          case measure => simp [intOf]; omega
      · have hxk : keepK keep k = 0 := by unfold keepK; rw [List.getElem?_eq_none (by omega)]; rfl
        rw [hxk] at hS1
        clear hxk hf hfm
        generalize hln : leftN keep k f = ln at h2 h3 hS1 HLN
        clear hln
        go_upto_region 7 with fail
        change Code.wp _ _ _ _ (wr.alloc (.cells #[.slice A f.b.length c, .int .i64 (f.l : Int)] 80))
        clear k0 k1 hlk
        generalize wr.alloc (.cells #[.slice A f.b.length c, .int .i64 (f.l : Int)] 80) = W2 at B2 OZ ⊢
        generalize wr.heap.size = gz at OZ ⊢
        have hln0 := HLN.out
        by_cases hz : ln = 0
        · subst hz
          go_upto_region 9 with (first | (refine get rfl 80 (.tmp 7) rfl rfl OZ.out Tryz.underlying80 rfl info59 ?_) | (go_at_call 44; refine (hS1.out _).mono ?_; rintro e w3 ⟨rfl, b3⟩; have B3 := Lib.hid (then_below B2.out b3); have OZ3 := Lib.hid (OZ.out.below b3 OZ.out.inside); clear b3))
          obtain ⟨k0, k1, -⟩ := h1.out w3 B3.out
          obtain ⟨w4, hdel, HD4⟩ := h2.out (by trivial) w3 B3.out
          go_wp2_with fail
          go_roundw
          case rel => exact ⟨k + 1, by omega, by go_num, Lib.hid HD4.out.1, Lib.hid (HT.out.trans HD4.out.2 fun j hj => .inl hj), Lib.hid (lies_turn HN.out HD4.out.2 NS.out)⟩
          case measure => simp [intOf]; omega
        · have hz' : ((ln : Int) == 0) = false := by simpa using hz
          have hsl := fun W => slice_to A f.b.length c ln (by omega) W
          go_upto_region 10 with (first | (refine get rfl 80 (.tmp 7) rfl rfl OZ.out Tryz.underlying80 rfl info59 ?_) | (go_at_call 44; refine (hS1.out _).mono ?_; rintro e w3 ⟨rfl, b3⟩; have B3 := Lib.hid (then_below B2.out b3); have OZ3 := Lib.hid (OZ.out.below b3 OZ.out.inside); clear b3))
          obtain ⟨k0, k1, -⟩ := h1.out w3.drew B3.out.drew
          obtain ⟨w4, hput, HD4⟩ := h3.out hz w3.drew B3.out.drew
          have z0 : w3.drew.cell? ⟨gz, 0, none⟩ = some (.slice A f.b.length c) := OZ3.out.read 0
          clear hz
          go_region
          go_wp2_with fail
          go_roundw
          case rel => exact ⟨k + 1, by omega, by go_num, Lib.hid HD4.out.1, Lib.hid (HT.out.trans HD4.out.2 fun j hj => .inl hj), Lib.hid (lies_turn HN.out HD4.out.2 NS.out)⟩
          case measure => simp [intOf]; omega
    · obtain rfl : k = N := by omega
      have HM : Hid (DiskP wr (fun k => S k ∧ k < w.heap.size) g ⟨mendL keep 0 D.F, D.off, D.left⟩) := Lib.hid (by
        have := HD.out
        rw [HNN.out, mid_all] at this
        exact this)
      obtain ⟨c1, f1, c2, f2, HX⟩ := HEND.out wr HM.out HT.out
      clear HEND HM HD HN HK HP HN0 L1 P1 T1 hKK
      generalize D.off = o at c1
      generalize D.left = lf at c2
      go_wp2_with fail
      go_end0
      exact ⟨rfl, HX.out⟩
end Go.Proofs.YtcogehhjofgbiaaGreatDoor.disk
set_option linter.unusedSimpArgs false
set_option linter.unusedVariables false
namespace Go.Proofs.YtcogehhjofgbiaaGreatDoor.disk
open Go.ChangeShapes Go.WideShapes Go.ChangeAt Go.RowKit Go.Maps Go.WideMaps
open Go.Proofs.YtcogehhjofgbiaaGreatDoor.words Go.Proofs.YtcogehhjofgbiaaGreatDoor.opened Go.Proofs.YtcogehhjofgbiaaGreatDoor.block

def K0 : Dk := ⟨[], false, -1⟩
def K1 : Dk := ⟨[⟨[97], [120, 121, 122], 0⟩], false, -1⟩
def K2 : Dk := ⟨[⟨[97], [120, 121, 122], 3⟩], false, -1⟩
def K3 : Dk := ⟨[⟨[97], [120, 121, 122, 117, 118], 3⟩], false, -1⟩
def K4 : Dk := ⟨[⟨[97], [120, 121, 122, 117, 118], 3⟩], false, 1⟩
def K5 : Dk := ⟨[⟨[97], [120, 121, 122, 117, 118], 3⟩, ⟨[98], [119], 0⟩], false, 0⟩
def K6 : Dk := ⟨[⟨[97], [120, 121, 122, 117, 118], 3⟩, ⟨[98], [119], 0⟩], true, 0⟩
def K7 : Dk := ⟨[⟨[97], [120, 121, 122, 117], 4⟩], false, -1⟩
theorem k1 : appV K0 [97] [120, 121, 122] = K1 ∧ appE K0 [97] [120, 121, 122] = 0 := ⟨by kernel_rfl, by kernel_rfl⟩
theorem k2 : synV K1 [97] = K2 ∧ onE K1 [97] = 0 := ⟨by kernel_rfl, by kernel_rfl⟩
theorem k3 : appV K2 [97] [117, 118] = K3 ∧ appE K2 [97] [117, 118] = 0 := ⟨by kernel_rfl, by kernel_rfl⟩
theorem k4 : armV K3 1 = K4 := rfl
theorem k5 : appV K4 [98] [119] = K5 ∧ appE K4 [98] [119] = 0 := ⟨by kernel_rfl, by kernel_rfl⟩
theorem k6 : synV K5 [98] = K6 ∧ onE K5 [98] = 14 := ⟨by kernel_rfl, by kernel_rfl⟩
theorem k7 : mendV K6 [1] = K7 := by kernel_rfl
theorem k8 : readE K6 [97] = 14 ∧ readV K6 [97] = [] := ⟨by kernel_rfl, by kernel_rfl⟩
theorem k9 : readE K7 [97] = 0 ∧ readV K7 [97] = [120, 121, 122, 117] ∧ oldL K7.F [97] = 4 := ⟨by kernel_rfl, by kernel_rfl, by kernel_rfl⟩
theorem k10 : appV K7 [] [120] = K7 ∧ appE K7 [] [120] = 6 ∧ onE K7 [98] = 3 := ⟨by kernel_rfl, by kernel_rfl, by kernel_rfl⟩
theorem g0 : GoodD K0 := good_new
theorem g1 : GoodD K1 := k1.1 ▸ good_app g0 _ _
theorem g2 : GoodD K2 := k2.1 ▸ good_syn g1 _
theorem g3 : GoodD K3 := k3.1 ▸ good_app g2 _ _
theorem g4 : GoodD K4 := k4 ▸ good_arm g3 (by omega) (by omega)
theorem g5 : GoodD K5 := k5.1 ▸ good_app g4 _ _
theorem g6 : GoodD K6 := k6.1 ▸ good_syn g5 _
theorem g7 : GoodD K7 := k7 ▸ good_mend g6 _

/-! ### The contracts, for a disk that lies above B -/
def DiskB (w : World) (B g : Nat) (D : Dk) : Prop := DiskP w (fun k => B ≤ k) g D
theorem DiskB.below {w w' : World} {B g : Nat} {D : Dk} (h : DiskB w B g D) (hb : Below w.heap.size w w') : DiskB w' B g D := DiskP.below h hb
theorem up {w w' w'' : World} {B g : Nat} {D : Dk} {S : Nat → Prop} (hB : B ≤ w.heap.size) (h : DiskP w' (More w S) g D) (hS : ∀ k, S k → B ≤ k) (ht : Turn w w'' S) : DiskB w' B g D ∧ Below B w w'' :=
  ⟨h.wide fun k hk => by
    rcases hk with hk | hk
    · exact hS k hk
    · omega, ht.below hB hS⟩
section
variable {B g : Nat} {D : Dk} {w : World}
theorem newB (w : World) (B : Nat) (hB : B ≤ w.heap.size) : Calls Tryz.prog 9 #[] w fun e w' => e = .returned (.pointer (some ⟨w.heap.size + 1, 0, none⟩)) ∧ DiskB w' B (w.heap.size + 1) K0 ∧ Below B w w' :=
  (new_any w).mono fun _ _ ⟨h1, h2, h3⟩ => ⟨h1, ⟨_, _, h2, fun k hk => by
    rcases hk with rfl | rfl | ⟨x, hx, -⟩
    · omega
    · exact hB
    · cases hx⟩, h3.mono hB⟩
theorem appendB (G : GoodD D) (hF : D.F.length ≤ 1000) (n s : Bs) (hn : n.length ≤ 100000) (hs : s.length ≤ 100000) (hB : B ≤ w.heap.size) (h : DiskB w B g D) :
    Calls Tryz.prog 67 #[.pointer (some ⟨g, 0, none⟩), sV n, sV s] w fun e w' => e = .returned (.int .i64 (appE D n s)) ∧ DiskB w' B g (appV D n s) ∧ Below B w w' :=
  (append_any G hF n s hn hs w h).mono fun _ _ ⟨h1, h2, h3⟩ => ⟨h1, up hB h2 (fun _ hk => hk) h3⟩
theorem syncB (G : GoodD D) (hF : D.F.length ≤ 1000) (n : Bs) (hn : n.length ≤ 100000) (hB : B ≤ w.heap.size) (h : DiskB w B g D) :
    Calls Tryz.prog 70 #[.pointer (some ⟨g, 0, none⟩), sV n] w fun e w' => e = .returned (.int .i64 (onE D n)) ∧ DiskB w' B g (synV D n) ∧ Below B w w' :=
  (sync_any G hF n hn w h).mono fun _ _ ⟨h1, h2, h3⟩ => ⟨h1, up hB h2 (fun _ hk => hk) h3⟩
theorem removeB (G : GoodD D) (n : Bs) (hn : n.length ≤ 100000) (hB : B ≤ w.heap.size) (h : DiskB w B g D) :
    Calls Tryz.prog 36 #[.pointer (some ⟨g, 0, none⟩), sV n] w fun e w' => e = .returned (.int .i64 (onE D n)) ∧ DiskB w' B g (remV D n) ∧ Below B w w' :=
  (remove_any G n hn w h).mono fun _ _ ⟨h1, h2, h3⟩ => ⟨h1, up hB h2 (fun _ hk => hk) h3⟩
theorem armB (n : Int) (hB : B ≤ w.heap.size) (h : DiskB w B g D) :
    Calls Tryz.prog 15 #[.pointer (some ⟨g, 0, none⟩), .int .i64 n] w fun e w' => e = .returned (.tuple #[]) ∧ DiskB w' B g (armV D n) ∧ Below B w w' := by
  obtain ⟨mb, E, h1, h2⟩ := h
  exact (arm_any n w h1).mono fun _ _ ⟨e1, e2, e3, _⟩ => ⟨e1, ⟨mb, E, e2, h2⟩, (Below.refl B w).grown e3 hB (fun k ek => by cases ek; exact h2 g (.inl rfl))⟩
theorem readB' (n : Bs) (hn : n.length ≤ 100000) (h : DiskB w B g D) :
    Calls Tryz.prog 59 #[.pointer (some ⟨g, 0, none⟩), sV n] w fun e w' => e = .returned (.tuple #[sV (readV D n), .int .i64 (readE D n)]) ∧ Below w.heap.size w w' := by
  obtain ⟨mb, E, h1, h2⟩ := h
  exact read_any n hn w h1
theorem lastsB (n : Bs) (hn : n.length ≤ 100000) (h : DiskB w B g D) :
    Calls Tryz.prog 69 #[.pointer (some ⟨g, 0, none⟩), sV n] w fun e w' => e = .returned (.int .i64 (oldL D.F n : Int)) ∧ w = w' := by
  obtain ⟨mb, E, h1, h2⟩ := h
  exact lasts_any n hn w h1
theorem downB (h : DiskB w B g D) : Calls Tryz.prog 52 #[.pointer (some ⟨g, 0, none⟩)] w fun e w' => e = .returned (.bool D.off) ∧ w = w' := by
  obtain ⟨mb, E, h1, h2⟩ := h
  exact down_any w h1
theorem namesB (G : GoodD D) (hF : D.F.length ≤ 1000) (h : DiskB w B g D) :
    Calls Tryz.prog 43 #[.pointer (some ⟨g, 0, none⟩)] w fun e w' => ∃ A c, e = .returned (.slice A (D.F.map Fl.n).length c) ∧ OwnS w' w.heap.size (.slice A (D.F.map Fl.n).length c) (D.F.map Fl.n) ∧ Below w.heap.size w w' := by
  obtain ⟨mb, E, h1, h2⟩ := h
  exact names_any G hF w h1
/-- Mend by a row that is newer than w0. -/
theorem mendB {w0 : World} (G : GoodD D) (hF : D.F.length ≤ 1000) (K : Option Addr) (kc : Nat) (keep : List Int) (hk : ∀ x ∈ keep, x ≤ 9223372036854775807) (hkl : keep.length ≤ 100000) (hB : B ≤ w0.heap.size) (h : DiskB w0 B g D) (hb : Below w0.heap.size w0 w) (hK : Lies w K (keep.map (Value.int .i64))) (hKn : ∀ a, K = some a → w0.heap.size ≤ a.block) :
    Calls Tryz.prog 16 #[.pointer (some ⟨g, 0, none⟩), .slice K keep.length kc] w fun e w' => e = .returned (.tuple #[]) ∧ DiskB w' B g (mendV D keep) ∧ Below B w w' := by
  have h1 : DiskP w0 (fun k => B ≤ k ∧ k < w0.heap.size) g D := by
    obtain ⟨mb, E, h1, h2⟩ := h
    exact ⟨mb, E, h1, fun k hk => ⟨h2 k hk, h1.inside hk⟩⟩
  exact (mend_any G hF K kc keep hk hkl w (h1.below hb) hK (fun a ha hh => by have := hKn a ha; omega)).mono fun _ _ ⟨e1, e2, e3⟩ => ⟨e1, up (Nat.le_trans hB hb.size) e2 (fun _ hk => hk.1) e3⟩
theorem copyB (G : GoodD D) (hF : D.F.length ≤ 1000) (h : DiskB w B g D) :
    Calls Tryz.prog 46 #[.pointer (some ⟨g, 0, none⟩)] w fun e w' => e = .returned (.pointer (some ⟨w.heap.size + 1, 0, none⟩)) ∧ DiskB w' w.heap.size (w.heap.size + 1) D ∧ Below w.heap.size w w' := by
  obtain ⟨mb, E, h1, h2⟩ := h
  exact copy_any G hF w h1
end
end Go.Proofs.YtcogehhjofgbiaaGreatDoor.disk
