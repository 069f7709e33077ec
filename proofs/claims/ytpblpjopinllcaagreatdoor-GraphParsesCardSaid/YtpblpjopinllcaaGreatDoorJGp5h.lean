/-
  What a line adds to the draft of a graph: Gp5h (by gen_gp5.py).
-/
import Derived.Test.YtpblpjopinllcaaGreatDoorJGp4
import Derived.Test.YtpblpjopinllcaaGreatDoorJGp3b
import Derived.StillTailTactics
import Derived.BigQuiet
set_option linter.unusedSimpArgs false
set_option linter.unusedVariables false
namespace Go.Proofs.YtpblpjopinllcaaGreatDoor.graph
open Go.ChangeShapes Go.WideShapes Go.ChangeAt Go.RowKit
open Go.Proofs.YtpblpjopinllcaaGreatDoor.opened Go.Proofs.YtpblpjopinllcaaGreatDoor.block Go.Proofs.YtpblpjopinllcaaGreatDoor.words Go.Proofs.YtpblpjopinllcaaGreatDoor.region
set_option maxRecDepth 100000 in
set_option maxHeartbeats 4000000 in
theorem addChannel_any {B gd mc ml mo : Nat} {v : Gv} {g : Gr} (A : Option Addr) (c : Nat) (ws : List Bs) (hw : ws.length ≤ 100000) (hx : ∀ x ∈ ws, x.length ≤ 100000) (hlc : g.c.length ≤ 50000) (hll : g.l.length ≤ 50000) (hlo : g.o.length ≤ 50000) (hlh : g.h.length ≤ 50000) (w : World) (hD : DrP w B gd mc ml mo v g) (hO : OwnS w B (.slice A ws.length c) ws) (hE : Env w) :
    Calls Tryz.prog 144 #[.pointer (some ⟨gd, 0, none⟩), .slice A ws.length c] w fun e w' => Added B gd mc ml mo g (chF lastIx g ws) e w' ∧ Kept B w w' := by
  have HB := Lib.hid hD.size
  by_cases h3 : ws.length = 4
  · obtain ⟨x0, a, t, b, rfl⟩ := len4 h3
    obtain ⟨b1, rfl, hb1, CW⟩ := own_words hO (by simp)
    have H0 := Lib.hid hD
    have O0 := Lib.hid hO
    have E0 := Lib.hid hE
    have CWh := Lib.hid CW
    have P1 := Lib.hid (fun W (hW : OwnI W mo (g.o.map (·.n))) => placeP_any a [] (hx a (by simp)) (g.o.map (·.n)) mo W hW)
    have P2 := Lib.hid (fun W (hW : OwnI W mo (g.o.map (·.n))) => placeP_any b [] (hx b (by simp)) (g.o.map (·.n)) mo W hW)
    have hgd := hD.cells.inside
    have s1 : ∀ z : Since w, z.1.cell? ⟨b1, 1, none⟩ = some (sV a) := fun z => CWh.out z.1 (z.2.block b1 hb1) 1 a rfl
    have sm : ∀ z : Since w, z.1.cell? ⟨gd, 6, none⟩ = some (.map (some mo)) := fun z => (H0.out.below z.2).cells.read 6
    clear hD hO hE h3 CW
    unfold chF
    dsimp only
    generalize plV lastIx [] (g.o.map (·.n)) a = u at P1 ⊢
    by_cases hz : plE lastIx [] (g.o.map (·.n)) a = 0
    case neg =>
      rw [if_pos (by simpa using hz)]
      have hne : (plE lastIx [] (g.o.map (·.n)) a == 0) = false := by rw [beq_eq_false_iff_ne]; exact hz
      clear hz P2
      generalize plE lastIx [] (g.o.map (·.n)) a = z at P1 hne ⊢
      have PL : Hid (∀ q : Since w, Calls Tryz.prog 222 #[sV a, .string ⟨#[]⟩, .map (some mo)] q.1 fun e w' => e = .returned (.tuple #[.int .i64 (u : Nat), .int .i64 z]) ∧ ∃ q2 : Since w, w' = q2.1) := Lib.hid fun q => since_eq q (P1.out q.1 (H0.out.below q.2).mO)
      go_enter Tryz.func144, Tryz.ntmps144
      go_upto_region 3 with fail
      refine region_since w (by kernel_rfl) (by kernel_rfl) (Below.refl _ _) ?_
      repeat (go_big_quiet_step ((go_at_call 222; with_reducible exact PL.out _)))
      refine wpQuiet_nil ?_
      rintro w4 ⟨q, hq4⟩
      have b4 : Below w.heap.size w w4 := hq4 ▸ q.2
      clear s1 sm hq4
      go_wp2_with fail
      go_ret
      exact ⟨added_bad (H0.out.below b4), kept_of b4 HB.out⟩
    rw [if_neg (by simpa using hz)]
    rw [hz] at P1
    clear hz
    have PL : Hid (∀ q : Since w, Calls Tryz.prog 222 #[sV a, .string ⟨#[]⟩, .map (some mo)] q.1 fun e w' => e = .returned (.tuple #[.int .i64 (u : Nat), .int .i64 0]) ∧ ∃ q2 : Since w, w' = q2.1) := Lib.hid fun q => since_eq q (P1.out q.1 (H0.out.below q.2).mO)
    by_cases ht : t = kwTo
    case neg =>
      rw [if_pos ht]
      have hne : (t == [116, 111]) = false := by rw [beq_eq_false_iff_ne]; exact ht
      clear ht P2
      go_enter Tryz.func144, Tryz.ntmps144
      go_upto_region 3 with fail
      refine region_since w (by kernel_rfl) (by kernel_rfl) (Below.refl _ _) ?_
      repeat (go_big_quiet_step ((go_at_call 222; with_reducible exact PL.out _)))
      refine wpQuiet_nil ?_
      rintro w4 ⟨q, hq4⟩
      have B4 := Lib.hid (show Below w.heap.size w w4 from hq4 ▸ q.2)
      have kt : w4.cell? ⟨b1, 2, none⟩ = some (sV t) := CWh.out w4 (B4.out.block b1 hb1) 2 t rfl
      have hb4 : b1 < w4.heap.size := Nat.lt_of_lt_of_le hb1 B4.out.size
      clear s1 sm hq4
      go_wp2_with fail
      go_ret
      exact ⟨added_bad (H0.out.below B4.out), kept_of B4.out HB.out⟩
    subst ht
    rw [if_neg (by simp)]
    generalize plV lastIx [] (g.o.map (·.n)) b = u2 at P2 ⊢
    by_cases hz : plE lastIx [] (g.o.map (·.n)) b = 0
    case neg =>
      rw [if_pos (by simpa using hz)]
      have hne : (plE lastIx [] (g.o.map (·.n)) b == 0) = false := by rw [beq_eq_false_iff_ne]; exact hz
      clear hz
      generalize plE lastIx [] (g.o.map (·.n)) b = z at P2 hne ⊢
      go_enter Tryz.func144, Tryz.ntmps144
      go_upto_region 3 with fail
      refine region_since w (by kernel_rfl) (by kernel_rfl) (Below.refl _ _) ?_
      repeat (go_big_quiet_step ((go_at_call 222; with_reducible exact PL.out _)))
      refine wpQuiet_nil ?_
      rintro w4 ⟨q, hq4⟩
      have B4 := Lib.hid (show Below w.heap.size w w4 from hq4 ▸ q.2)
      have kt : w4.cell? ⟨b1, 2, none⟩ = some (sV kwTo) := CWh.out w4 (B4.out.block b1 hb1) 2 kwTo rfl
      have hb4 : b1 < w4.heap.size := Nat.lt_of_lt_of_le hb1 B4.out.size
      clear s1 sm hq4
      go_upto_region 8 with fail
      have s3 : ∀ z : Since w4, z.1.cell? ⟨b1, 3, none⟩ = some (sV b) := fun z => CWh.out z.1 ((z.2.block b1 hb4).trans (B4.out.block b1 hb1)) 3 b rfl
      have sm : ∀ z : Since w4, z.1.cell? ⟨gd, 6, none⟩ = some (.map (some mo)) := fun z => ((H0.out.below B4.out).below z.2).cells.read 6
      have PL2 : Hid (∀ q : Since w4, Calls Tryz.prog 222 #[sV b, .string ⟨#[]⟩, .map (some mo)] q.1 fun e w' => e = .returned (.tuple #[.int .i64 (u2 : Nat), .int .i64 z]) ∧ ∃ q2 : Since w4, w' = q2.1) := Lib.hid fun q => since_eq q (P2.out q.1 ((H0.out.below B4.out).below q.2).mO)
      refine region_since w4 (by kernel_rfl) (by kernel_rfl) (Below.refl _ _) ?_
      repeat (go_big_quiet_step ((go_at_call 222; with_reducible exact PL2.out _)))
      refine wpQuiet_nil ?_
      rintro w5 ⟨q, hq4⟩
      have b5 := then_below B4.out (show Below w4.heap.size w4 w5 from hq4 ▸ q.2)
      clear s3 sm hq4 kt
      go_wp2_with fail
      go_ret
      exact ⟨added_bad (H0.out.below b5), kept_of b5 HB.out⟩
    rw [if_neg (by simpa using hz)]
    rw [hz] at P2
    clear hz
    go_enter Tryz.func144, Tryz.ntmps144
    go_upto_region 3 with fail
    refine region_since w (by kernel_rfl) (by kernel_rfl) (Below.refl _ _) ?_
    repeat (go_big_quiet_step ((go_at_call 222; with_reducible exact PL.out _)))
    refine wpQuiet_nil ?_
    rintro w4 ⟨q, hq4⟩
    have B4 := Lib.hid (show Below w.heap.size w w4 from hq4 ▸ q.2)
    have kt : w4.cell? ⟨b1, 2, none⟩ = some (sV kwTo) := CWh.out w4 (B4.out.block b1 hb1) 2 kwTo rfl
    have hb4 : b1 < w4.heap.size := Nat.lt_of_lt_of_le hb1 B4.out.size
    clear s1 sm hq4
    go_upto_region 8 with fail
    have s3 : ∀ z : Since w4, z.1.cell? ⟨b1, 3, none⟩ = some (sV b) := fun z => CWh.out z.1 ((z.2.block b1 hb4).trans (B4.out.block b1 hb1)) 3 b rfl
    have sm : ∀ z : Since w4, z.1.cell? ⟨gd, 6, none⟩ = some (.map (some mo)) := fun z => ((H0.out.below B4.out).below z.2).cells.read 6
    have PL2 : Hid (∀ q : Since w4, Calls Tryz.prog 222 #[sV b, .string ⟨#[]⟩, .map (some mo)] q.1 fun e w' => e = .returned (.tuple #[.int .i64 (u2 : Nat), .int .i64 0]) ∧ ∃ q2 : Since w4, w' = q2.1) := Lib.hid fun q => since_eq q (P2.out q.1 ((H0.out.below B4.out).below q.2).mO)
    refine region_since w4 (by kernel_rfl) (by kernel_rfl) (Below.refl _ _) ?_
    repeat (go_big_quiet_step ((go_at_call 222; with_reducible exact PL2.out _)))
    refine wpQuiet_nil ?_
    rintro w5 ⟨q, hq4⟩
    have B5 := Lib.hid (then_below B4.out (show Below w4.heap.size w4 w5 from hq4 ▸ q.2))
    clear s3 sm hq4 kt hb4 PL PL2 P1 P2 B4
    have D5 := Lib.hid (H0.out.below B5.out)
    have k3 : w5.cell? ⟨gd, 3, none⟩ = some (.slice v.e g.h.length v.m) := D5.out.cells.read 3
    have hg5 := D5.out.cells.inside
    obtain ⟨i0, hi0, hz0, hz1, hz2⟩ := infoD_graph_Ch
    have OR := Lib.hid D5.out.oh
    have HB5 := Lib.hid D5.out.size
    have HX := Lib.hid (rowS_ne D5.out.oh D5.out.cells (by decide))
    have HXc : Hid (some gd ≠ (Value.slice v.e g.h.length v.m).ownBlock) := HX
    go_upto_region 12 with (at_builtin; go_loud (refine wpList_append_own _ rfl _ _ 25 rfl B 61 i0 (.agg #[.int .i64 0, .int .i64 0]) 2 16 Tryz.underlying25 hi0 hz0 hz1 hz2 rfl (by decide) _ _ _ rfl (OR.out.below (fresh1 w5 (.cells #[.int .i64 (u : Nat), .int .i64 (u2 : Nat)] 61))) ⟨_, 0, none⟩ 1 1 (cCh ⟨(u : Nat), (u2 : Nat)⟩) rfl rfl (whole_cells (Whole.fresh w5 61 _)) (CELLS_cCh.one _) (by unfold maxLen; omega) (by omega) (by have := HB5.out; simp; omega) ?_; intro v' w6 hown hgrow _; obtain ⟨g', cap', rfl⟩ := OwnG.succ hown; have W6 := Lib.hid ((D5.out.cells.below (fresh1 w5 _) D5.out.cells.inside).grown hgrow HXc.out); have k6 : w6.cell? ⟨gd, 3, none⟩ = some (.slice v.e g.h.length v.m) := W6.out.read 3; have f6 : w6.frozen? ⟨gd, 3, none⟩ = false := W6.out.soft 3; have T6 := Lib.hid (((TurnS.refl w5 (RowS gd (.slice v.e g.h.length v.m))).later (fresh1 w5 _)).grown hgrow fun j e => .inl (.inr e)); have HO6 := Lib.hid hown; clear hown hgrow k3))
    have hg7 : w6.grownBy (w6.setCell ⟨gd, 3, none⟩ (.slice (some ⟨g', 0, none⟩) (g.h.length + 1) cap')) (some gd) := only_store (only_of_below (Below.refl _ w6) (some gd)) _
    have R10 := Lib.hid (T6.out.grown hg7 (fun j e => .inl (.inl (by cases e; rfl))))
    have X10 := Lib.hid (W6.out.store 3 (.slice (some ⟨g', 0, none⟩) (g.h.length + 1) cap'))
    have O6 : OwnG 61 2 cCh w6 B (.slice (some ⟨g', 0, none⟩) (g.h ++ [(⟨(u : Nat), (u2 : Nat)⟩ : Ch)]).length cap') (g.h ++ [(⟨(u : Nat), (u2 : Nat)⟩ : Ch)]) := by have := HO6.out; unfold OwnG; simpa using this
    have O10 := Lib.hid (O6.past hg7 (fun k e => by cases e; exact rowS_ne O6 W6.out (by decide)))
    clear hg7 O6 HO6 W6 T6 k6 f6
    generalize w6.setCell ⟨gd, 3, none⟩ (.slice (some ⟨g', 0, none⟩) (g.h.length + 1) cap') = w7 at R10 X10 O10 ⊢
    have hmaps := D5.out.rowS_maps D5.out.oh
    have hap := Lib.hid (rowS_above D5.out.oh D5.out.bd)
    have BE := Lib.hid ((kept_of B5.out HB.out).row D5.out.oh D5.out.cells R10.out HB5.out hap.out (by decide) (by decide))
    have DE : Hid (DrE w7 B gd ⟨v.a, v.b, v.d, some ⟨g', 0, none⟩, v.i, v.j, v.k, cap'⟩ mc ml mo { g with h := g.h ++ [⟨(u : Nat), (u2 : Nat)⟩] } (g.c.map (·.n)) (g.l.map (·.n)) (g.o.map (·.n))) := Lib.hid
      ⟨(by have := X10.out; simpa using this), D5.out.oc.turn R10.out (row_apart D5.out.oh D5.out.oc D5.out.cells (by decide) (by decide)), D5.out.ol.turn R10.out (row_apart D5.out.oh D5.out.ol D5.out.cells (by decide) (by decide)), D5.out.oo.turn R10.out (row_apart D5.out.oh D5.out.oo D5.out.cells (by decide) (by decide)), O10.out, D5.out.mC.same (R10.out.block _ D5.out.mC.lt hmaps.1), D5.out.mL.same (R10.out.block _ D5.out.mL.lt hmaps.2.1), D5.out.mO.same (R10.out.block _ D5.out.mO.lt hmaps.2.2), D5.out.bd, D5.out.bc, D5.out.bl, D5.out.bo, D5.out.n1, D5.out.n2, D5.out.n3⟩
    clear hmaps hap X10 O10 R10 OR HX HXc HB5 D5 hg5
    go_wp2_with fail
    go_ret
    exact ⟨⟨rfl, _, DE.out⟩, BE.out⟩
  · rw [chF_not h3]
    have hne : ((ws.length : Int) == 4) = false := by rw [beq_eq_false_iff_ne]; omega
    have H0 := Lib.hid hD
    clear hD hO hE h3
    go_enter Tryz.func144, Tryz.ntmps144
    go_wp2_with fail
    go_ret
    exact ⟨added_bad H0.out, kept_refl _ _⟩
end Go.Proofs.YtpblpjopinllcaaGreatDoor.graph
