/-
  MultiHolds: the frontier holds each time that is there, and each of its times is there.
-/
import Derived.Test.YtpjlefdigpejdaaWk8
import Derived.Test.YtpjlefdigpejdaaHd
import Derived.Test.YtpjlefdigpejdaaCk
namespace Go.Proofs.Ytpjlefdigpejdaa.multi
open Go.ChangeShapes Go.WideShapes Go.ChangeAt Go.RowKit
open Go.Proofs.Ytpjlefdigpejdaa.region
open Go.Proofs.Ytpjlefdigpejdaa.tm Go.Proofs.Ytpjlefdigpejdaa.opened Go.Proofs.Ytpjlefdigpejdaa.block Go.Proofs.Ytpjlefdigpejdaa.stamp Go.Proofs.Ytpjlefdigpejdaa.chain

theorem lp_cells {w : World} {b o k : Nat} {M : List TN} {p : TN} (h : Lp w (some ⟨b, o, none⟩) M) (hk : M[k]? = some p) :
    w.cell? ⟨b, o + k * 6, none⟩ = some (.int .u32 p.1.e) ∧ w.cell? ⟨b, o + k * 6 + 1, none⟩ = some (.int .i64 p.1.d) ∧ w.cell? ⟨b, o + k * 6 + 2, none⟩ = some (.int .u32 p.1.a) ∧ w.cell? ⟨b, o + k * 6 + 3, none⟩ = some (.int .u32 p.1.b) ∧ w.cell? ⟨b, o + k * 6 + 4, none⟩ = some (.int .u32 p.1.c) ∧ w.cell? ⟨b, o + k * 6 + 5, none⟩ = some (.int .i64 p.2) := by
  obtain ⟨b', o', hA, -, h⟩ := h.at hk
  simp only [Option.some.injEq, Addr.mk.injEq, and_true] at hA
  obtain ⟨rfl, rfl⟩ := hA
  exact h
theorem make_seven {d : Int} {M : List TN} (G : GoodM d M) : makeE (present M) (inP G) = 0 ∨ makeE (present M) (inP G) = 7 := by
  have ht := times_all (fun t ht => present_in G t ht)
  unfold makeE
  rw [ht]
  split
  · exact .inr rfl
  · simp only [ne_eq, not_true_eq_false, if_false]
    split
    · exact .inr rfl
    · exact .inl rfl
theorem made_there {d : Int} {M : List TN} (G : GoodM d M) (e : makeE (present M) (inP G) = 0) : ∀ t ∈ makeV (present M) (inP G), 0 < countM M t := by
  intro t ht
  rw [(make_zero e).1] at ht
  have := ((refF_set _ _).1 ht).1
  obtain ⟨p, hp, rfl⟩ := List.mem_map.1 this
  obtain ⟨h1, h2⟩ := List.mem_filter.1 hp
  rw [count_mem G.srt h1]
  simpa using h2
theorem made_holds {d : Int} {M : List TN} (G : GoodM d M) (e : makeE (present M) (inP G) = 0) : ∀ p ∈ M, 0 < p.2 → holdsB (makeV (present M) (inP G)) p.1 = true := by
  intro p hp h
  rw [make_holds e]
  have hpr : p.1 ∈ present M := List.mem_map.2 ⟨p, List.mem_filter.2 ⟨hp, by simpa using h⟩, rfl⟩
  exact holds_iff.2 ⟨p.1, hpr, ok_refl ⟨(G.key p hp).1, (G.key p hp).2.1⟩⟩
set_option maxRecDepth 100000 in
set_option maxHeartbeats 8000000 in
theorem walkH (A : Option Addr) (c : Nat) (L : List Ac) (iL : ∀ a ∈ L, a.In) (mL : L.length ≤ 4611686018427387903) (w : World) (h : La w A L) :
    Calls Try.prog 6 #[.slice A L.length c] w fun e w' => e = .returned (.bool true) ∧ Below w.heap.size w w' := by
  have H := Lib.hid h
  have W0 := Lib.hid (works_any w)
  have MD := Lib.hid (fun W hW => made_any A c L iL mL W hW)
  obtain ⟨G0, hm⟩ := sumA_good (d := depA L) (L := L.take 60) (fun y hy => iL y (List.mem_of_mem_take hy))
  clear h
  generalize sumA (depA L) (L.take 60) = M at MD G0 hm
  generalize depA L = d at MD G0
  have G := Lib.hid G0
  have FR := Lib.hid (fun W g b hW => frontier_chain (g := g) (b := b) (c := 0) (A := none) (L := []) G0 hm W hW)
  have AL := Lib.hid (fun W g b hW => all_any (g := g) (b := b) (c := 0) (A := none) (L := []) G0 hm W hW)
  rcases make_seven G0 with hE | hE
  rotate_left
  · rw [hE] at FR
    generalize makeV (present M) _ = F at FR
    clear AL hE
    go_enter Try.func6, Try.ntmps6
    go_wp2_with (first
      | (go_at_call 31; refine W0.out.mono ?_; rintro e w1 ⟨rfl, b1⟩; have H1 := Lib.hid (H.out.below b1); have B1 := Lib.hid b1; clear b1)
      | (go_at_call 32; refine (MD.out _ H1.out).mono ?_; rintro e w2 ⟨g, b, rfl, h2, b2⟩; have H2 := Lib.hid h2; have B2 := Lib.hid (B1.out.trans (b2.mono B1.out.size)); clear h2 b2)
      | (go_at_call 36; refine (FR.out _ _ _ H2.out).mono ?_; rintro e w3 ⟨B, cb, rfl, h3, b3⟩; have B3 := Lib.hid (B2.out.trans (b3.mono B2.out.size)); clear h3 b3))
    go_ret
    exact ⟨rfl, B3.out⟩
  have hFr := Lib.hid (make_zero hE).2.1
  have hTh := Lib.hid (made_there G0 hE)
  have hHo := Lib.hid (made_holds G0 hE)
  have hiF := Lib.hid (front_in hFr.out)
  have hlF : (makeV (present M) (inP G0)).length ≤ 4096 := present_le M hm G0
  rw [hE] at FR
  generalize makeV (present M) _ = F at FR hFr hTh hHo hiF hlF
  clear hE
  go_enter Try.func6, Try.ntmps6
  go_wp2_with (first
    | (go_at_call 31; refine W0.out.mono ?_; rintro e w1 ⟨rfl, b1⟩; have H1 := Lib.hid (H.out.below b1); have B1 := Lib.hid b1; clear b1)
    | (go_at_call 32; refine (MD.out _ H1.out).mono ?_; rintro e w2 ⟨g, b, rfl, h2, b2⟩; have H2 := Lib.hid h2; have B2 := Lib.hid (B1.out.trans (b2.mono B1.out.size)); clear h2 b2)
    | (go_at_call 36; refine (FR.out _ _ _ H2.out).mono ?_; rintro e w3 ⟨B, cb, rfl, h3, b3⟩; have F3 := Lib.hid h3; have H3 := Lib.hid (H2.out.below b3); have B3 := Lib.hid (B2.out.trans (b3.mono B2.out.size)); clear h3 b3)
    | (go_at_call 35; refine (AL.out _ _ _ H3.out).mono ?_; rintro e w4 ⟨P, cp, rfl, h4, b4⟩; have P4 := Lib.hid h4; have F4 := Lib.hid (F3.out.below b4); have H4 := Lib.hid (H3.out.below b4); have B4 := Lib.hid (B3.out.trans (b4.mono B3.out.size)); clear h4 b4))
  clear FR AL W0 MD H
  go_loopw [7] (fun v wr => ∃ k : Nat, k ≤ M.length ∧ v = .int .i64 k ∧ Below w4.heap.size w4 wr) (fun v _ => M.length - (intOf v).toNat)
  case atStart => exact ⟨0, Nat.zero_le _, rfl, Below.refl _ _⟩
  case round =>
    obtain ⟨k, hk, rfl, BB⟩ := hrel
    by_cases hlt : k < M.length
    · obtain ⟨p, hp, hpm⟩ : ∃ p, M[k]? = some p ∧ p ∈ M := ⟨M[k], by simp [hlt], List.getElem_mem hlt⟩
      have hcm := count_mem G.out.srt hpm
      have it := G.out.inn p hpm
      have hn0 := (G.out.num p hpm).1
      have hho := hHo.out p hpm
      obtain ⟨t, n⟩ := p
      simp only at hcm it hn0 hho
      obtain ⟨pb, po, hA, -⟩ := P4.out.at hp
      subst hA
      have HP := Lib.hid (P4.out.below BB)
      have CC := Lib.hid (fun w2 (hb : Below wr.heap.size wr w2) => count_any t it G.out w2 ((H4.out.below BB).below hb))
      rw [hcm] at CC
      have CH := Lib.hid (fun w2 (hb : Below wr.heap.size wr w2) => holds_any B cb F t it hiF.out (by omega) w2 ((F4.out.below BB).below hb))
      have hlt2 : (k : Int) < (M.length : Int) := by omega
      clear hcm hpm
      go_upto_region 11 with fail
      by_cases hn1 : 0 < n
      · rw [hho hn1] at CH
        clear hho
        refine region_want 85 [Is (.slice (some ⟨pb, po, none⟩) M.length cp), Is (.int .i64 (k : Int)), Is (.pointer (some ⟨pb, po + k * 6, none⟩)), Is (.pointer (some ⟨pb, po + k * 6 + 5, none⟩)), Is (.int .i64 n), Is (.bool false), Is (.bool false), Is (.slice (some ⟨pb, po, none⟩) M.length cp), Is (.int .i64 (k : Int)), Is (.pointer (some ⟨pb, po + k * 6, none⟩)), Is (.pointer (some ⟨pb, po + k * 6 + 5, none⟩)), Is (.int .i64 n), Is (.bool true), Is (.bool true), Is (.slice B F.length cb), Is (.slice (some ⟨pb, po, none⟩) M.length cp), Is (.int .i64 (k : Int)), Is (.pointer (some ⟨pb, po + k * 6, none⟩)), Is (.pointer (some ⟨pb, po + k * 6, none⟩)), Is (.agg #[.int .u32 t.e, .int .i64 t.d, .int .u32 t.a, .int .u32 t.b, .int .u32 t.c]), Is (.bool true), Is (.bool false), Is (.bool false), Is (.bool false), Is (.bool false), Is (.pointer (some ⟨g, 0, none⟩)), Is (.slice (some ⟨pb, po, none⟩) M.length cp), Is (.int .i64 (k : Int)), Is (.pointer (some ⟨pb, po + k * 6, none⟩)), Is (.pointer (some ⟨pb, po + k * 6, none⟩)), Is (.agg #[.int .u32 t.e, .int .i64 t.d, .int .u32 t.a, .int .u32 t.b, .int .u32 t.c]), Is (.int .i64 n), Is (.slice (some ⟨pb, po, none⟩) M.length cp), Is (.int .i64 (k : Int)), Is (.pointer (some ⟨pb, po + k * 6, none⟩)), Is (.pointer (some ⟨pb, po + k * 6 + 5, none⟩)), Is (.int .i64 n), Is (.bool false), Is (.bool false)] (by kernel_rfl) rfl (by kernel_rfl) ?_ ?_
        · exact ⟨keeps_is _, keeps_is _, keeps_is _, keeps_is _, keeps_is _, keeps_is _, keeps_is _, keeps_is _, keeps_is _, keeps_is _, keeps_is _, keeps_is _, keeps_is _, keeps_is _, keeps_is _, keeps_is _, keeps_is _, keeps_is _, keeps_is _, keeps_is _, keeps_is _, keeps_is _, keeps_is _, keeps_is _, keeps_is _, keeps_is _, keeps_is _, keeps_is _, keeps_is _, keeps_is _, keeps_is _, keeps_is _, keeps_is _, keeps_is _, keeps_is _, keeps_is _, keeps_is _, keeps_is _, keeps_is _, trivial⟩
        · intro fin hfin
          simp [lexPut, Act.put] at hfin
          refine ⟨⟨?_, ?_, ?_, ?_, ?_, ?_, ?_, ?_, ?_, ?_, ?_, ?_, ?_, ?_, ?_, ?_, ?_, ?_, ?_, ?_, ?_, ?_, ?_, ?_, ?_, ?_, ?_, ?_, ?_, ?_, ?_, ?_, ?_, ?_, ?_, ?_, ?_, ?_, ?_, trivial⟩, ?_⟩
          · intro v w2 hb hd
            exact done_plain rfl (yields_is (tells_move rfl (by rw [hfin]; rfl)) hb)
          · intro v w2 hb hd
            exact done_plain rfl (yields_is (tells_move rfl (by rw [hfin]; rfl)) hb)
          · intro v w2 hb hd
            have h0 : v 0 = _ := hd 0 (by kernel_rfl)
            have h1 : v 1 = _ := hd 1 (by kernel_rfl)
            refine done_plain rfl (yields_run (u := .pointer (some ⟨pb, po + k * 6, none⟩)) (w' := w2) ?_ (Below.refl _ _) rfl)
            rw [hfin]
            unfold execOp
            simp [go_sem, Act.eval, h0, h1, hlt2]
          · intro v w2 hb hd
            have h2 : v 2 = _ := hd 2 (by kernel_rfl)
            refine done_plain rfl (yields_run (u := .pointer (some ⟨pb, po + k * 6 + 5, none⟩)) (w' := w2) ?_ (Below.refl _ _) rfl)
            rw [hfin]
            unfold execOp
            simp [go_sem, Act.eval, h2]
          · intro v w2 hb hd
            have h3 : v 3 = _ := hd 3 (by kernel_rfl)
            obtain ⟨a0, a1, a2, a3, a4, a5⟩ := lp_cells (HP.out.below hb) hp
            refine done_plain rfl (yields_run (u := .int .i64 n) (w' := w2) ?_ (Below.refl _ _) rfl)
            rw [hfin]
            unfold execOp
            simp [go_sem, Act.eval, h3, a5]
          · intro v w2 hb hd
            have h4 : v 4 = _ := hd 4 (by kernel_rfl)
            refine done_plain rfl (yields_run (u := .bool false) (w' := w2) ?_ (Below.refl _ _) rfl)
            rw [hfin]
            unfold execOp
            simp [go_sem, Act.eval, h4, hn0]
          · intro v w2 hb hd
            have h5 : v 5 = _ := hd 5 (by kernel_rfl)
            exact done_plain rfl (yields_is (tells_move rfl (by rw [hfin]; exact h5)) hb)
          · intro v w2 hb hd
            exact done_want 6 false rfl (hd 6 (by kernel_rfl)) (yields_is (tells_move rfl (by rw [hfin]; rfl)) hb)
          · intro v w2 hb hd
            exact done_want 6 false rfl (hd 6 (by kernel_rfl)) (yields_is (tells_move rfl (by rw [hfin]; rfl)) hb)
          · intro v w2 hb hd
            have h7 : v 7 = _ := hd 7 (by kernel_rfl)
            have h8 : v 8 = _ := hd 8 (by kernel_rfl)
            refine done_want 6 false rfl (hd 6 (by kernel_rfl)) (yields_run (u := .pointer (some ⟨pb, po + k * 6, none⟩)) (w' := w2) ?_ (Below.refl _ _) rfl)
            rw [hfin]
            unfold execOp
            simp [go_sem, Act.eval, h7, h8, hlt2]
          · intro v w2 hb hd
            have h9 : v 9 = _ := hd 9 (by kernel_rfl)
            refine done_want 6 false rfl (hd 6 (by kernel_rfl)) (yields_run (u := .pointer (some ⟨pb, po + k * 6 + 5, none⟩)) (w' := w2) ?_ (Below.refl _ _) rfl)
            rw [hfin]
            unfold execOp
            simp [go_sem, Act.eval, h9]
          · intro v w2 hb hd
            have h10 : v 10 = _ := hd 10 (by kernel_rfl)
            obtain ⟨a0, a1, a2, a3, a4, a5⟩ := lp_cells (HP.out.below hb) hp
            refine done_want 6 false rfl (hd 6 (by kernel_rfl)) (yields_run (u := .int .i64 n) (w' := w2) ?_ (Below.refl _ _) rfl)
            rw [hfin]
            unfold execOp
            simp [go_sem, Act.eval, h10, a5]
          · intro v w2 hb hd
            have h11 : v 11 = _ := hd 11 (by kernel_rfl)
            refine done_want 6 false rfl (hd 6 (by kernel_rfl)) (yields_run (u := .bool true) (w' := w2) ?_ (Below.refl _ _) rfl)
            rw [hfin]
            unfold execOp
            simp [go_sem, Act.eval, h11, hn1]
          · intro v w2 hb hd
            have h12 : v 12 = _ := hd 12 (by kernel_rfl)
            exact done_want 6 false rfl (hd 6 (by kernel_rfl)) (yields_is (tells_move rfl (by rw [hfin]; exact h12)) hb)
          · intro v w2 hb hd
            exact done_want 13 true rfl (hd 13 (by kernel_rfl)) (yields_is (tells_move rfl (by rw [hfin]; rfl)) hb)
          · intro v w2 hb hd
            exact done_want 13 true rfl (hd 13 (by kernel_rfl)) (yields_is (tells_move rfl (by rw [hfin]; rfl)) hb)
          · intro v w2 hb hd
            exact done_want 13 true rfl (hd 13 (by kernel_rfl)) (yields_is (tells_move rfl (by rw [hfin]; rfl)) hb)
          · intro v w2 hb hd
            have h15 : v 15 = _ := hd 15 (by kernel_rfl)
            have h16 : v 16 = _ := hd 16 (by kernel_rfl)
            refine done_want 13 true rfl (hd 13 (by kernel_rfl)) (yields_run (u := .pointer (some ⟨pb, po + k * 6, none⟩)) (w' := w2) ?_ (Below.refl _ _) rfl)
            rw [hfin]
            unfold execOp
            simp [go_sem, Act.eval, h15, h16, hlt2]
          · intro v w2 hb hd
            have h17 : v 17 = _ := hd 17 (by kernel_rfl)
            refine done_want 13 true rfl (hd 13 (by kernel_rfl)) (yields_run (u := .pointer (some ⟨pb, po + k * 6, none⟩)) (w' := w2) ?_ (Below.refl _ _) rfl)
            rw [hfin]
            unfold execOp
            simp [go_sem, Act.eval, h17]
          · intro v w2 hb hd
            have h18 : v 18 = _ := hd 18 (by kernel_rfl)
            obtain ⟨a0, a1, a2, a3, a4, a5⟩ := lp_cells (HP.out.below hb) hp
            refine done_want 13 true rfl (hd 13 (by kernel_rfl)) (yields_run (u := .agg #[.int .u32 t.e, .int .i64 t.d, .int .u32 t.a, .int .u32 t.b, .int .u32 t.c]) (w' := w2) ?_ (Below.refl _ _) rfl)
            rw [hfin]
            unfold execOp
            simp [go_sem, Act.eval, h18, a0, a1, a2, a3, a4]
          · intro v w2 hb hd
            have h14 : v 14 = _ := hd 14 (by kernel_rfl)
            have h19 : v 19 = _ := hd 19 (by kernel_rfl)
            refine done_want 13 true rfl (hd 13 (by kernel_rfl)) (yields_call (f := 37) rfl (vs := #[.slice B F.length cb, .agg #[.int .u32 t.e, .int .i64 t.d, .int .u32 t.a, .int .u32 t.b, .int .u32 t.c]]) (by rw [hfin]; simp [Act.eval, h14, h19]) rfl Try.func37 (by kernel_rfl) (by kernel_rfl) ?_)
            exact (CH.out w2 hb).mono fun e w' ⟨he, hb'⟩ => ⟨_, he, hb', rfl⟩
          · intro v w2 hb hd
            have h20 : v 20 = _ := hd 20 (by kernel_rfl)
            refine done_want 13 true rfl (hd 13 (by kernel_rfl)) (yields_run (u := .bool false) (w' := w2) ?_ (Below.refl _ _) rfl)
            rw [hfin]
            unfold execOp
            simp [go_sem, Act.eval, h20]
          · intro v w2 hb hd
            have h13 : v 13 = _ := hd 13 (by kernel_rfl)
            have h21 : v 21 = _ := hd 21 (by kernel_rfl)
            refine done_want 6 false rfl (hd 6 (by kernel_rfl)) (yields_run (u := .bool false) (w' := w2) ?_ (Below.refl _ _) rfl)
            rw [hfin]
            unfold execOp
            simp [go_sem, Act.eval, h13, h21]
          · intro v w2 hb hd
            have h6 : v 6 = _ := hd 6 (by kernel_rfl)
            have h22 : v 22 = _ := hd 22 (by kernel_rfl)
            refine done_plain rfl (yields_run (u := .bool false) (w' := w2) ?_ (Below.refl _ _) rfl)
            rw [hfin]
            unfold execOp
            simp [go_sem, Act.eval, h6, h22]
          · intro v w2 hb hd
            have h23 : v 23 = _ := hd 23 (by kernel_rfl)
            exact done_plain rfl (yields_is (tells_move rfl (by rw [hfin]; exact h23)) hb)
          · intro v w2 hb hd
            exact done_want 24 false rfl (hd 24 (by kernel_rfl)) (yields_is (tells_move rfl (by rw [hfin]; rfl)) hb)
          · intro v w2 hb hd
            exact done_want 24 false rfl (hd 24 (by kernel_rfl)) (yields_is (tells_move rfl (by rw [hfin]; rfl)) hb)
          · intro v w2 hb hd
            exact done_want 24 false rfl (hd 24 (by kernel_rfl)) (yields_is (tells_move rfl (by rw [hfin]; rfl)) hb)
          · intro v w2 hb hd
            have h26 : v 26 = _ := hd 26 (by kernel_rfl)
            have h27 : v 27 = _ := hd 27 (by kernel_rfl)
            refine done_want 24 false rfl (hd 24 (by kernel_rfl)) (yields_run (u := .pointer (some ⟨pb, po + k * 6, none⟩)) (w' := w2) ?_ (Below.refl _ _) rfl)
            rw [hfin]
            unfold execOp
            simp [go_sem, Act.eval, h26, h27, hlt2]
          · intro v w2 hb hd
            have h28 : v 28 = _ := hd 28 (by kernel_rfl)
            refine done_want 24 false rfl (hd 24 (by kernel_rfl)) (yields_run (u := .pointer (some ⟨pb, po + k * 6, none⟩)) (w' := w2) ?_ (Below.refl _ _) rfl)
            rw [hfin]
            unfold execOp
            simp [go_sem, Act.eval, h28]
          · intro v w2 hb hd
            have h29 : v 29 = _ := hd 29 (by kernel_rfl)
            obtain ⟨a0, a1, a2, a3, a4, a5⟩ := lp_cells (HP.out.below hb) hp
            refine done_want 24 false rfl (hd 24 (by kernel_rfl)) (yields_run (u := .agg #[.int .u32 t.e, .int .i64 t.d, .int .u32 t.a, .int .u32 t.b, .int .u32 t.c]) (w' := w2) ?_ (Below.refl _ _) rfl)
            rw [hfin]
            unfold execOp
            simp [go_sem, Act.eval, h29, a0, a1, a2, a3, a4]
          · intro v w2 hb hd
            have h25 : v 25 = _ := hd 25 (by kernel_rfl)
            have h30 : v 30 = _ := hd 30 (by kernel_rfl)
            refine done_want 24 false rfl (hd 24 (by kernel_rfl)) (yields_call (f := 20) rfl (vs := #[.pointer (some ⟨g, 0, none⟩), .agg #[.int .u32 t.e, .int .i64 t.d, .int .u32 t.a, .int .u32 t.b, .int .u32 t.c]]) (by rw [hfin]; simp [Act.eval, h25, h30]) rfl Try.func20 (by kernel_rfl) (by kernel_rfl) ?_)
            exact (CC.out w2 hb).mono fun e w' ⟨he, hb'⟩ => ⟨_, he, hb', rfl⟩
          · intro v w2 hb hd
            exact done_want 24 false rfl (hd 24 (by kernel_rfl)) (yields_is (tells_move rfl (by rw [hfin]; rfl)) hb)
          · intro v w2 hb hd
            exact done_want 24 false rfl (hd 24 (by kernel_rfl)) (yields_is (tells_move rfl (by rw [hfin]; rfl)) hb)
          · intro v w2 hb hd
            have h32 : v 32 = _ := hd 32 (by kernel_rfl)
            have h33 : v 33 = _ := hd 33 (by kernel_rfl)
            refine done_want 24 false rfl (hd 24 (by kernel_rfl)) (yields_run (u := .pointer (some ⟨pb, po + k * 6, none⟩)) (w' := w2) ?_ (Below.refl _ _) rfl)
            rw [hfin]
            unfold execOp
            simp [go_sem, Act.eval, h32, h33, hlt2]
          · intro v w2 hb hd
            have h34 : v 34 = _ := hd 34 (by kernel_rfl)
            refine done_want 24 false rfl (hd 24 (by kernel_rfl)) (yields_run (u := .pointer (some ⟨pb, po + k * 6 + 5, none⟩)) (w' := w2) ?_ (Below.refl _ _) rfl)
            rw [hfin]
            unfold execOp
            simp [go_sem, Act.eval, h34]
          · intro v w2 hb hd
            have h35 : v 35 = _ := hd 35 (by kernel_rfl)
            obtain ⟨a0, a1, a2, a3, a4, a5⟩ := lp_cells (HP.out.below hb) hp
            refine done_want 24 false rfl (hd 24 (by kernel_rfl)) (yields_run (u := .int .i64 n) (w' := w2) ?_ (Below.refl _ _) rfl)
            rw [hfin]
            unfold execOp
            simp [go_sem, Act.eval, h35, a5]
          · intro v w2 hb hd
            have h31 : v 31 = _ := hd 31 (by kernel_rfl)
            have h36 : v 36 = _ := hd 36 (by kernel_rfl)
            refine done_want 24 false rfl (hd 24 (by kernel_rfl)) (yields_run (u := .bool false) (w' := w2) ?_ (Below.refl _ _) rfl)
            rw [hfin]
            unfold execOp
            simp [go_sem, Act.eval, h31, h36]
          · intro v w2 hb hd
            have h24 : v 24 = _ := hd 24 (by kernel_rfl)
            have h37 : v 37 = _ := hd 37 (by kernel_rfl)
            refine done_plain rfl (yields_run (u := .bool false) (w' := w2) ?_ (Below.refl _ _) rfl)
            rw [hfin]
            unfold execOp
            simp [go_sem, Act.eval, h24, h37]
          · intro v w2 hb hv
            have h38 : v 38 = _ := hv 38 (by decide)
            rw [hfin]
            clear hfin hv
            rw [h38]
            clear h38
            have B2 := Lib.hid (BB.trans (hb.mono BB.size))
            clear hb
            go_wp2_with fail
            go_roundw
            case rel => exact ⟨k + 1, by omega, by go_num, B2.out⟩
            case measure => simp [intOf]; omega
      · clear hho CH
        refine region_want 85 [Is (.slice (some ⟨pb, po, none⟩) M.length cp), Is (.int .i64 (k : Int)), Is (.pointer (some ⟨pb, po + k * 6, none⟩)), Is (.pointer (some ⟨pb, po + k * 6 + 5, none⟩)), Is (.int .i64 n), Is (.bool false), Is (.bool false), Is (.slice (some ⟨pb, po, none⟩) M.length cp), Is (.int .i64 (k : Int)), Is (.pointer (some ⟨pb, po + k * 6, none⟩)), Is (.pointer (some ⟨pb, po + k * 6 + 5, none⟩)), Is (.int .i64 n), Is (.bool false), Is (.bool false), Is (undef), Is (undef), Is (undef), Is (undef), Is (undef), Is (undef), Is (undef), Is (undef), Is (.bool false), Is (.bool false), Is (.bool false), Is (.pointer (some ⟨g, 0, none⟩)), Is (.slice (some ⟨pb, po, none⟩) M.length cp), Is (.int .i64 (k : Int)), Is (.pointer (some ⟨pb, po + k * 6, none⟩)), Is (.pointer (some ⟨pb, po + k * 6, none⟩)), Is (.agg #[.int .u32 t.e, .int .i64 t.d, .int .u32 t.a, .int .u32 t.b, .int .u32 t.c]), Is (.int .i64 n), Is (.slice (some ⟨pb, po, none⟩) M.length cp), Is (.int .i64 (k : Int)), Is (.pointer (some ⟨pb, po + k * 6, none⟩)), Is (.pointer (some ⟨pb, po + k * 6 + 5, none⟩)), Is (.int .i64 n), Is (.bool false), Is (.bool false)] (by kernel_rfl) rfl (by kernel_rfl) ?_ ?_
        · exact ⟨keeps_is _, keeps_is _, keeps_is _, keeps_is _, keeps_is _, keeps_is _, keeps_is _, keeps_is _, keeps_is _, keeps_is _, keeps_is _, keeps_is _, keeps_is _, keeps_is _, keeps_is _, keeps_is _, keeps_is _, keeps_is _, keeps_is _, keeps_is _, keeps_is _, keeps_is _, keeps_is _, keeps_is _, keeps_is _, keeps_is _, keeps_is _, keeps_is _, keeps_is _, keeps_is _, keeps_is _, keeps_is _, keeps_is _, keeps_is _, keeps_is _, keeps_is _, keeps_is _, keeps_is _, keeps_is _, trivial⟩
        · intro fin hfin
          simp [lexPut, Act.put] at hfin
          refine ⟨⟨?_, ?_, ?_, ?_, ?_, ?_, ?_, ?_, ?_, ?_, ?_, ?_, ?_, ?_, ?_, ?_, ?_, ?_, ?_, ?_, ?_, ?_, ?_, ?_, ?_, ?_, ?_, ?_, ?_, ?_, ?_, ?_, ?_, ?_, ?_, ?_, ?_, ?_, ?_, trivial⟩, ?_⟩
          · intro v w2 hb hd
            exact done_plain rfl (yields_is (tells_move rfl (by rw [hfin]; rfl)) hb)
          · intro v w2 hb hd
            exact done_plain rfl (yields_is (tells_move rfl (by rw [hfin]; rfl)) hb)
          · intro v w2 hb hd
            have h0 : v 0 = _ := hd 0 (by kernel_rfl)
            have h1 : v 1 = _ := hd 1 (by kernel_rfl)
            refine done_plain rfl (yields_run (u := .pointer (some ⟨pb, po + k * 6, none⟩)) (w' := w2) ?_ (Below.refl _ _) rfl)
            rw [hfin]
            unfold execOp
            simp [go_sem, Act.eval, h0, h1, hlt2]
          · intro v w2 hb hd
            have h2 : v 2 = _ := hd 2 (by kernel_rfl)
            refine done_plain rfl (yields_run (u := .pointer (some ⟨pb, po + k * 6 + 5, none⟩)) (w' := w2) ?_ (Below.refl _ _) rfl)
            rw [hfin]
            unfold execOp
            simp [go_sem, Act.eval, h2]
          · intro v w2 hb hd
            have h3 : v 3 = _ := hd 3 (by kernel_rfl)
            obtain ⟨a0, a1, a2, a3, a4, a5⟩ := lp_cells (HP.out.below hb) hp
            refine done_plain rfl (yields_run (u := .int .i64 n) (w' := w2) ?_ (Below.refl _ _) rfl)
            rw [hfin]
            unfold execOp
            simp [go_sem, Act.eval, h3, a5]
          · intro v w2 hb hd
            have h4 : v 4 = _ := hd 4 (by kernel_rfl)
            refine done_plain rfl (yields_run (u := .bool false) (w' := w2) ?_ (Below.refl _ _) rfl)
            rw [hfin]
            unfold execOp
            simp [go_sem, Act.eval, h4, hn0]
          · intro v w2 hb hd
            have h5 : v 5 = _ := hd 5 (by kernel_rfl)
            exact done_plain rfl (yields_is (tells_move rfl (by rw [hfin]; exact h5)) hb)
          · intro v w2 hb hd
            exact done_want 6 false rfl (hd 6 (by kernel_rfl)) (yields_is (tells_move rfl (by rw [hfin]; rfl)) hb)
          · intro v w2 hb hd
            exact done_want 6 false rfl (hd 6 (by kernel_rfl)) (yields_is (tells_move rfl (by rw [hfin]; rfl)) hb)
          · intro v w2 hb hd
            have h7 : v 7 = _ := hd 7 (by kernel_rfl)
            have h8 : v 8 = _ := hd 8 (by kernel_rfl)
            refine done_want 6 false rfl (hd 6 (by kernel_rfl)) (yields_run (u := .pointer (some ⟨pb, po + k * 6, none⟩)) (w' := w2) ?_ (Below.refl _ _) rfl)
            rw [hfin]
            unfold execOp
            simp [go_sem, Act.eval, h7, h8, hlt2]
          · intro v w2 hb hd
            have h9 : v 9 = _ := hd 9 (by kernel_rfl)
            refine done_want 6 false rfl (hd 6 (by kernel_rfl)) (yields_run (u := .pointer (some ⟨pb, po + k * 6 + 5, none⟩)) (w' := w2) ?_ (Below.refl _ _) rfl)
            rw [hfin]
            unfold execOp
            simp [go_sem, Act.eval, h9]
          · intro v w2 hb hd
            have h10 : v 10 = _ := hd 10 (by kernel_rfl)
            obtain ⟨a0, a1, a2, a3, a4, a5⟩ := lp_cells (HP.out.below hb) hp
            refine done_want 6 false rfl (hd 6 (by kernel_rfl)) (yields_run (u := .int .i64 n) (w' := w2) ?_ (Below.refl _ _) rfl)
            rw [hfin]
            unfold execOp
            simp [go_sem, Act.eval, h10, a5]
          · intro v w2 hb hd
            have h11 : v 11 = _ := hd 11 (by kernel_rfl)
            refine done_want 6 false rfl (hd 6 (by kernel_rfl)) (yields_run (u := .bool false) (w' := w2) ?_ (Below.refl _ _) rfl)
            rw [hfin]
            unfold execOp
            simp [go_sem, Act.eval, h11, hn1]
          · intro v w2 hb hd
            have h12 : v 12 = _ := hd 12 (by kernel_rfl)
            exact done_want 6 false rfl (hd 6 (by kernel_rfl)) (yields_is (tells_move rfl (by rw [hfin]; exact h12)) hb)
          · intro v w2 hb hd
            exact .inr ⟨13, true, false, rfl, hd 13 (by kernel_rfl), by decide, rfl⟩
          · intro v w2 hb hd
            exact .inr ⟨13, true, false, rfl, hd 13 (by kernel_rfl), by decide, rfl⟩
          · intro v w2 hb hd
            exact .inr ⟨13, true, false, rfl, hd 13 (by kernel_rfl), by decide, rfl⟩
          · intro v w2 hb hd
            exact .inr ⟨13, true, false, rfl, hd 13 (by kernel_rfl), by decide, rfl⟩
          · intro v w2 hb hd
            exact .inr ⟨13, true, false, rfl, hd 13 (by kernel_rfl), by decide, rfl⟩
          · intro v w2 hb hd
            exact .inr ⟨13, true, false, rfl, hd 13 (by kernel_rfl), by decide, rfl⟩
          · intro v w2 hb hd
            exact .inr ⟨13, true, false, rfl, hd 13 (by kernel_rfl), by decide, rfl⟩
          · intro v w2 hb hd
            exact .inr ⟨13, true, false, rfl, hd 13 (by kernel_rfl), by decide, rfl⟩
          · intro v w2 hb hd
            have h13 : v 13 = _ := hd 13 (by kernel_rfl)
            have h21 : v 21 = _ := hd 21 (by kernel_rfl)
            refine done_want 6 false rfl (hd 6 (by kernel_rfl)) (yields_run (u := .bool false) (w' := w2) ?_ (Below.refl _ _) rfl)
            rw [hfin]
            unfold execOp
            simp [go_sem, Act.eval, h13, h21]
          · intro v w2 hb hd
            have h6 : v 6 = _ := hd 6 (by kernel_rfl)
            have h22 : v 22 = _ := hd 22 (by kernel_rfl)
            refine done_plain rfl (yields_run (u := .bool false) (w' := w2) ?_ (Below.refl _ _) rfl)
            rw [hfin]
            unfold execOp
            simp [go_sem, Act.eval, h6, h22]
          · intro v w2 hb hd
            have h23 : v 23 = _ := hd 23 (by kernel_rfl)
            exact done_plain rfl (yields_is (tells_move rfl (by rw [hfin]; exact h23)) hb)
          · intro v w2 hb hd
            exact done_want 24 false rfl (hd 24 (by kernel_rfl)) (yields_is (tells_move rfl (by rw [hfin]; rfl)) hb)
          · intro v w2 hb hd
            exact done_want 24 false rfl (hd 24 (by kernel_rfl)) (yields_is (tells_move rfl (by rw [hfin]; rfl)) hb)
          · intro v w2 hb hd
            exact done_want 24 false rfl (hd 24 (by kernel_rfl)) (yields_is (tells_move rfl (by rw [hfin]; rfl)) hb)
          · intro v w2 hb hd
            have h26 : v 26 = _ := hd 26 (by kernel_rfl)
            have h27 : v 27 = _ := hd 27 (by kernel_rfl)
            refine done_want 24 false rfl (hd 24 (by kernel_rfl)) (yields_run (u := .pointer (some ⟨pb, po + k * 6, none⟩)) (w' := w2) ?_ (Below.refl _ _) rfl)
            rw [hfin]
            unfold execOp
            simp [go_sem, Act.eval, h26, h27, hlt2]
          · intro v w2 hb hd
            have h28 : v 28 = _ := hd 28 (by kernel_rfl)
            refine done_want 24 false rfl (hd 24 (by kernel_rfl)) (yields_run (u := .pointer (some ⟨pb, po + k * 6, none⟩)) (w' := w2) ?_ (Below.refl _ _) rfl)
            rw [hfin]
            unfold execOp
            simp [go_sem, Act.eval, h28]
          · intro v w2 hb hd
            have h29 : v 29 = _ := hd 29 (by kernel_rfl)
            obtain ⟨a0, a1, a2, a3, a4, a5⟩ := lp_cells (HP.out.below hb) hp
            refine done_want 24 false rfl (hd 24 (by kernel_rfl)) (yields_run (u := .agg #[.int .u32 t.e, .int .i64 t.d, .int .u32 t.a, .int .u32 t.b, .int .u32 t.c]) (w' := w2) ?_ (Below.refl _ _) rfl)
            rw [hfin]
            unfold execOp
            simp [go_sem, Act.eval, h29, a0, a1, a2, a3, a4]
          · intro v w2 hb hd
            have h25 : v 25 = _ := hd 25 (by kernel_rfl)
            have h30 : v 30 = _ := hd 30 (by kernel_rfl)
            refine done_want 24 false rfl (hd 24 (by kernel_rfl)) (yields_call (f := 20) rfl (vs := #[.pointer (some ⟨g, 0, none⟩), .agg #[.int .u32 t.e, .int .i64 t.d, .int .u32 t.a, .int .u32 t.b, .int .u32 t.c]]) (by rw [hfin]; simp [Act.eval, h25, h30]) rfl Try.func20 (by kernel_rfl) (by kernel_rfl) ?_)
            exact (CC.out w2 hb).mono fun e w' ⟨he, hb'⟩ => ⟨_, he, hb', rfl⟩
          · intro v w2 hb hd
            exact done_want 24 false rfl (hd 24 (by kernel_rfl)) (yields_is (tells_move rfl (by rw [hfin]; rfl)) hb)
          · intro v w2 hb hd
            exact done_want 24 false rfl (hd 24 (by kernel_rfl)) (yields_is (tells_move rfl (by rw [hfin]; rfl)) hb)
          · intro v w2 hb hd
            have h32 : v 32 = _ := hd 32 (by kernel_rfl)
            have h33 : v 33 = _ := hd 33 (by kernel_rfl)
            refine done_want 24 false rfl (hd 24 (by kernel_rfl)) (yields_run (u := .pointer (some ⟨pb, po + k * 6, none⟩)) (w' := w2) ?_ (Below.refl _ _) rfl)
            rw [hfin]
            unfold execOp
            simp [go_sem, Act.eval, h32, h33, hlt2]
          · intro v w2 hb hd
            have h34 : v 34 = _ := hd 34 (by kernel_rfl)
            refine done_want 24 false rfl (hd 24 (by kernel_rfl)) (yields_run (u := .pointer (some ⟨pb, po + k * 6 + 5, none⟩)) (w' := w2) ?_ (Below.refl _ _) rfl)
            rw [hfin]
            unfold execOp
            simp [go_sem, Act.eval, h34]
          · intro v w2 hb hd
            have h35 : v 35 = _ := hd 35 (by kernel_rfl)
            obtain ⟨a0, a1, a2, a3, a4, a5⟩ := lp_cells (HP.out.below hb) hp
            refine done_want 24 false rfl (hd 24 (by kernel_rfl)) (yields_run (u := .int .i64 n) (w' := w2) ?_ (Below.refl _ _) rfl)
            rw [hfin]
            unfold execOp
            simp [go_sem, Act.eval, h35, a5]
          · intro v w2 hb hd
            have h31 : v 31 = _ := hd 31 (by kernel_rfl)
            have h36 : v 36 = _ := hd 36 (by kernel_rfl)
            refine done_want 24 false rfl (hd 24 (by kernel_rfl)) (yields_run (u := .bool false) (w' := w2) ?_ (Below.refl _ _) rfl)
            rw [hfin]
            unfold execOp
            simp [go_sem, Act.eval, h31, h36]
          · intro v w2 hb hd
            have h24 : v 24 = _ := hd 24 (by kernel_rfl)
            have h37 : v 37 = _ := hd 37 (by kernel_rfl)
            refine done_plain rfl (yields_run (u := .bool false) (w' := w2) ?_ (Below.refl _ _) rfl)
            rw [hfin]
            unfold execOp
            simp [go_sem, Act.eval, h24, h37]
          · intro v w2 hb hv
            have h38 : v 38 = _ := hv 38 (by decide)
            rw [hfin]
            clear hfin hv
            rw [h38]
            clear h38
            have B2 := Lib.hid (BB.trans (hb.mono BB.size))
            clear hb
            go_wp2_with fail
            go_roundw
            case rel => exact ⟨k + 1, by omega, by go_num, B2.out⟩
            case measure => simp [intOf]; omega
    · obtain rfl : k = M.length := by omega
      go_wp2_with fail
      go_loopw [8] (fun v w5 => ∃ i : Nat, i ≤ F.length ∧ v = .int .i64 i ∧ Below w4.heap.size w4 w5) (fun v _ => F.length - (intOf v).toNat)
      case atStart => exact ⟨0, Nat.zero_le _, rfl, BB⟩
      case round =>
        obtain ⟨i, hi, rfl, B5⟩ := hrel
        by_cases hil : i < F.length
        · obtain ⟨x, hx⟩ : ∃ x, F[i]? = some x := ⟨F[i], List.getElem?_eq_getElem hil⟩
          have hxm := List.mem_of_getElem? hx
          have hpos := hTh.out x hxm
          have ix := hiF.out x hxm
          obtain ⟨fb, fo, hA, hfb, c0, c1, c2, c3, c4⟩ := (F4.out.below B5).at hx
          subst hA
          have C1 := Lib.hid (count_any x ix G.out wr (H4.out.below B5))
          generalize countM M x = cnt at hpos C1
          clear hx hxm
          go_wp2_with (go_at_call 20; refine C1.out.mono ?_; rintro e w6 ⟨rfl, b6⟩; have B6 := Lib.hid (B5.trans (b6.mono B5.size)); clear b6)
          go_roundw
          case rel => exact ⟨i + 1, by omega, by go_num, B6.out⟩
          case measure => simp [intOf]; omega
        · obtain rfl : i = F.length := by omega
          have C2 := Lib.hid (check_chain B cb F hiF.out (by omega) wr (F4.out.below B5))
          rw [check_front hFr.out] at C2
          go_wp2_with (go_at_call 38; refine C2.out.mono ?_; rintro e w6 ⟨rfl, b6⟩; have B6 := Lib.hid (B4.out.trans ((B5.trans (b6.mono B5.size)).mono B4.out.size)); clear b6)
          go_ret
          exact ⟨rfl, B6.out⟩
end Go.Proofs.Ytpjlefdigpejdaa.multi
