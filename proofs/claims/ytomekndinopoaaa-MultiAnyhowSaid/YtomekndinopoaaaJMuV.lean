/-
  The contract of (*multi.Multi).Moves.
  What a row of pairs is, cell by cell; what the frontier of good numbers may answer.
-/
import Derived.Test.YtomekndinopoaaaJMuH
import Derived.Test.YtomekndinopoaaaJRg
namespace Go.Proofs.Ytomekndinopoaaa.multi
open Go.ChangeShapes Go.WideShapes Go.ChangeAt Go.RowKit Go.Maps Go.WideMaps
open Go.Proofs.Ytomekndinopoaaa.tm Go.Proofs.Ytomekndinopoaaa.opened Go.Proofs.Ytomekndinopoaaa.block Go.Proofs.Ytomekndinopoaaa.stamp Go.Proofs.Ytomekndinopoaaa.chain Go.Proofs.Ytomekndinopoaaa.region

/-- A slice of these times. -/
def Rows (N : List Tm) : Value → World → Prop := fun u w => ∃ D c', u = .slice D N.length c' ∧ Lt w D N
theorem keeps_rows (N : List Tm) : Keeps (Rows N) := fun _ _ _ hb ⟨D, c', e, h⟩ => ⟨D, c', e, h.below hb⟩
theorem own_no_cell {w : World} {b : Nat} {M : List TN} (h : OwnM w b M) (i : Nat) : w.cell? ⟨b, i, none⟩ = none := by
  obtain ⟨es, hp, xs, clock, hx, F, hs, hD⟩ := h
  simp [World.cell?, hx]
theorem far_of {w : World} {g b c : Nat} {d : Int} {A B : Option Addr} {n : Nat} {F : List Tm} {M : List TN} (hc : Whole w g 74 #[.int .i64 d, .map (some b), .slice A n c]) (ho : OwnM w b M) (h : Lt w B F) : F ≠ [] → ∀ ad, B = some ad → ad.block ≠ b ∧ ad.block ≠ g := by
  intro h0 ad had
  cases F with
  | nil => exact absurd rfl h0
  | cons y r =>
    obtain ⟨b0, off, hA, hb, c0, -⟩ := h.at (k := 0) (t := y) rfl
    subst hA
    cases had
    refine ⟨?_, ?_⟩
    · rintro rfl
      have := own_no_cell ho (off + 0 * 5)
      rw [this] at c0
      cases c0
    · rintro rfl
      have e := hc.read (off + 0 * 5)
      rw [c0] at e
      generalize off + 0 * 5 = j at e
      match j, e with
      | 0, e => simp at e
      | 1, e => simp at e
      | 2, e => simp at e
      | j + 3, e => simp at e
set_option maxRecDepth 100000
theorem moves_bad {g b c : Nat} {d : Int} {A : Option Addr} {L : List Tm} {M : List TN} (G : GoodM d M) (mL : M.length ≤ 4096) (hE : makeE (present M) (inP G) ≠ 0) (w : World) (h : MulP w g d b A c L M) :
    Calls Try.prog 12 #[.pointer (some ⟨g, 0, none⟩)] w fun e w' => e = .returned (.tuple #[.slice none 0 0, .slice none 0 0, .int .i64 (makeE (present M) (inP G))]) ∧ Below w.heap.size w w' := by
  have FC := Lib.hid (frontier_chain G mL w h)
  clear h
  generalize makeE (present M) (inP G) = E at FC hE ⊢
  generalize makeV (present M) (inP G) = F at FC ⊢
  go_enter Try.func12, Try.ntmps12
  go_wp2_with ((go_at_call 33; refine FC.out.mono ?_; rintro e w1 ⟨B1, c1, rfl, h1, b1⟩; have H1 := Lib.hid h1; have hb1 := Lib.hid b1; clear h1 b1))
  refine bodyPost_ret (v := .tuple #[.slice none 0 0, .slice none 0 0, .int .i64 E]) (by simp [results, Try.results12, go_sem]) rfl ⟨rfl, hb1.out⟩
theorem present_le (M : List TN) (hM : M.length ≤ 4096) {d : Int} (G : GoodM d M) : (makeV (present M) (inP G)).length ≤ 4096 := by
  have h1 := makeV_len (present M) (inP G)
  have h2 := present_len M
  omega
theorem lt_store {w : World} {g : Nat} {D : Option Addr} {N : List Tm} (h : Lt w D N) (hf : N ≠ [] → ∀ ad, D = some ad → ad.block ≠ g) (i : Nat) (u : Value) : Lt (w.setCell ⟨g, i, none⟩ u) D N :=
  lt_turned h (only_store (only_of_below (Below.refl _ w) (some g)) u) hf
theorem MulP.past_store {w : World} {g b c : Nat} {d : Int} {A : Option Addr} {L : List Tm} {M : List TN} (h : MulP w g d b A c L M) {D : Option Addr} {N : List Tm} (hN : Lt w D N) (u : Value) : Lt (w.setCell ⟨g, 2, none⟩ u) D N :=
  lt_store hN (fun h0 ad e => (far_of h.cells h.own hN h0 ad e).2) 2 u
theorem MulP.stored {w : World} {g b c c' : Nat} {d : Int} {A B : Option Addr} {L F : List Tm} {M : List TN} (h : MulP w g d b A c L M) (hF : Lt w B F) : MulP (w.setCell ⟨g, 2, none⟩ (.slice B F.length c')) g d b B c' F M := by
  have hw : Whole (w.setCell ⟨g, 2, none⟩ (.slice B F.length c')) g 74 #[.int .i64 d, .map (some b), .slice B F.length c'] := h.cells.store 2 _
  have ho : OwnM (w.setCell ⟨g, 2, none⟩ (.slice B F.length c')) b M := h.own.kept (only_store (only_of_below (Below.refl _ w) (some g)) _) (by simp; exact fun e => h.ne e.symm)
  have hl := h.past_store hF (.slice B F.length c')
  exact ⟨hw, ho, hl, h.ne, far_of hw ho hl⟩
set_option maxRecDepth 100000 in
set_option maxHeartbeats 1000000 in
theorem moves_good {g b c : Nat} {d : Int} {A : Option Addr} {L : List Tm} {M : List TN} (G : GoodM d M) (mL : M.length ≤ 4096) (lL : L.length ≤ 4096) (hE : makeE (present M) (inP G) = 0) (w : World) (h : MulP w g d b A c L M) :
    Calls Try.prog 12 #[.pointer (some ⟨g, 0, none⟩)] w fun e w' => ∃ D1 c1 D2 c2 B c', e = .returned (.tuple #[.slice D1 (withoutV L (makeV (present M) (inP G))).length c1, .slice D2 (withoutV (makeV (present M) (inP G)) L).length c2, .int .i64 0]) ∧
      Lt w' D1 (withoutV L (makeV (present M) (inP G))) ∧ Lt w' D2 (withoutV (makeV (present M) (inP G)) L) ∧ MulP w' g d b B c' (makeV (present M) (inP G)) M ∧ w.grownBy w' (some g) := by
  have FC := Lib.hid (frontier_chain G mL w h)
  have hF := present_le M mL G
  have H := Lib.hid h
  clear h
  rw [hE] at FC
  generalize makeV (present M) (inP G) = F at FC hF ⊢
  go_enter Try.func12, Try.ntmps12
  go_upto_region 4 with ((go_at_call 33; refine FC.out.mono ?_; rintro e w1 ⟨B1, c1, rfl, h1, b1⟩; have H1 := Lib.hid h1; have hb1 := Lib.hid b1; clear h1 b1))
  have HM := Lib.hid (H.out.below hb1.out)
  have CA := Lib.hid (fun w2 (hw : Below w1.heap.size w1 w2) => without_any A B1 c c1 L F lL (by omega) w2 (HM.out.last.below hw) (H1.out.below hw))
  have CB := Lib.hid (fun w2 (hw : Below w1.heap.size w1 w2) => without_any B1 A c1 c F L hF (by omega) w2 (H1.out.below hw) (HM.out.last.below hw))
  refine region_kinds 35 [Is (.pointer (some ⟨g, 0, none⟩)), Is (.pointer (some ⟨g, 0, none⟩)), Is (.pointer (some ⟨g, 2, none⟩)), Is (.slice A L.length c), Is (.slice B1 F.length c1), Rows (withoutV L F), Is (.slice B1 F.length c1), Is (.pointer (some ⟨g, 0, none⟩)), Is (.pointer (some ⟨g, 0, none⟩)), Is (.pointer (some ⟨g, 2, none⟩)), Is (.slice A L.length c), Rows (withoutV F L), Rows (withoutV L F), Rows (withoutV F L)] (by kernel_rfl) rfl (by kernel_rfl) ?_ ?_
  · exact ⟨keeps_is _, keeps_is _, keeps_is _, keeps_is _, keeps_is _, keeps_rows _, keeps_is _, keeps_is _, keeps_is _, keeps_is _, keeps_is _, keeps_rows _, keeps_rows _, keeps_rows _, trivial⟩
  · intro fin hfin
    simp [lexPut, Act.put] at hfin
    refine ⟨⟨?_, ?_, ?_, ?_, ?_, ?_, ?_, ?_, ?_, ?_, ?_, ?_, ?_, ?_, trivial⟩, ?_⟩
    · intro v w2 hb hd
      exact yields_is (tells_move rfl (by rw [hfin]; rfl)) hb
    · intro v w2 hb hd
      have h0 : v 0 = _ := hd 0 (by kernel_rfl)
      refine yields_run (u := .pointer (some ⟨g, 0, none⟩)) (w' := w2) ?_ (Below.refl _ _) rfl
      rw [hfin]
      unfold execOp
      simp [go_sem, Act.eval, h0]
    · intro v w2 hb hd
      have h0 : v 1 = _ := hd 1 (by kernel_rfl)
      refine yields_run (u := .pointer (some ⟨g, 2, none⟩)) (w' := w2) ?_ (Below.refl _ _) rfl
      rw [hfin]
      unfold execOp
      simp [go_sem, Act.eval, h0]
    · intro v w2 hb hd
      have h0 : v 2 = _ := hd 2 (by kernel_rfl)
      have hc : w2.cell? ⟨g, 2, none⟩ = some (.slice A L.length c) := (HM.out.below hb).cells.read 2
      refine yields_run (u := .slice A L.length c) (w' := w2) ?_ (Below.refl _ _) rfl
      rw [hfin]
      unfold execOp
      simp [go_sem, Act.eval, h0, hc]
    · intro v w2 hb hd
      exact yields_is (tells_move rfl (by rw [hfin]; rfl)) hb
    · intro v w2 hb hd
      have hx : v 3 = _ := hd 3 (by kernel_rfl)
      have hy : v 4 = _ := hd 4 (by kernel_rfl)
      refine yields_call (f := 39) rfl (vs := #[.slice A L.length c, .slice B1 F.length c1]) (by rw [hfin]; simp [Act.eval, hx, hy]) rfl Try.func39 (by kernel_rfl) (by kernel_rfl) ?_
      exact (CA.out w2 hb).mono fun e w' ⟨D, c', he, ho, hb'⟩ => ⟨_, he, hb', D, c', rfl, ho.lies⟩
    · intro v w2 hb hd
      exact yields_is (tells_move rfl (by rw [hfin]; rfl)) hb
    · intro v w2 hb hd
      exact yields_is (tells_move rfl (by rw [hfin]; rfl)) hb
    · intro v w2 hb hd
      have h0 : v 7 = _ := hd 7 (by kernel_rfl)
      refine yields_run (u := .pointer (some ⟨g, 0, none⟩)) (w' := w2) ?_ (Below.refl _ _) rfl
      rw [hfin]
      unfold execOp
      simp [go_sem, Act.eval, h0]
    · intro v w2 hb hd
      have h0 : v 8 = _ := hd 8 (by kernel_rfl)
      refine yields_run (u := .pointer (some ⟨g, 2, none⟩)) (w' := w2) ?_ (Below.refl _ _) rfl
      rw [hfin]
      unfold execOp
      simp [go_sem, Act.eval, h0]
    · intro v w2 hb hd
      have h0 : v 9 = _ := hd 9 (by kernel_rfl)
      have hc : w2.cell? ⟨g, 2, none⟩ = some (.slice A L.length c) := (HM.out.below hb).cells.read 2
      refine yields_run (u := .slice A L.length c) (w' := w2) ?_ (Below.refl _ _) rfl
      rw [hfin]
      unfold execOp
      simp [go_sem, Act.eval, h0, hc]
    · intro v w2 hb hd
      have hx : v 6 = _ := hd 6 (by kernel_rfl)
      have hy : v 10 = _ := hd 10 (by kernel_rfl)
      refine yields_call (f := 39) rfl (vs := #[.slice B1 F.length c1, .slice A L.length c]) (by rw [hfin]; simp [Act.eval, hx, hy]) rfl Try.func39 (by kernel_rfl) (by kernel_rfl) ?_
      exact (CB.out w2 hb).mono fun e w' ⟨D, c', he, ho, hb'⟩ => ⟨_, he, hb', D, c', rfl, ho.lies⟩
    · intro v w2 hb hd
      exact yields_assign rfl (by rw [hfin]; exact hd 5 (by kernel_rfl))
    · intro v w2 hb hd
      exact yields_assign rfl (by rw [hfin]; exact hd 11 (by kernel_rfl))
    · intro v w2 hb hv
      have h12 : Rows (withoutV L F) (v 12) w2 := hv 12 (by decide)
      have h13 : Rows (withoutV F L) (v 13) w2 := hv 13 (by decide)
      rw [hfin]
      clear hfin hv
      generalize v 12 = v12 at h12 ⊢
      generalize v 13 = v13 at h13 ⊢
      obtain ⟨D1, e1, rfl, l1⟩ := h12
      obtain ⟨D2, e2, rfl, l2⟩ := h13
      have HH := Lib.hid (HM.out.below hb)
      have L1 := Lib.hid l1
      have L2 := Lib.hid l2
      have LF := Lib.hid (H1.out.below hb)
      have GB := Lib.hid (only_of_below (then_below hb1.out hb) (some g))
      have c2 : w2.cell? ⟨g, 2, none⟩ = some (.slice A L.length c) := HH.out.cells.read 2
      have f2 : w2.frozen? ⟨g, 2, none⟩ = false := HH.out.cells.soft 2
      clear l1 l2 hb
      go_wp2_with fail
      refine bodyPost_ret (v := .tuple #[.slice D1 (withoutV L F).length e1, .slice D2 (withoutV F L).length e2, .int .i64 0]) (by simp [results, Try.results12, go_sem]) rfl ⟨D1, e1, D2, e2, B1, c1, rfl, ?_, ?_, ?_, only_store GB.out _⟩
      · exact HH.out.past_store L1.out _
      · exact HH.out.past_store L2.out _
      · exact HH.out.stored LF.out
end Go.Proofs.Ytomekndinopoaaa.multi
namespace Go.Proofs.Ytomekndinopoaaa.multi
open Go.ChangeShapes Go.WideShapes Go.ChangeAt Go.RowKit
open Go.Proofs.Ytomekndinopoaaa.region
open Go.Proofs.Ytomekndinopoaaa.tm Go.Proofs.Ytomekndinopoaaa.opened Go.Proofs.Ytomekndinopoaaa.block Go.Proofs.Ytomekndinopoaaa.stamp Go.Proofs.Ytomekndinopoaaa.chain

theorem lp_cells {w : World} {b o k : Nat} {M : List TN} {p : TN} (h : Lp w (some ⟨b, o, none⟩) M) (hk : M[k]? = some p) :
    w.cell? ⟨b, o + k * 6, none⟩ = some (.int .u32 p.1.e) ∧ w.cell? ⟨b, o + k * 6 + 1, none⟩ = some (.int .i64 p.1.d) ∧ w.cell? ⟨b, o + k * 6 + 2, none⟩ = some (.int .u32 p.1.a) ∧ w.cell? ⟨b, o + k * 6 + 3, none⟩ = some (.int .u32 p.1.b) ∧ w.cell? ⟨b, o + k * 6 + 4, none⟩ = some (.int .u32 p.1.c) ∧ w.cell? ⟨b, o + k * 6 + 5, none⟩ = some (.int .i64 p.2) := by
  obtain ⟨b', o', hA, -, h⟩ := h.at hk
  simp only [Option.some.injEq, Addr.mk.injEq, and_true] at hA
  obtain ⟨rfl, rfl⟩ := hA
  exact h
theorem make_seven {d : Int} {M : List TN} (G : GoodM d M) : makeE (present M) (inP G) = 0 ∨ makeE (present M) (inP G) = 7 := by
  have ht := times_all (fun t ht => present_in G t ht)
  unfold makeE
  rw [ht]
  split
  · exact .inr rfl
  · simp only [ne_eq, not_true_eq_false, if_false]
    split
    · exact .inr rfl
    · exact .inl rfl
end Go.Proofs.Ytomekndinopoaaa.multi
