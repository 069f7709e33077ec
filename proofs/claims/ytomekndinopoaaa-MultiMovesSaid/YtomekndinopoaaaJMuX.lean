/-
  The contract of the document's Moves, where the frontier is not refused.
  A slice of acts that came in.
-/
import Derived.Test.YtomekndinopoaaaJMuV
import Derived.Test.YtomekndinopoaaaJMu1
namespace Go.Proofs.Ytomekndinopoaaa.multi
open Go.ChangeShapes Go.WideShapes Go.ChangeAt Go.RowKit Go.Maps Go.WideMaps
open Go.Proofs.Ytomekndinopoaaa.tm Go.Proofs.Ytomekndinopoaaa.opened Go.Proofs.Ytomekndinopoaaa.block Go.Proofs.Ytomekndinopoaaa.stamp Go.Proofs.Ytomekndinopoaaa.chain Go.Proofs.Ytomekndinopoaaa.region

theorem farR {w : World} {g n c m e : Nat} {d : Int} {A B D : Option Addr} {N : List Tm} (hc : Whole w g 76 #[.int .i64 d, .slice A n c, .slice B m e]) (h : Lt w D N) : N ≠ [] → ∀ ad, D = some ad → ad.block ≠ g := by
  intro h0 ad had
  cases N with
  | nil => exact absurd rfl h0
  | cons y r =>
    obtain ⟨b0, off, hA, hb, c0, -⟩ := h.at (k := 0) (t := y) rfl
    subst hA
    cases had
    rintro rfl
    have e := hc.read (off + 0 * 5)
    rw [c0] at e
    generalize off + 0 * 5 = j at e
    match j, e with
    | 0, e => simp at e
    | 1, e => simp at e
    | 2, e => simp at e
    | j + 3, e => simp at e
theorem farP {w : World} {g n c m e : Nat} {d : Int} {A B D : Option Addr} {M : List TN} (hc : Whole w g 76 #[.int .i64 d, .slice A n c, .slice B m e]) (h : Lp w D M) : M ≠ [] → ∀ ad, D = some ad → ad.block ≠ g := by
  intro h0 ad had
  cases M with
  | nil => exact absurd rfl h0
  | cons y r =>
    obtain ⟨b0, off, hA, hb, c0, -⟩ := h.at (k := 0) (p := y) rfl
    subst hA
    cases had
    rintro rfl
    have e := hc.read (off + 0 * 6)
    rw [c0] at e
    generalize off + 0 * 6 = j at e
    match j, e with
    | 0, e => simp at e
    | 1, e => simp at e
    | 2, e => simp at e
    | j + 3, e => simp at e
theorem lp_turned {w w' : World} {A : Option Addr} {M : List TN} {b : Nat} (h : Lp w A M) (hg : w.grownBy w' (some b)) (hf : M ≠ [] → ∀ ad, A = some ad → ad.block ≠ b) : Lp w' A M := by
  by_cases h0 : M = []
  · rw [h0]
    exact .inl rfl
  rcases h with h | ⟨b', o', hA, hlt, hc⟩
  · exact .inl h
  · have hne : b' ≠ b := hf h0 _ hA
    exact .inr ⟨b', o', hA, Nat.lt_of_lt_of_le hlt hg.size, fun k cs hk => ⟨(hc k cs hk).1, fun i hi => (World.cell?_of_block (hg.block b' hlt (by simpa using hne))).trans ((hc k cs hk).2 i hi)⟩⟩
theorem MulR.past_store {w : World} {g c e : Nat} {d : Int} {A B : Option Addr} {L : List Tm} {M : List TN} (h : MulR w g d A c M B e L) {D : Option Addr} {N : List Tm} (hN : Lt w D N) (i : Nat) (u : Value) : Lt (w.setCell ⟨g, i, none⟩ u) D N :=
  lt_store hN (fun h0 ad e => farR h.cells hN h0 ad e) i u
theorem MulR.stored {w : World} {g c e c' : Nat} {d : Int} {A B D : Option Addr} {L F : List Tm} {M : List TN} (h : MulR w g d A c M B e L) (hF : Lt w D F) : MulR (w.setCell ⟨g, 2, none⟩ (.slice D F.length c')) g d A c M D c' F :=
  ⟨h.cells.store 2 _, lp_turned h.pairs (only_store (only_of_below (Below.refl _ w) (some g)) _) (farP h.cells h.pairs), h.past_store hF 2 _⟩
theorem MulR.filled {w : World} {g c e c' : Nat} {d : Int} {A B D : Option Addr} {L : List Tm} {M N : List TN} (h : MulR w g d A c M B e L) (hN : Lp w D N) : MulR (w.setCell ⟨g, 1, none⟩ (.slice D N.length c')) g d D c' N B e L :=
  ⟨h.cells.store 1 _, lp_turned hN (only_store (only_of_below (Below.refl _ w) (some g)) _) (farP h.cells hN), h.past_store h.was 1 _⟩
set_option maxRecDepth 100000 in
set_option maxHeartbeats 1000000 in
theorem movesR_good {g a c : Nat} {d : Int} {A B0 : Option Addr} {L : List Tm} {M : List TN} (G : GoodM d M) (mL : M.length ≤ 4096) (lL : L.length ≤ 4096) (hE : makeE (present M) (inP G) = 0) (w : World) (h : MulR w g d B0 a M A c L) :
    Calls Try.prog 13 #[.pointer (some ⟨g, 0, none⟩)] w fun e w' => ∃ D1 c1 D2 c2 B c', e = .returned (.tuple #[.slice D1 (withoutV L (makeV (present M) (inP G))).length c1, .slice D2 (withoutV (makeV (present M) (inP G)) L).length c2, .int .i64 0]) ∧
      Lt w' D1 (withoutV L (makeV (present M) (inP G))) ∧ Lt w' D2 (withoutV (makeV (present M) (inP G)) L) ∧ MulR w' g d B0 a M B c' (makeV (present M) (inP G)) ∧ w.grownBy w' (some g) := by
  have FC := Lib.hid (frontierR_any G mL w h)
  have hF := present_le M mL G
  have H := Lib.hid h
  clear h
  rw [hE] at FC
  generalize makeV (present M) (inP G) = F at FC hF ⊢
  go_enter Try.func13, Try.ntmps13
  go_upto_region 4 with ((go_at_call 40; refine FC.out.mono ?_; rintro e w1 ⟨B1, c1, rfl, h1, b1⟩; have H1 := Lib.hid h1; have hb1 := Lib.hid b1; clear h1 b1))
  have HM := Lib.hid (H.out.below hb1.out)
  have CA := Lib.hid (fun w2 (hw : Below w1.heap.size w1 w2) => withoutR_any A B1 c c1 L F lL (by omega) w2 (HM.out.was.below hw) (H1.out.below hw))
  have CB := Lib.hid (fun w2 (hw : Below w1.heap.size w1 w2) => withoutR_any B1 A c1 c F L hF (by omega) w2 (H1.out.below hw) (HM.out.was.below hw))
  refine region_kinds 35 [Is (.pointer (some ⟨g, 0, none⟩)), Is (.pointer (some ⟨g, 0, none⟩)), Is (.pointer (some ⟨g, 2, none⟩)), Is (.slice A L.length c), Is (.slice B1 F.length c1), Rows (withoutV L F), Is (.slice B1 F.length c1), Is (.pointer (some ⟨g, 0, none⟩)), Is (.pointer (some ⟨g, 0, none⟩)), Is (.pointer (some ⟨g, 2, none⟩)), Is (.slice A L.length c), Rows (withoutV F L), Rows (withoutV L F), Rows (withoutV F L)] (by kernel_rfl) rfl (by kernel_rfl) ?_ ?_
  · exact ⟨keeps_is _, keeps_is _, keeps_is _, keeps_is _, keeps_is _, keeps_rows _, keeps_is _, keeps_is _, keeps_is _, keeps_is _, keeps_is _, keeps_rows _, keeps_rows _, keeps_rows _, trivial⟩
  · intro fin hfin
    simp [lexPut, Act.put] at hfin
    refine ⟨⟨?_, ?_, ?_, ?_, ?_, ?_, ?_, ?_, ?_, ?_, ?_, ?_, ?_, ?_, trivial⟩, ?_⟩
    · intro v w2 hb hd
      exact yields_is (tells_move rfl (by rw [hfin]; rfl)) hb
    · intro v w2 hb hd
      have h0 : v 0 = _ := hd 0 (by kernel_rfl)
      refine yields_run (u := .pointer (some ⟨g, 0, none⟩)) (w' := w2) ?_ (Below.refl _ _) rfl
      rw [hfin]
      unfold execOp
      simp [go_sem, Act.eval, h0]
    · intro v w2 hb hd
      have h0 : v 1 = _ := hd 1 (by kernel_rfl)
      refine yields_run (u := .pointer (some ⟨g, 2, none⟩)) (w' := w2) ?_ (Below.refl _ _) rfl
      rw [hfin]
      unfold execOp
      simp [go_sem, Act.eval, h0]
    · intro v w2 hb hd
      have h0 : v 2 = _ := hd 2 (by kernel_rfl)
      have hc : w2.cell? ⟨g, 2, none⟩ = some (.slice A L.length c) := (HM.out.below hb).cells.read 2
      refine yields_run (u := .slice A L.length c) (w' := w2) ?_ (Below.refl _ _) rfl
      rw [hfin]
      unfold execOp
      simp [go_sem, Act.eval, h0, hc]
    · intro v w2 hb hd
      exact yields_is (tells_move rfl (by rw [hfin]; rfl)) hb
    · intro v w2 hb hd
      have hx : v 3 = _ := hd 3 (by kernel_rfl)
      have hy : v 4 = _ := hd 4 (by kernel_rfl)
      refine yields_call (f := 41) rfl (vs := #[.slice A L.length c, .slice B1 F.length c1]) (by rw [hfin]; simp [Act.eval, hx, hy]) rfl Try.func41 (by kernel_rfl) (by kernel_rfl) ?_
      exact (CA.out w2 hb).mono fun e w' ⟨D, c', he, ho, hb'⟩ => ⟨_, he, hb', D, c', rfl, ho.lies⟩
    · intro v w2 hb hd
      exact yields_is (tells_move rfl (by rw [hfin]; rfl)) hb
    · intro v w2 hb hd
      exact yields_is (tells_move rfl (by rw [hfin]; rfl)) hb
    · intro v w2 hb hd
      have h0 : v 7 = _ := hd 7 (by kernel_rfl)
      refine yields_run (u := .pointer (some ⟨g, 0, none⟩)) (w' := w2) ?_ (Below.refl _ _) rfl
      rw [hfin]
      unfold execOp
      simp [go_sem, Act.eval, h0]
    · intro v w2 hb hd
      have h0 : v 8 = _ := hd 8 (by kernel_rfl)
      refine yields_run (u := .pointer (some ⟨g, 2, none⟩)) (w' := w2) ?_ (Below.refl _ _) rfl
      rw [hfin]
      unfold execOp
      simp [go_sem, Act.eval, h0]
    · intro v w2 hb hd
      have h0 : v 9 = _ := hd 9 (by kernel_rfl)
      have hc : w2.cell? ⟨g, 2, none⟩ = some (.slice A L.length c) := (HM.out.below hb).cells.read 2
      refine yields_run (u := .slice A L.length c) (w' := w2) ?_ (Below.refl _ _) rfl
      rw [hfin]
      unfold execOp
      simp [go_sem, Act.eval, h0, hc]
    · intro v w2 hb hd
      have hx : v 6 = _ := hd 6 (by kernel_rfl)
      have hy : v 10 = _ := hd 10 (by kernel_rfl)
      refine yields_call (f := 41) rfl (vs := #[.slice B1 F.length c1, .slice A L.length c]) (by rw [hfin]; simp [Act.eval, hx, hy]) rfl Try.func41 (by kernel_rfl) (by kernel_rfl) ?_
      exact (CB.out w2 hb).mono fun e w' ⟨D, c', he, ho, hb'⟩ => ⟨_, he, hb', D, c', rfl, ho.lies⟩
    · intro v w2 hb hd
      exact yields_assign rfl (by rw [hfin]; exact hd 5 (by kernel_rfl))
    · intro v w2 hb hd
      exact yields_assign rfl (by rw [hfin]; exact hd 11 (by kernel_rfl))
    · intro v w2 hb hv
      have h12 : Rows (withoutV L F) (v 12) w2 := hv 12 (by decide)
      have h13 : Rows (withoutV F L) (v 13) w2 := hv 13 (by decide)
      rw [hfin]
      clear hfin hv
      generalize v 12 = v12 at h12 ⊢
      generalize v 13 = v13 at h13 ⊢
      obtain ⟨D1, e1, rfl, l1⟩ := h12
      obtain ⟨D2, e2, rfl, l2⟩ := h13
      have HH := Lib.hid (HM.out.below hb)
      have L1 := Lib.hid l1
      have L2 := Lib.hid l2
      have LF := Lib.hid (H1.out.below hb)
      have GB := Lib.hid (only_of_below (then_below hb1.out hb) (some g))
      have c2 : w2.cell? ⟨g, 2, none⟩ = some (.slice A L.length c) := HH.out.cells.read 2
      have f2 : w2.frozen? ⟨g, 2, none⟩ = false := HH.out.cells.soft 2
      clear l1 l2 hb
      go_wp2_with fail
      refine bodyPost_ret (v := .tuple #[.slice D1 (withoutV L F).length e1, .slice D2 (withoutV F L).length e2, .int .i64 0]) (by simp [results, Try.results13, go_sem]) rfl ⟨D1, e1, D2, e2, B1, c1, rfl, ?_, ?_, ?_, only_store GB.out _⟩
      · exact HH.out.past_store L1.out 2 _
      · exact HH.out.past_store L2.out 2 _
      · exact HH.out.stored LF.out
end Go.Proofs.Ytomekndinopoaaa.multi
namespace Go.Proofs.Ytomekndinopoaaa.multi
open Go.ChangeShapes Go.WideShapes Go.ChangeAt Go.RowKit
open Go.Proofs.Ytomekndinopoaaa.tm Go.Proofs.Ytomekndinopoaaa.opened Go.Proofs.Ytomekndinopoaaa.block Go.Proofs.Ytomekndinopoaaa.stamp Go.Proofs.Ytomekndinopoaaa.chain

/-- An act: its kind, its time, its number. -/
structure Ac where
  k : Int
  t : Tm
  n : Int
structure Ac.In (a : Ac) : Prop where
  k0 : -9223372036854775808 ≤ a.k
  k1 : a.k ≤ 9223372036854775807
  t : a.t.In
  n0 : -9223372036854775808 ≤ a.n
  n1 : a.n ≤ 9223372036854775807
def cA (a : Ac) : List Value := [.int .i64 a.k, .int .u32 a.t.e, .int .i64 a.t.d, .int .u32 a.t.a, .int .u32 a.t.b, .int .u32 a.t.c, .int .i64 a.n]
def La (w : World) (A : Option Addr) (L : List Ac) : Prop := LiesN w A 7 (L.map cA)
theorem La.below {w w' : World} {A : Option Addr} {M : List Ac} (h : La w A M) (hb : Below w.heap.size w w') : La w' A M := by
  rcases h with h | ⟨b, off, hA, hbl, hc⟩
  · exact .inl h
  · exact .inr ⟨b, off, hA, Nat.lt_of_lt_of_le hbl hb.size, fun i x hx => ⟨(hc i x hx).1, fun j hj => (hb.cell (p := ⟨b, off + (i * 7 + j), none⟩) hbl).trans ((hc i x hx).2 j hj)⟩⟩
theorem La.at {w : World} {A : Option Addr} {M : List Ac} (h : La w A M) {k : Nat} {p : Ac} (hk : M[k]? = some p) : ∃ b off, A = some ⟨b, off, none⟩ ∧ b < w.heap.size ∧
    w.cell? ⟨b, off + k * 7, none⟩ = some (.int .i64 p.k) ∧ w.cell? ⟨b, off + k * 7 + 1, none⟩ = some (.int .u32 p.t.e) ∧ w.cell? ⟨b, off + k * 7 + 1 + 1, none⟩ = some (.int .i64 p.t.d) ∧ w.cell? ⟨b, off + k * 7 + 1 + 2, none⟩ = some (.int .u32 p.t.a) ∧ w.cell? ⟨b, off + k * 7 + 1 + 3, none⟩ = some (.int .u32 p.t.b) ∧ w.cell? ⟨b, off + k * 7 + 1 + 4, none⟩ = some (.int .u32 p.t.c) ∧ w.cell? ⟨b, off + k * 7 + 6, none⟩ = some (.int .i64 p.n) := by
  rcases h with h | ⟨b, off, hA, hbl, hc⟩
  · have : M = [] := by simpa using h
    subst this
    simp at hk
  · have hx : (M.map cA)[k]? = some (cA p) := by rw [List.getElem?_map, hk]; rfl
    have h := (hc k (cA p) hx).2
    refine ⟨b, off, hA, hbl, ?_, ?_, ?_, ?_, ?_, ?_, ?_⟩
    · have := h 0 (by omega); simpa [cA, Nat.add_assoc] using this
    · have := h 1 (by omega); simpa [cA, Nat.add_assoc] using this
    · have := h 2 (by omega); simpa [cA, Nat.add_assoc] using this
    · have := h 3 (by omega); simpa [cA, Nat.add_assoc] using this
    · have := h 4 (by omega); simpa [cA, Nat.add_assoc] using this
    · have := h 5 (by omega); simpa [cA, Nat.add_assoc] using this
    · have := h 6 (by omega); simpa [cA, Nat.add_assoc] using this
def acR : Reader (Int × (Int × Int × List Int × Unit) × Int × Unit) := consR 1 (intR .i64) (consR 5 timeR (consR 1 (intR .i64) nilR))
set_option maxRecDepth 100000 in
theorem opens_ac : Opens Try.prog 35 acR :=
  opens_struct Try.underlying35 (by kernel_rfl) (by kernel_rfl) (opensFs_cons (opens_int Try.underlying3) (m := 1) (by kernel_rfl) (opensFs_cons opens_time (m := 5) (by kernel_rfl) (opensFs_cons (opens_int Try.underlying2) (m := 1) (by kernel_rfl) opensFs_nil)))
set_option maxRecDepth 100000 in
theorem opens_acs : Opens Try.prog 22 (sliceR 7 48 acR) := opens_slice Try.underlying22 (m := 7) (bytes := 48) (by kernel_rfl) (by kernel_rfl) opens_ac
def acOf (p : Int × (Int × Int × List Int × Unit) × Int × Unit) : Ac := ⟨p.1, tmOf p.2.1, p.2.2.1⟩
theorem ac_of {w : World} {cs : List Value} {p : Int × (Int × Int × List Int × Unit) × Int × Unit} (h : acR w cs p) : (acOf p).In ∧ cs = cA (acOf p) := by
  obtain ⟨⟨h1, w1⟩, h2, ⟨h3, w3⟩, h4⟩ := h
  obtain ⟨a0, a1⟩ := bounds_i64 w1
  obtain ⟨a2, a3⟩ := bounds_i64 w3
  obtain ⟨it, ht⟩ := time_of h2
  refine ⟨⟨a0, a1, it, a2, a3⟩, ?_⟩
  unfold nilR at h4
  match cs, h1, ht, h3, h4 with
  | [c0, c1, c2, c3, c4, c5, c6], h1, ht, h3, _ =>
    simp [cT] at h1 ht h3
    obtain ⟨e1, e2, e3, e4, e5⟩ := ht
    subst h1 e1 e2 e3 e4 e5 h3
    rfl
set_option maxRecDepth 100000 in
/-- A slice of acts that came in. -/
theorem top_acs {w : World} {r : Reach} {b : Nat} {v : Value} {q : Row (Int × (Int × Int × List Int × Unit) × Int × Unit)} (hv : Value.okWide Try.prog w r b 22 v) (h : sliceR 7 48 acR w v.cells.toList q) :
    ∃ (A : Option Addr) (c : Nat) (L : List Ac), v = .slice A L.length c ∧ (∀ a ∈ L, a.In) ∧ La w A L ∧ L.length ≤ c ∧ L.length ≤ 4611686018427387903 := by
  have hl := h.2.1
  have hc := h.2.2.1
  have hb := h.2.2.2.2.1
  refine ⟨q.ptr, q.cap, q.elems.map acOf, ?_, ?_, ?_, ?_, ?_⟩
  · rw [top_slice Try.underlying22 hv h, row_val h, List.length_map]
  · intro t ht
    obtain ⟨a, ha, rfl⟩ := List.mem_map.1 ht
    obtain ⟨cs', hcs⟩ := elem_of h a ha
    exact (ac_of hcs).1
  · have := liesN_of (f := fun a => cA (acOf a)) (fun w cs a ha => (ac_of ha).2) (by omega) h
    unfold La
    rw [List.map_map]
    exact this
  · rw [List.length_map, hl]; exact hc
  · rw [List.length_map, hl]; omega
end Go.Proofs.Ytomekndinopoaaa.multi
