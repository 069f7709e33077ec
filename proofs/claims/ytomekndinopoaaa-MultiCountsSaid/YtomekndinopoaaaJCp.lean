/-
  The contract of (*multi.Multi).Copy.
  The contract of the document's Copy.
-/
import Derived.Test.YtomekndinopoaaaJCl
import Derived.ArgAppend
namespace Go.Proofs.Ytomekndinopoaaa.multi
open Go.ChangeShapes Go.WideShapes Go.ChangeAt Go.RowKit Go.Maps Go.WideMaps
open Go.Proofs.Ytomekndinopoaaa.region
open Go.Proofs.Ytomekndinopoaaa.tm Go.Proofs.Ytomekndinopoaaa.opened Go.Proofs.Ytomekndinopoaaa.block Go.Proofs.Ytomekndinopoaaa.stamp Go.Proofs.Ytomekndinopoaaa.chain

theorem mul_of {w : World} {g b c : Nat} {d : Int} {A : Option Addr} {L : List Tm} {M : List TN} (hc : Whole w g 74 #[.int .i64 d, .map (some b), .slice A L.length c]) (ho : OwnM w b M) (hl : Lt w A L) : MulP w g d b A c L M := by
  refine ⟨hc, ho, hl, fun e => ?_, far_of hc ho hl⟩
  have h0 := hc.read 0
  rw [e, own_no_cell ho 0] at h0
  cases h0
def MapM (n : Nat) (M : List TN) : Value → World → Prop := fun u w => ∃ b, u = .map (some b) ∧ n ≤ b ∧ OwnM w b M
theorem keeps_mapM (n : Nat) (M : List TN) : Keeps (MapM n M) := fun _ _ _ hb ⟨b, h1, hn, h2⟩ => ⟨b, h1, hn, h2.below hb h2.lt⟩
def MadeM (n : Nat) (d : Int) (L : List Tm) (M : List TN) : Value → World → Prop := fun u w => ∃ b B c, u = .agg #[.int .i64 d, .map (some b), .slice B L.length c] ∧ n ≤ b ∧ OwnM w b M ∧ Lt w B L
theorem keeps_madeM (n : Nat) (d : Int) (L : List Tm) (M : List TN) : Keeps (MadeM n d L M) := fun _ _ _ hb ⟨b, B, c, h1, hn, h2, h3⟩ => ⟨b, B, c, h1, hn, h2.below hb h2.lt, h3.below hb⟩
def MulX (n : Nat) (d : Int) (L : List Tm) (M : List TN) : Value → World → Prop := fun u w => ∃ g b B c, u = .pointer (some ⟨g, 0, none⟩) ∧ n ≤ g ∧ n ≤ b ∧ MulP w g d b B c L M
theorem keeps_mulX (n : Nat) (d : Int) (L : List Tm) (M : List TN) : Keeps (MulX n d L M) := fun _ _ _ hb ⟨g, b, B, c, h1, n1, n2, h2⟩ => ⟨g, b, B, c, h1, n1, n2, h2.below hb⟩
set_option maxRecDepth 100000 in
theorem copy_any {g b c : Nat} {d : Int} {A : Option Addr} {L : List Tm} {M : List TN} (lL : L.length ≤ 4096) (w : World) (h : MulP w g d b A c L M) :
    Calls Try.prog 15 #[.pointer (some ⟨g, 0, none⟩)] w fun e w' => ∃ g' b' B' c', e = .returned (.pointer (some ⟨g', 0, none⟩)) ∧ MulP w' g' d b' B' c' L M ∧ w.heap.size ≤ g' ∧ w.heap.size ≤ b' ∧ Below w.heap.size w w' := by
  have H := Lib.hid h
  clear h
  go_enter Try.func15, Try.ntmps15
  go_upto_region 1 with fail
  refine region_kinds 19 [Is (.pointer (some ⟨g, 0, none⟩)), Is (.pointer (some ⟨g, 0, none⟩)), Is (.pointer (some ⟨g, 0, none⟩)), Is (.int .i64 d), Is (.pointer (some ⟨g, 0, none⟩)), Is (.pointer (some ⟨g, 0, none⟩)), Is (.pointer (some ⟨g, 1, none⟩)), Is (.map (some b)), MapM w.heap.size M, Is (.pointer (some ⟨g, 0, none⟩)), Is (.pointer (some ⟨g, 0, none⟩)), Is (.pointer (some ⟨g, 2, none⟩)), Is (.slice A L.length c), Rows L, MadeM w.heap.size d L M, MulX w.heap.size d L M, MulX w.heap.size d L M] (by kernel_rfl) rfl (by kernel_rfl) ?_ ?_
  · exact ⟨keeps_is _, keeps_is _, keeps_is _, keeps_is _, keeps_is _, keeps_is _, keeps_is _, keeps_is _, keeps_mapM _ _, keeps_is _, keeps_is _, keeps_is _, keeps_is _, keeps_rows _, keeps_madeM _ _ _ _, keeps_mulX _ _ _ _, keeps_mulX _ _ _ _, trivial⟩
  · intro fin hfin
    simp [lexPut, Act.put] at hfin
    refine ⟨⟨?_, ?_, ?_, ?_, ?_, ?_, ?_, ?_, ?_, ?_, ?_, ?_, ?_, ?_, ?_, ?_, ?_, trivial⟩, ?_⟩
    · intro v w2 hb hd
      exact yields_is (tells_move rfl (by rw [hfin]; rfl)) hb
    · intro v w2 hb hd
      have h0 : v 0 = _ := hd 0 (by kernel_rfl)
      refine yields_run (u := .pointer (some ⟨g, 0, none⟩)) (w' := w2) ?_ (Below.refl _ _) rfl
      rw [hfin]
      unfold execOp
      simp [go_sem, Act.eval, h0]
    · intro v w2 hb hd
      have h1 : v 1 = _ := hd 1 (by kernel_rfl)
      refine yields_run (u := .pointer (some ⟨g, 0, none⟩)) (w' := w2) ?_ (Below.refl _ _) rfl
      rw [hfin]
      unfold execOp
      simp [go_sem, Act.eval, h1]
    · intro v w2 hb hd
      have h2 : v 2 = _ := hd 2 (by kernel_rfl)
      have hc : w2.cell? ⟨g, 0, none⟩ = some (.int .i64 d) := (H.out.below hb).cells.read 0
      refine yields_run (u := .int .i64 d) (w' := w2) ?_ (Below.refl _ _) rfl
      rw [hfin]
      unfold execOp
      simp [go_sem, Act.eval, h2, hc]
    · intro v w2 hb hd
      exact yields_is (tells_move rfl (by rw [hfin]; rfl)) hb
    · intro v w2 hb hd
      have h4 : v 4 = _ := hd 4 (by kernel_rfl)
      refine yields_run (u := .pointer (some ⟨g, 0, none⟩)) (w' := w2) ?_ (Below.refl _ _) rfl
      rw [hfin]
      unfold execOp
      simp [go_sem, Act.eval, h4]
    · intro v w2 hb hd
      have h5 : v 5 = _ := hd 5 (by kernel_rfl)
      refine yields_run (u := .pointer (some ⟨g, 1, none⟩)) (w' := w2) ?_ (Below.refl _ _) rfl
      rw [hfin]
      unfold execOp
      simp [go_sem, Act.eval, h5]
    · intro v w2 hb hd
      have h6 : v 6 = _ := hd 6 (by kernel_rfl)
      have hc : w2.cell? ⟨g, 1, none⟩ = some (.map (some b)) := (H.out.below hb).cells.read 1
      refine yields_run (u := .map (some b)) (w' := w2) ?_ (Below.refl _ _) rfl
      rw [hfin]
      unfold execOp
      simp [go_sem, Act.eval, h6, hc]
    · intro v w2 hb hd
      have h7 : v 7 = _ := hd 7 (by kernel_rfl)
      refine yields_call (f := 42) rfl (vs := #[.map (some b)]) (by rw [hfin]; simp [Act.eval, h7]) rfl Try.func42 (by kernel_rfl) (by kernel_rfl) ?_
      exact (clone_own w2 (H.out.below hb).own).mono fun e w' ⟨he, ho, hb'⟩ => ⟨_, he, hb', _, rfl, hb.size, ho⟩
    · intro v w2 hb hd
      exact yields_is (tells_move rfl (by rw [hfin]; rfl)) hb
    · intro v w2 hb hd
      have h9 : v 9 = _ := hd 9 (by kernel_rfl)
      refine yields_run (u := .pointer (some ⟨g, 0, none⟩)) (w' := w2) ?_ (Below.refl _ _) rfl
      rw [hfin]
      unfold execOp
      simp [go_sem, Act.eval, h9]
    · intro v w2 hb hd
      have h10 : v 10 = _ := hd 10 (by kernel_rfl)
      refine yields_run (u := .pointer (some ⟨g, 2, none⟩)) (w' := w2) ?_ (Below.refl _ _) rfl
      rw [hfin]
      unfold execOp
      simp [go_sem, Act.eval, h10]
    · intro v w2 hb hd
      have h11 : v 11 = _ := hd 11 (by kernel_rfl)
      have hc : w2.cell? ⟨g, 2, none⟩ = some (.slice A L.length c) := (H.out.below hb).cells.read 2
      refine yields_run (u := .slice A L.length c) (w' := w2) ?_ (Below.refl _ _) rfl
      rw [hfin]
      unfold execOp
      simp [go_sem, Act.eval, h11, hc]
    · intro v w2 hb hd
      have h12 : v 12 = _ := hd 12 (by kernel_rfl)
      refine yields_call (f := 43) rfl (vs := #[.slice A L.length c]) (by rw [hfin]; simp [Act.eval, h12]) rfl Try.func43 (by kernel_rfl) (by kernel_rfl) ?_
      exact (cloneT_any A c L lL w2 (H.out.below hb).last).mono fun e w' ⟨B, c', he, hl, hb'⟩ => ⟨_, he, hb', B, c', rfl, hl⟩
    · intro v w2 hb hd
      have h3 : v 3 = _ := hd 3 (by kernel_rfl)
      obtain ⟨b2, h8, n8, o8⟩ : MapM w.heap.size M (v 8) w2 := hd 8 (by kernel_rfl)
      obtain ⟨B2, c2, h13, l13⟩ : Rows L (v 13) w2 := hd 13 (by kernel_rfl)
      refine yields_run (u := .agg #[.int .i64 d, .map (some b2), .slice B2 L.length c2]) (w' := w2) ?_ (Below.refl _ _) ⟨b2, B2, c2, rfl, n8, o8, l13⟩
      rw [hfin]
      unfold execOp
      simp [go_sem, Act.eval, h3, h8, h13]
    · intro v w2 hb hd
      obtain ⟨b2, B2, c2, h14, n14, o14, l14⟩ : MadeM w.heap.size d L M (v 14) w2 := hd 14 (by kernel_rfl)
      refine yields_run (u := .pointer (some ⟨w2.heap.size, 0, none⟩)) (w' := w2.alloc (.cells #[.int .i64 d, .map (some b2), .slice B2 L.length c2] 74)) ?_ (fresh1 w2 _) ⟨w2.heap.size, b2, B2, c2, rfl, hb.size, n14, mul_of (Whole.fresh w2 _ _) (o14.below (fresh1 w2 _) o14.lt) (l14.below (fresh1 w2 _))⟩
      rw [hfin]
      unfold execOp
      simp [go_sem, Act.eval, h14]
    · intro v w2 hb hd
      exact yields_assign rfl (by rw [hfin]; exact hd 15 (by kernel_rfl))
    · intro v w2 hb hv
      have h16 : MulX w.heap.size d L M (v 16) w2 := hv 16 (by decide)
      rw [hfin]
      clear hfin hv
      generalize v 16 = v16 at h16 ⊢
      obtain ⟨g2, b2, B2, c2, rfl, n1, n2, hm⟩ := h16
      have HM := Lib.hid hm
      have HB := Lib.hid hb
      clear hm hb
      go_wp2_with fail
      go_ret
      exact ⟨g2, b2, B2, c2, rfl, HM.out, n1, n2, HB.out⟩
end Go.Proofs.Ytomekndinopoaaa.multi
namespace Go.Proofs.Ytomekndinopoaaa.multi
open Go.ChangeShapes Go.WideShapes Go.ChangeAt Go.RowKit Go.Maps Go.WideMaps
open Go.Proofs.Ytomekndinopoaaa.region
open Go.Proofs.Ytomekndinopoaaa.tm Go.Proofs.Ytomekndinopoaaa.opened Go.Proofs.Ytomekndinopoaaa.block Go.Proofs.Ytomekndinopoaaa.stamp Go.Proofs.Ytomekndinopoaaa.chain

section
variable {P : Program}
theorem run_append_none (w : World) (t ty e : TypeId) (i : TypeInfo) (ht : P.underlying t = some (.slice e)) (hi : P.info? e = some i) (b : Addr) (A : Option Addr) (c : Nat) :
    (Builtin.append_ #[t, t] ty #[.slice (some b) 0 0, .slice A 0 c]).run P w = .ok (.slice (some b) 0 0) w := by
  cases A <;> simp [Builtin.append_, Builtin.lenOf, Builtin.firstCells, run_underlying ht, sizeOf, typeInfo, hi, storeCells, go_sem, Result.andThen]
/-- append of any row to an empty one that was just made. -/
theorem yields_copied {w : World} {o : Oper} {ρ : Operand → Value} {T : Value → World → Prop} (s x : Operand) (t : TypeId) (ho : o.op = .call { callee := .builtin .append, args := #[s, x], argTypes := #[t, t] })
    (e : TypeId) (i : TypeInfo) (z : Value) (size bytes : Nat) (ht : P.underlying t = some (.slice e)) (hi : P.info? e = some i) (hz : i.zero = some z)
    (hsize : i.size = size) (hby : i.bytes = bytes) (hzs : z.cells.size = size) (hsz : 0 < size)
    (b : Addr) (hs : ρ s = .slice (some b) 0 0) (A : Option Addr) (m c : Nat) (news : List Value) (hx : ρ x = .slice A m c) (hl : news.length = m * size)
    (hA : m ≠ 0 → ∃ ad, A = some ad ∧ ∀ j u, news[j]? = some u → w.cell? (ad.add j) = some u) (h63 : m ≤ maxLen) (hbytes : m * bytes ≤ 140737488355328)
    (h0 : m = 0 → T (.slice (some b) 0 0) w) (h : m ≠ 0 → ∀ (v' : Value) (w' : World), w'.ownsRow w.heap.size e size v' m news → Below w.heap.size w w' → T v' w') : region.Yields P o ρ w T := by
  by_cases hm : m = 0
  · subst hm
    refine .inl ⟨_, w, ?_, Below.refl _ _, h0 rfl⟩
    unfold execOp
    simp only [ho, resolve, invoke, builtin, Sem.run_bind, Sem.run_pure, Result.andThen_ok, List.map_toArray, List.map_cons, List.map_nil, hs, hx, run_append_none w t o.type e i ht hi b A c]
  · obtain ⟨ad, rfl, hc⟩ := hA hm
    obtain ⟨v', w', hr, h1, h2⟩ := run_append_arg_grows (P := P) w t o.type e i z size bytes ht hi hz hsize hby hzs hsz b 0 0 [] (by simp) (by intro j u hj; simp at hj) ad m c news hl hc (by omega) (by rw [Nat.zero_add]; exact h63) (by rw [Nat.zero_add]; exact hbytes)
    rw [Nat.zero_add, List.nil_append] at h1
    have hB : Below w.heap.size w w' := (Below.refl w.heap.size w).grown h2 (Nat.le_refl _) (fun k e => by cases e)
    refine .inl ⟨v', w', ?_, hB, h hm v' w' h1 hB⟩
    unfold execOp
    simp only [ho, resolve, invoke, builtin, Sem.run_bind, Sem.run_pure, Result.andThen_ok, List.map_toArray, List.map_cons, List.map_nil, hs, hx, hr]
end
theorem lp_flat {w : World} {M : List TN} {A : Option Addr} (h : Lp w A M) (hn : M ≠ []) : ∃ ad, A = some ad ∧ ∀ j u, (M.flatMap cP)[j]? = some u → w.cell? (ad.add j) = some u := by
  rcases h with h | ⟨b, off, hA, -, hc⟩
  · exact absurd (by simpa using h) hn
  · refine ⟨_, hA, fun j u hj => ?_⟩
    have hlt : j < M.length * 6 := by rw [← flatP_len]; exact (List.getElem?_eq_some_iff.1 hj).1
    obtain ⟨y, hy, -⟩ := pair_lt (M := M) (k := j / 6) (by omega)
    have e := flatP_at M (j / 6) y (j % 6) hy (Nat.mod_lt _ (by omega))
    rw [show j / 6 * 6 + j % 6 = j by omega, hj] at e
    have := (hc (j / 6) (cP y) (by rw [List.getElem?_map, hy]; rfl)).2 (j % 6) (Nat.mod_lt _ (by omega))
    rw [show j / 6 * 6 + j % 6 = j by omega, ← e] at this
    rw [show (⟨b, off, none⟩ : Addr).add j = ⟨b, off + j, none⟩ by cases j <;> simp [Addr.add]]
    exact this
theorem lt_flat0 {w : World} {L : List Tm} {A : Option Addr} (h : Lt w A L) (hn : L ≠ []) : ∃ ad, A = some ad ∧ ∀ j u, (L.flatMap cT)[j]? = some u → w.cell? (ad.add j) = some u := by
  cases L with
  | nil => exact absurd rfl hn
  | cons x r =>
    obtain ⟨b, off, rfl, -⟩ := h.at (k := 0) (t := x) rfl
    exact ⟨_, rfl, lt_flat h⟩
def Empty0 : Value → World → Prop := fun u _ => ∃ b, u = .slice (some ⟨b, 0, none⟩) 0 0
theorem keeps_empty : Keeps Empty0 := fun _ _ _ _ h => h
def MadeR (d : Int) (L : List Tm) (M : List TN) : Value → World → Prop := fun u w => ∃ A a B e, u = .agg #[.int .i64 d, .slice A M.length a, .slice B L.length e] ∧ Lp w A M ∧ Lt w B L
theorem keeps_madeR (d : Int) (L : List Tm) (M : List TN) : Keeps (MadeR d L M) := fun _ _ _ hb ⟨A, a, B, e, h1, h2, h3⟩ => ⟨A, a, B, e, h1, h2.below hb, h3.below hb⟩
def MulRX (n : Nat) (d : Int) (L : List Tm) (M : List TN) : Value → World → Prop := fun u w => ∃ g A a B e, u = .pointer (some ⟨g, 0, none⟩) ∧ n ≤ g ∧ MulR w g d A a M B e L
theorem keeps_mulRX (n : Nat) (d : Int) (L : List Tm) (M : List TN) : Keeps (MulRX n d L M) := fun _ _ _ hb ⟨g, A, a, B, e, h1, n1, h2⟩ => ⟨g, A, a, B, e, h1, n1, h2.below hb⟩
set_option maxRecDepth 100000 in
set_option maxHeartbeats 1000000 in
theorem copyR_any {r a e : Nat} {d : Int} {A B : Option Addr} {L : List Tm} {M : List TN} (mL : M.length ≤ 4096) (lL : L.length ≤ 4096) (w : World) (h : MulR w r d A a M B e L) :
    Calls Try.prog 16 #[.pointer (some ⟨r, 0, none⟩)] w fun x w' => ∃ r' A' a' B' e', x = .returned (.pointer (some ⟨r', 0, none⟩)) ∧ MulR w' r' d A' a' M B' e' L ∧ w.heap.size ≤ r' ∧ Below w.heap.size w w' := by
  obtain ⟨i0, hi, hz0, hz1, hz2⟩ := infoP _ infoP1
  obtain ⟨j0, ji, jz0, jz1, jz2⟩ := info_parts infoT
  have H := Lib.hid h
  clear h
  go_enter Try.func16, Try.ntmps16
  go_upto_region 1 with fail
  refine region_kinds 21 [Is (.pointer (some ⟨r, 0, none⟩)), Is (.pointer (some ⟨r, 0, none⟩)), Is (.pointer (some ⟨r, 0, none⟩)), Is (.int .i64 d), Empty0, Is (.pointer (some ⟨r, 0, none⟩)), Is (.pointer (some ⟨r, 0, none⟩)), Is (.pointer (some ⟨r, 1, none⟩)), Is (.slice A M.length a), RowM M, Empty0, Is (.pointer (some ⟨r, 0, none⟩)), Is (.pointer (some ⟨r, 0, none⟩)), Is (.pointer (some ⟨r, 2, none⟩)), Is (.slice B L.length e), Rows L, MadeR d L M, MulRX w.heap.size d L M, MulRX w.heap.size d L M] (by kernel_rfl) rfl (by kernel_rfl) ?_ ?_
  · exact ⟨keeps_is _, keeps_is _, keeps_is _, keeps_is _, keeps_empty, keeps_is _, keeps_is _, keeps_is _, keeps_is _, keeps_rowM _, keeps_empty, keeps_is _, keeps_is _, keeps_is _, keeps_is _, keeps_rows _, keeps_madeR _ _ _, keeps_mulRX _ _ _ _, keeps_mulRX _ _ _ _, trivial⟩
  · intro fin hfin
    simp [lexPut, Act.put] at hfin
    refine ⟨⟨?_, ?_, ?_, ?_, ?_, ?_, ?_, ?_, ?_, ?_, ?_, ?_, ?_, ?_, ?_, ?_, ?_, ?_, ?_, trivial⟩, ?_⟩
    · intro v w2 hb hd
      exact yields_is (tells_move rfl (by rw [hfin]; rfl)) hb
    · intro v w2 hb hd
      have h0 : v 0 = _ := hd 0 (by kernel_rfl)
      refine yields_run (u := .pointer (some ⟨r, 0, none⟩)) (w' := w2) ?_ (Below.refl _ _) rfl
      rw [hfin]
      unfold execOp
      simp [go_sem, Act.eval, h0]
    · intro v w2 hb hd
      have h1 : v 1 = _ := hd 1 (by kernel_rfl)
      refine yields_run (u := .pointer (some ⟨r, 0, none⟩)) (w' := w2) ?_ (Below.refl _ _) rfl
      rw [hfin]
      unfold execOp
      simp [go_sem, Act.eval, h1]
    · intro v w2 hb hd
      have h2 : v 2 = _ := hd 2 (by kernel_rfl)
      have hc : w2.cell? ⟨r, 0, none⟩ = some (.int .i64 d) := (H.out.below hb).cells.read 0
      refine yields_run (u := .int .i64 d) (w' := w2) ?_ (Below.refl _ _) rfl
      rw [hfin]
      unfold execOp
      simp [go_sem, Act.eval, h2, hc]
    · intro v w2 hb hd
      refine yields_run (u := .slice (some ⟨w2.heap.size, 0, none⟩) 0 0) (w' := w2.alloc (.cells #[] 79)) ?_ (fresh1 w2 _) ⟨w2.heap.size, rfl⟩
      rw [hfin]
      unfold execOp
      simp [go_sem, Act.eval]
    · intro v w2 hb hd
      exact yields_is (tells_move rfl (by rw [hfin]; rfl)) hb
    · intro v w2 hb hd
      have h5 : v 5 = _ := hd 5 (by kernel_rfl)
      refine yields_run (u := .pointer (some ⟨r, 0, none⟩)) (w' := w2) ?_ (Below.refl _ _) rfl
      rw [hfin]
      unfold execOp
      simp [go_sem, Act.eval, h5]
    · intro v w2 hb hd
      have h6 : v 6 = _ := hd 6 (by kernel_rfl)
      refine yields_run (u := .pointer (some ⟨r, 1, none⟩)) (w' := w2) ?_ (Below.refl _ _) rfl
      rw [hfin]
      unfold execOp
      simp [go_sem, Act.eval, h6]
    · intro v w2 hb hd
      have h7 : v 7 = _ := hd 7 (by kernel_rfl)
      have hc : w2.cell? ⟨r, 1, none⟩ = some (.slice A M.length a) := (H.out.below hb).cells.read 1
      refine yields_run (u := .slice A M.length a) (w' := w2) ?_ (Below.refl _ _) rfl
      rw [hfin]
      unfold execOp
      simp [go_sem, Act.eval, h7, hc]
    · intro v w2 hb hd
      have h8 : v 8 = _ := hd 8 (by kernel_rfl)
      obtain ⟨b4, h4⟩ : Empty0 (v 4) w2 := hd 4 (by kernel_rfl)
      refine yields_copied (.tmp 7) (.tmp 11) 61 rfl 79 i0 (.agg (cP P0).toArray) 6 40 Try.underlying61 hi hz0 hz1 hz2 rfl (by decide) ⟨b4, 0, none⟩ (by rw [hfin]; simp [Act.eval, h4]) A M.length a (M.flatMap cP) (by rw [hfin]; simp [Act.eval, h8]) (flatP_len M) (fun hn => lp_flat (H.out.below hb).pairs (fun e => hn (by rw [e]; rfl))) (by unfold maxLen; omega) (by omega) (fun h0 => ⟨some ⟨b4, 0, none⟩, 0, by rw [h0], .inl (by rw [List.eq_nil_of_length_eq_zero h0]; rfl)⟩) ?_
      intro hn v' w' hown _
      obtain ⟨g', cap', rfl, -⟩ := hown.form (by omega)
      exact ⟨_, _, rfl, OwnP.lies hown⟩
    · intro v w2 hb hd
      refine yields_run (u := .slice (some ⟨w2.heap.size, 0, none⟩) 0 0) (w' := w2.alloc (.cells #[] 33)) ?_ (fresh1 w2 _) ⟨w2.heap.size, rfl⟩
      rw [hfin]
      unfold execOp
      simp [go_sem, Act.eval]
    · intro v w2 hb hd
      exact yields_is (tells_move rfl (by rw [hfin]; rfl)) hb
    · intro v w2 hb hd
      have h11 : v 11 = _ := hd 11 (by kernel_rfl)
      refine yields_run (u := .pointer (some ⟨r, 0, none⟩)) (w' := w2) ?_ (Below.refl _ _) rfl
      rw [hfin]
      unfold execOp
      simp [go_sem, Act.eval, h11]
    · intro v w2 hb hd
      have h12 : v 12 = _ := hd 12 (by kernel_rfl)
      refine yields_run (u := .pointer (some ⟨r, 2, none⟩)) (w' := w2) ?_ (Below.refl _ _) rfl
      rw [hfin]
      unfold execOp
      simp [go_sem, Act.eval, h12]
    · intro v w2 hb hd
      have h13 : v 13 = _ := hd 13 (by kernel_rfl)
      have hc : w2.cell? ⟨r, 2, none⟩ = some (.slice B L.length e) := (H.out.below hb).cells.read 2
      refine yields_run (u := .slice B L.length e) (w' := w2) ?_ (Below.refl _ _) rfl
      rw [hfin]
      unfold execOp
      simp [go_sem, Act.eval, h13, hc]
    · intro v w2 hb hd
      have h14 : v 14 = _ := hd 14 (by kernel_rfl)
      obtain ⟨b4, h10⟩ : Empty0 (v 10) w2 := hd 10 (by kernel_rfl)
      refine yields_copied (.tmp 13) (.tmp 17) 37 rfl 33 j0 (.agg #[.int .u32 T0.e, .int .i64 T0.d, .int .u32 T0.a, .int .u32 T0.b, .int .u32 T0.c]) 5 32 Try.underlying37 ji jz0 jz1 jz2 rfl (by decide) ⟨b4, 0, none⟩ (by rw [hfin]; simp [Act.eval, h10]) B L.length e (L.flatMap cT) (by rw [hfin]; simp [Act.eval, h14]) (flat_len L) (fun hn => lt_flat0 (H.out.below hb).was (fun e => hn (by rw [e]; rfl))) (by unfold maxLen; omega) (by omega) (fun h0 => ⟨some ⟨b4, 0, none⟩, 0, by rw [h0], .inl (by rw [List.eq_nil_of_length_eq_zero h0]; rfl)⟩) ?_
      intro hn v' w' hown _
      obtain ⟨g', cap', rfl, -⟩ := hown.form (by omega)
      exact ⟨_, _, rfl, OwnT.lies hown⟩
    · intro v w2 hb hd
      have h3 : v 3 = _ := hd 3 (by kernel_rfl)
      obtain ⟨B1, c1, h9, l9⟩ : RowM M (v 9) w2 := hd 9 (by kernel_rfl)
      obtain ⟨B2, c2, h15, l15⟩ : Rows L (v 15) w2 := hd 15 (by kernel_rfl)
      refine yields_run (u := .agg #[.int .i64 d, .slice B1 M.length c1, .slice B2 L.length c2]) (w' := w2) ?_ (Below.refl _ _) ⟨B1, c1, B2, c2, rfl, l9, l15⟩
      rw [hfin]
      unfold execOp
      simp [go_sem, Act.eval, h3, h9, h15]
    · intro v w2 hb hd
      obtain ⟨B1, c1, B2, c2, h16, l1, l2⟩ : MadeR d L M (v 16) w2 := hd 16 (by kernel_rfl)
      refine yields_run (u := .pointer (some ⟨w2.heap.size, 0, none⟩)) (w' := w2.alloc (.cells #[.int .i64 d, .slice B1 M.length c1, .slice B2 L.length c2] 76)) ?_ (fresh1 w2 _) ⟨w2.heap.size, B1, c1, B2, c2, rfl, hb.size, Whole.fresh w2 _ _, l1.below (fresh1 w2 _), l2.below (fresh1 w2 _)⟩
      rw [hfin]
      unfold execOp
      simp [go_sem, Act.eval, h16]
    · intro v w2 hb hd
      exact yields_assign rfl (by rw [hfin]; exact hd 17 (by kernel_rfl))
    · intro v w2 hb hv
      have h18 : MulRX w.heap.size d L M (v 18) w2 := hv 18 (by decide)
      rw [hfin]
      clear hfin hv
      generalize v 18 = v18 at h18 ⊢
      obtain ⟨g2, B1, c1, B2, c2, rfl, n1, hm⟩ := h18
      have HM := Lib.hid hm
      have HB := Lib.hid hb
      clear hm hb
      go_wp2_with fail
      go_ret
      exact ⟨g2, B1, c1, B2, c2, rfl, HM.out, n1, HB.out⟩
end Go.Proofs.Ytomekndinopoaaa.multi
