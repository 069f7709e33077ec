/-
  What Make answers does not hang on the order of its times; the frontier of a Multi is that of its times in order.
  The document's Multi: where it lies; its Count.
-/
import Derived.Test.YtomekndinopoaaaJMuR
import Derived.Test.YtomekndinopoaaaJFr
import Derived.Test.YtomekndinopoaaaJOpen
namespace Go.Proofs.Ytomekndinopoaaa.multi
open Go.ChangeShapes Go.WideShapes Go.ChangeAt Go.RowKit Go.Maps Go.WideMaps
open Go.Proofs.Ytomekndinopoaaa.tm Go.Proofs.Ytomekndinopoaaa.opened Go.Proofs.Ytomekndinopoaaa.block Go.Proofs.Ytomekndinopoaaa.stamp Go.Proofs.Ytomekndinopoaaa.chain

theorem srt_perm (L : List Tm) (h : InL L) : (srtL L h).Perm L := by
  have e := (List.mergeSort_perm (tis L h) (fun x y : TI => !ltOf cfT y x)).map (·.1)
  rw [tis_val] at e
  exact e
theorem sorted_one : ∀ {K L : List Tm}, K.Perm L → InL K → K.Pairwise (fun x y => numT x ≤ numT y) → L.Pairwise (fun x y => numT x ≤ numT y) → K = L
  | [], _, hp, _, _, _ => hp.nil_eq
  | a :: r, [], hp, _, _, _ => absurd hp.symm.nil_eq (by simp)
  | a :: r, b :: s, hp, hi, h1, h2 => by
    obtain ⟨a1, a2⟩ := List.pairwise_cons.1 h1
    obtain ⟨b1, b2⟩ := List.pairwise_cons.1 h2
    have iL : InL (b :: s) := fun t ht => hi t (hp.mem_iff.2 ht)
    have e1 : numT a ≤ numT b := by
      rcases List.mem_cons.1 (hp.mem_iff.2 (List.mem_cons_self (a := b) (l := s))) with e | e
      · rw [e]; exact Int.le_refl _
      · exact a1 b e
    have e2 : numT b ≤ numT a := by
      rcases List.mem_cons.1 (hp.mem_iff.1 (List.mem_cons_self (a := a) (l := r))) with e | e
      · rw [e]; exact Int.le_refl _
      · exact b1 a e
    have e : a = b := num_eq (hi a (List.mem_cons_self ..)) (iL b (List.mem_cons_self ..)) (by omega)
    subst e
    rw [sorted_one (List.Perm.cons_inv hp) (fun t ht => hi t (List.mem_cons_of_mem _ ht)) a2 b2]
theorem srt_same {K L : List Tm} (hp : K.Perm L) (iK : InL K) (iL : InL L) : srtL K iK = srtL L iL :=
  sorted_one ((srt_perm K iK).trans (hp.trans (srt_perm L iL).symm)) (in_srt K iK) (srt_sorted K iK) (srt_sorted L iL)
theorem make_same {K L : List Tm} (hp : K.Perm L) (iK : InL K) (iL : InL L) (hK : timesE K = 0) (hL : timesE L = 0) : makeE K iK = makeE L iL ∧ makeV K iK = makeV L iL := by
  have e : makeS K iK = makeS L iL := by unfold makeS; rw [srt_same hp iK iL]
  have e2 : makeE K iK = makeE L iL := by unfold makeE; rw [hp.length_eq, hK, hL, e]
  exact ⟨e2, by unfold makeV; rw [e2, e]⟩
theorem present_in {d : Int} {M : List TN} (G : GoodM d M) : ∀ t ∈ present M, t.In ∧ chk t = 0 ∧ t.d = d := by
  intro t ht
  obtain ⟨p, hp, rfl⟩ := List.mem_map.1 ht
  exact G.key p (List.mem_filter.1 hp).1
theorem times_all {d : Int} {L : List Tm} (h : ∀ t ∈ L, t.In ∧ chk t = 0 ∧ t.d = d) : timesE L = 0 := by
  refine times_ok (fun y hy => (h y hy).2.1) (fun y hy => ?_)
  rw [(h y hy).2.2]
  cases L with
  | nil => simp at hy
  | cons x r => exact ((h x (List.mem_cons_self ..)).2.2).symm
theorem inP {d : Int} {M : List TN} (G : GoodM d M) : InL (present M) := fun t ht => (present_in G t ht).1
/-- Frontier, with its answer as Make's of the times in order. -/
theorem frontier_chain {g b c : Nat} {d : Int} {A : Option Addr} {L : List Tm} {M : List TN} (G : GoodM d M) (hm : M.length ≤ 4096) (w : World) (h : MulP w g d b A c L M) :
    Calls Try.prog 33 #[.pointer (some ⟨g, 0, none⟩)] w fun e w' => ∃ (B : Option Addr) (c' : Nat), e = .returned (.tuple #[.slice B (makeV (present M) (inP G)).length c', .int .i64 (makeE (present M) (inP G))]) ∧ Lt w' B (makeV (present M) (inP G)) ∧ Below w.heap.size w w' := by
  refine (frontier_any G hm w h).mono ?_
  rintro e w' ⟨K, iK, B, c', hp, rfl, hL, hb⟩
  obtain ⟨e1, e2⟩ := make_same hp iK (inP G) (times_all (d := d) fun t ht => present_in G t (hp.mem_iff.1 ht)) (times_all (present_in G))
  rw [e1, e2]
  exact ⟨B, c', rfl, e2 ▸ hL, hb⟩
end Go.Proofs.Ytomekndinopoaaa.multi
namespace Go.Proofs.Ytomekndinopoaaa.multi
open Go.ChangeShapes Go.WideShapes Go.ChangeAt Go.RowKit Go.Maps Go.WideMaps
open Go.Proofs.Ytomekndinopoaaa.tm Go.Proofs.Ytomekndinopoaaa.opened Go.Proofs.Ytomekndinopoaaa.block Go.Proofs.Ytomekndinopoaaa.stamp Go.Proofs.Ytomekndinopoaaa.chain

def cP (p : TN) : List Value := [.int .u32 p.1.e, .int .i64 p.1.d, .int .u32 p.1.a, .int .u32 p.1.b, .int .u32 p.1.c, .int .i64 p.2]
/-- A row of pairs. -/
def Lp (w : World) (A : Option Addr) (M : List TN) : Prop := LiesN w A 6 (M.map cP)
theorem Lp.below {w w' : World} {A : Option Addr} {M : List TN} (h : Lp w A M) (hb : Below w.heap.size w w') : Lp w' A M := by
  rcases h with h | ⟨b, off, hA, hbl, hc⟩
  · exact .inl h
  · exact .inr ⟨b, off, hA, Nat.lt_of_lt_of_le hbl hb.size, fun i x hx => ⟨(hc i x hx).1, fun j hj => (hb.cell (p := ⟨b, off + (i * 6 + j), none⟩) hbl).trans ((hc i x hx).2 j hj)⟩⟩
theorem Lp.at {w : World} {A : Option Addr} {M : List TN} (h : Lp w A M) {k : Nat} {p : TN} (hk : M[k]? = some p) : ∃ b off, A = some ⟨b, off, none⟩ ∧ b < w.heap.size ∧
    w.cell? ⟨b, off + k * 6, none⟩ = some (.int .u32 p.1.e) ∧ w.cell? ⟨b, off + k * 6 + 1, none⟩ = some (.int .i64 p.1.d) ∧ w.cell? ⟨b, off + k * 6 + 2, none⟩ = some (.int .u32 p.1.a) ∧ w.cell? ⟨b, off + k * 6 + 3, none⟩ = some (.int .u32 p.1.b) ∧ w.cell? ⟨b, off + k * 6 + 4, none⟩ = some (.int .u32 p.1.c) ∧ w.cell? ⟨b, off + k * 6 + 5, none⟩ = some (.int .i64 p.2) := by
  rcases h with h | ⟨b, off, hA, hbl, hc⟩
  · have : M = [] := by simpa using h
    subst this
    simp at hk
  · obtain ⟨-, h2⟩ := hc k (cP p) (by rw [List.getElem?_map, hk]; rfl)
    exact ⟨b, off, hA, hbl, h2 0 (by omega), h2 1 (by omega), h2 2 (by omega), h2 3 (by omega), h2 4 (by omega), h2 5 (by omega)⟩
structure MulR (w : World) (g : Nat) (d : Int) (A : Option Addr) (c : Nat) (M : List TN) (B : Option Addr) (e : Nat) (L : List Tm) : Prop where
  cells : Whole w g 76 #[.int .i64 d, .slice A M.length c, .slice B L.length e]
  pairs : Lp w A M
  was : Lt w B L
theorem MulR.below {w w' : World} {g c e : Nat} {d : Int} {A B : Option Addr} {L : List Tm} {M : List TN} (h : MulR w g d A c M B e L) (hb : Below w.heap.size w w') : MulR w' g d A c M B e L :=
  ⟨h.cells.below hb h.cells.inside, h.pairs.below hb, h.was.below hb⟩
theorem pair_lt {M : List TN} {k : Nat} (h : k < M.length) : ∃ p, M[k]? = some p ∧ p ∈ M := ⟨M[k], List.getElem?_eq_getElem h, List.getElem_mem h⟩
theorem count_hit : ∀ {M : List TN} {k : Nat} {p : TN} {t : Tm}, M[k]? = some p → (∀ q ∈ M.take k, q.1 ≠ t) → p.1 = t → countM M t = p.2
  | [], k, p, t, hk, _, _ => by simp at hk
  | q :: r, 0, p, t, hk, _, he => by
    obtain rfl : q = p := by simpa using hk
    unfold countM
    rw [if_pos he]
  | q :: r, k + 1, p, t, hk, hn, he => by
    unfold countM
    rw [if_neg (hn q (by simp))]
    exact count_hit (M := r) (k := k) (by simpa using hk) (fun y hy => hn y (by simp [hy])) he
theorem eqT_iff {s t : Tm} : eqT s t = true ↔ s = t := by
  cases s; cases t
  simp [eqT]
theorem eqT_true {s t : Tm} (h : eqT s t = true) : s = t := eqT_iff.1 h
theorem more_ne {M : List TN} {t : Tm} {k : Nat} {p : TN} (h : ∀ q ∈ M.take k, q.1 ≠ t) (hx : M[k]? = some p) (hv : eqT p.1 t = false) : ∀ q ∈ M.take (k + 1), q.1 ≠ t := by
  intro q hq
  rw [List.take_add_one, hx] at hq
  rcases List.mem_append.1 hq with hq | hq
  · exact h q hq
  · simp at hq
    subst hq
    exact fun e => by rw [eqT_iff.2 e] at hv; cases hv
set_option maxRecDepth 100000 in
theorem countR_any {g c e : Nat} {d : Int} {A B : Option Addr} {L : List Tm} {M : List TN} (t : Tm) (mL : M.length ≤ 4611686018427387903) (w : World) (h : MulR w g d A c M B e L) :
    Calls Try.prog 18 #[.pointer (some ⟨g, 0, none⟩), .agg #[.int .u32 t.e, .int .i64 t.d, .int .u32 t.a, .int .u32 t.b, .int .u32 t.c]] w fun e w' => e = .returned (.int .i64 (countM M t)) ∧ Below w.heap.size w w' := by
  have H := Lib.hid h
  have hgl : Hid (g < w.heap.size) := Lib.hid h.cells.inside
  clear h
  have h0 := Whole.fresh w 33 (#[.int .u32 t.e, .int .i64 t.d, .int .u32 t.a, .int .u32 t.b, .int .u32 t.c])
  have B0 := fresh1 w (.cells (#[.int .u32 t.e, .int .i64 t.d, .int .u32 t.a, .int .u32 t.b, .int .u32 t.c]) 33)
  go_enter Try.func18, Try.ntmps18
  go_wp2_with fail
  generalize w.alloc (.cells (#[.int .u32 t.e, .int .i64 t.d, .int .u32 t.a, .int .u32 t.b, .int .u32 t.c]) 33) = W0 at h0 B0 ⊢
  generalize hg : w.heap.size = gt at h0 hgl ⊢
  have HG := Lib.hid hg
  go_loopw [5] (fun s wr => ∃ k : Nat, k ≤ M.length ∧ s = .int .i64 k ∧ Hid (∀ q ∈ M.take k, q.1 ≠ t) ∧ Whole wr gt 33 (#[.int .u32 t.e, .int .i64 t.d, .int .u32 t.a, .int .u32 t.b, .int .u32 t.c]) ∧ Below w.heap.size w wr) (fun s _ => M.length - (intOf s).toNat)
  case atStart => exact ⟨0, Nat.zero_le _, rfl, Lib.hid (by simp), h0, B0⟩
  case round =>
    clear h0 B0
    obtain ⟨k, hk, rfl, HN, O, BB⟩ := hrel
    have HR := Lib.hid (H.out.below BB)
    have cl : wr.cell? ⟨g, 1, none⟩ = some (.slice A M.length c) := HR.out.cells.read 1
    have fl : wr.frozen? ⟨g, 1, none⟩ = false := HR.out.cells.soft 1
    by_cases hlt : k < M.length
    · obtain ⟨p, hx, hm⟩ := pair_lt hlt
      obtain ⟨b, off, hA, hb, c0, c1, c2, c3, c4, c5⟩ := HR.out.pairs.at hx
      subst hA
      have HX := Lib.hid hx
      have HE := run_eqT p.1 t
      have hgw := Lib.hid HR.out.cells.inside
      obtain ⟨v, hv⟩ : ∃ v, eqT p.1 t = v := ⟨_, rfl⟩
      rw [hv] at HE
      have HV := Lib.hid hv
      clear hx hm hv
      go_upto_region 4 with fail
      have s0 : ∀ y : Since wr, y.1.cell? ⟨b, off + k * 6, none⟩ = some (.int .u32 p.1.e) := fun y => (y.2.cell hb).trans c0
      have s1 : ∀ y : Since wr, y.1.cell? ⟨b, off + k * 6 + 1, none⟩ = some (.int .i64 p.1.d) := fun y => (y.2.cell hb).trans c1
      have s2 : ∀ y : Since wr, y.1.cell? ⟨b, off + k * 6 + 2, none⟩ = some (.int .u32 p.1.a) := fun y => (y.2.cell hb).trans c2
      have s3 : ∀ y : Since wr, y.1.cell? ⟨b, off + k * 6 + 3, none⟩ = some (.int .u32 p.1.b) := fun y => (y.2.cell hb).trans c3
      have s4 : ∀ y : Since wr, y.1.cell? ⟨b, off + k * 6 + 4, none⟩ = some (.int .u32 p.1.c) := fun y => (y.2.cell hb).trans c4
      have s6 : ∀ y : Since wr, y.1.cell? ⟨g, 1, none⟩ = some (.slice (some ⟨b, off, none⟩) M.length c) := fun y => (y.2.cell hgw.out).trans cl
      have s7 : ∀ y : Since wr, y.1.frozen? ⟨g, 1, none⟩ = false := fun y => (y.2.frozen hgw.out).trans fl
      have s5 : ∀ (y : Since wr) (i : Nat), y.1.cell? ⟨gt, i, none⟩ = (#[.int .u32 t.e, .int .i64 t.d, .int .u32 t.a, .int .u32 t.b, .int .u32 t.c] : Array Value)[i]? := fun y i => (O.below y.2 O.inside).read i
      clear c0 c1 c2 c3 c4 c5 cl fl
      refine region_since wr (by kernel_rfl) (by kernel_rfl) (Below.refl _ _) ?_
      repeat (go_big_quiet_step (fail))
      refine wpQuiet_nil ?_
      rintro w4 ⟨y, hw⟩
      have O4 := O.below (hw ▸ y.2) O.inside
      have B4 := BB.trans ((hw ▸ y.2 : Below wr.heap.size wr w4).mono BB.size)
      clear hw y s0 s1 s2 s3 s4 s5 s6 s7 O HE
      cases v
      · go_wp2_with fail
        go_roundw
        case rel => exact ⟨k + 1, by omega, by go_num, Lib.hid (more_ne HN.out HX.out HV.out), O4, B4⟩
        case measure => simp [intOf]; omega
      · have E : Hid (countM M t = p.2) := Lib.hid (count_hit HX.out HN.out (eqT_true HV.out))
        have HR4 := Lib.hid (H.out.below B4)
        have cl : w4.cell? ⟨g, 1, none⟩ = some (.slice (some ⟨b, off, none⟩) M.length c) := HR4.out.cells.read 1
        have fl : w4.frozen? ⟨g, 1, none⟩ = false := HR4.out.cells.soft 1
        obtain ⟨b', off', hA, hb', -, -, -, -, -, c5⟩ := HR4.out.pairs.at HX.out
        cases hA
        go_wp2_with fail
        go_ret
        exact ⟨by rw [E.out]; rfl, B4⟩
    · have hkk : k = M.length := by omega
      subst hkk
      have E : Hid (countM M t = 0) := Lib.hid (count_not (by have := HN.out; rwa [List.take_length] at this))
      clear O
      go_wp2_with fail
      go_ret
      exact ⟨by rw [E.out]; rfl, BB⟩
end Go.Proofs.Ytomekndinopoaaa.multi
