/-
  The contract of Copy.
  What works does to a disk, as mathematics.
-/
import Derived.Test.YtfpmcomigolacaaGreatDoorJKa
import Derived.Test.YtfpmcomigolacaaGreatDoorJRt5
import Derived.Test.YtfpmcomigolacaaGreatDoorJKit0
set_option linter.unusedSimpArgs false
set_option linter.unusedVariables false
namespace Go.Proofs.YtfpmcomigolacaaGreatDoor.disk
open Go.ChangeShapes Go.WideShapes Go.ChangeAt Go.RowKit Go.Maps Go.WideMaps
open Go.Proofs.YtfpmcomigolacaaGreatDoor.words Go.Proofs.YtfpmcomigolacaaGreatDoor.opened Go.Proofs.YtfpmcomigolacaaGreatDoor.block Go.Proofs.YtfpmcomigolacaaGreatDoor.region

/-- The files that have come. -/
def comeF (E : List Fe) (left : Lit → Bool) : List Fl := (E.filter fun e => !left (kN e.f.n)).map Fe.f
theorem come_start {es : List (Lit × DataW Nat)} {E : List Fe} (hp : es.Perm (E.map pE)) : comeF E (Maps.has (.map es)) = [] := by
  unfold comeF
  rw [List.filter_eq_nil_iff.2 fun x hx => ?_]
  · rfl
  · rw [has_eq, List.any_eq_true.2 ⟨pE x, hp.mem_iff.2 (List.mem_map.2 ⟨x, hx, rfl⟩), WideAt.sameKey_self (isKN _)⟩]
    simp
theorem come_end {E : List Fe} {left : Lit → Bool} (h : ∀ kl, left kl = false) : comeF E left = E.map Fe.f := by
  unfold comeF
  rw [List.filter_eq_self.2 fun x _ => by rw [h]; rfl]
theorem come_filter : ∀ {E : List Fe} {e : Fe} {left : Lit → Bool}, E.Pairwise (fun x y => x.f.n ≠ y.f.n) → e ∈ E → left (kN e.f.n) = true →
    (E.filter fun x => !(left (kN x.f.n) && !(kN x.f.n).sameKey (kN e.f.n))).Perm (e :: E.filter fun x => !left (kN x.f.n))
  | x :: r, e, left, h, he, hl => by
    obtain ⟨h1, h2⟩ := List.pairwise_cons.1 h
    rcases List.mem_cons.1 he with rfl | he
    · rw [List.filter_cons, List.filter_cons, strike_same, hl]
      simp only [Bool.not_false, if_true, Bool.not_true, Bool.false_eq_true, if_false]
      refine List.Perm.cons _ (List.Perm.of_eq (List.filter_congr fun y hy => ?_))
      rw [strike_other (h1 y hy).symm]
    · have ih := come_filter h2 he hl
      have hne := h1 e he
      rw [List.filter_cons, List.filter_cons, strike_other hne]
      by_cases hx : left (kN x.f.n) = true
      · rw [hx]
        simp only [Bool.not_true, Bool.false_eq_true, if_false]
        exact ih
      · have hx' : left (kN x.f.n) = false := by simpa using hx
        rw [hx']
        simp only [Bool.not_false, if_true]
        exact (ih.cons x).trans (List.Perm.swap _ _ _)
theorem come_step {E : List Fe} {e : Fe} {left : Lit → Bool} {F : List Fl} (h : E.Pairwise (fun x y => x.f.n ≠ y.f.n)) (he : e ∈ E) (hl : left (kN e.f.n) = true) (hF : F.Perm (comeF E left)) : (put e.f F).Perm (comeF E fun z => left z && !z.sameKey (kN e.f.n)) := by
  have hn : lk F e.f.n = none := lk_none.2 fun x hx hxn => by
    obtain ⟨y, hy, rfl⟩ := List.mem_map.1 (hF.mem_iff.1 hx)
    obtain ⟨hy1, hy2⟩ := List.mem_filter.1 hy
    rw [hxn, hl] at hy2
    simp at hy2
  refine (put_perm e.f F).trans ?_
  rw [del_none hn]
  unfold comeF at hF ⊢
  exact (hF.cons e.f).trans ((come_filter h he hl).map Fe.f).symm
theorem srt_same {F H : List Fl} (h : Srt F) (k : Srt H) (p : F.Perm H) : F = H := by
  unfold Srt at h k
  refine List.Perm.eq_of_pairwise (le := fun a b => a.n < b.n) (fun _ _ _ _ h1 h2 => absurd (lt_tr h1 h2) (lt_irr _)) h k p
/-- A copy of a file's bytes, in a row of its own. -/
def RowN (z : Nat) (e : Fe) : Value → World → Prop := fun u w => ∃ A' c', u = .slice A' e.f.b.length c' ∧ RowE w ⟨e.f, A', c'⟩ ∧ ∀ a, A' = some a → z ≤ a.block
def ValN (z : Nat) (e : Fe) : Value → World → Prop := fun u w => ∃ A' c', u = .agg #[.slice A' e.f.b.length c', .int .i64 (e.f.l : Int)] ∧ RowE w ⟨e.f, A', c'⟩ ∧ ∀ a, A' = some a → z ≤ a.block
def PutN (z g mb : Nat) (D : Dk) (E : List Fe) (e : Fe) : Value → World → Prop := fun _ w => ∃ A' c', DiskE w g mb { D with F := put e.f D.F } (putE ⟨e.f, A', c'⟩ E) ∧ ∀ a, A' = some a → z ≤ a.block
theorem RowE.below {w w' : World} {e : Fe} (h : RowE w e) (hb : Below w.heap.size w w') : RowE w' e := h.same fun _ ha => hb.block _ (h.lt ha)
theorem keeps_rowN (z : Nat) (e : Fe) : Keeps (RowN z e) := fun _ _ _ hb ⟨A, c, h1, h2, h3⟩ => ⟨A, c, h1, h2.below hb, h3⟩
theorem keeps_valN (z : Nat) (e : Fe) : Keeps (ValN z e) := fun _ _ _ hb ⟨A, c, h1, h2, h3⟩ => ⟨A, c, h1, h2.below hb, h3⟩
theorem keeps_putN (z g mb : Nat) (D : Dk) (E : List Fe) (e : Fe) : Keeps (PutN z g mb D E e) := fun _ _ _ hb ⟨A, c, h1, h2⟩ => ⟨A, c, h1.below hb, h2⟩
theorem RowE.grown {w w' : World} {e : Fe} {m : Nat} (h : RowE w e) (hg : w.grownBy w' (some m)) (hm : ∀ a, e.A = some a → a.block ≠ m) : RowE w' e := h.same fun a ha => hg.block _ (h.lt ha) (by have := hm a ha; simpa using this)

set_option maxRecDepth 100000 in
set_option maxHeartbeats 8000000 in
theorem copy_any {g mb : Nat} {D : Dk} {E : List Fe} (G : GoodD D) (hF : D.F.length ≤ 1000) (w : World) (h : DiskE w g mb D E) :
    Calls Tryz.prog 45 #[.pointer (some ⟨g, 0, none⟩)] w fun e w' => e = .returned (.pointer (some ⟨w.heap.size + 1, 0, none⟩)) ∧ DiskP w' (fun k => w.heap.size ≤ k) (w.heap.size + 1) D ∧ Below w.heap.size w w' := by
  have hok := Lib.hid h.ok
  have H := Lib.hid h
  have hfs := Lib.hid h.fs
  have hgl := h.cells.inside
  have hml := h.own.lt
  have hmm := @run_makeMap Tryz.prog
  have hLen : Hid (∀ e ∈ E, e.f.b.length ≤ 262144) := Lib.hid (fun e he => G.len (by rw [← h.fs]; exact List.mem_map.2 ⟨e, he, rfl⟩))
  have hSrt := Lib.hid G.srt
  have hNl : Hid (∀ e ∈ E, e.f.n.length ≤ 100000) := Lib.hid (fun e he => by
    have := G.names e.f (by rw [← h.fs]; exact List.mem_map.2 ⟨e, he, rfl⟩)
    unfold nameB at this
    simp at this
    omega)
  have hEl : E.length ≤ 1000 := by rw [h.len]; exact hF
  have c1 : w.cell? ⟨g, 1, none⟩ = some (.bool D.off) := h.cells.read 1
  have c2 : w.cell? ⟨g, 2, none⟩ = some (.int .i64 D.left) := h.cells.read 2
  have B2 := Lib.hid ((((Below.refl w.heap.size w).alloc (Nat.le_refl _) (.map #[] 0)).alloc (by simp) (.cells #[.map (some w.heap.size), .bool D.off, .int .i64 D.left] 64)).drew)
  have N2 : Hid (DiskE ((w.alloc (.map #[] 0)).alloc (.cells #[.map (some w.heap.size), .bool D.off, .int .i64 D.left] 64)).drew (w.heap.size + 1) w.heap.size ⟨[], D.off, D.left⟩ []) := Lib.hid (by
    have W := Whole.fresh (w.alloc (.map #[] 0)) 64 #[.map (some w.heap.size), .bool D.off, .int .i64 D.left]
    have hz : (w.alloc (.map #[] 0)).heap.size = w.heap.size + 1 := by simp
    rw [hz] at W
    exact ⟨rfl, W, (ownF_made w).same ((Below.heap_alloc _ _ _ (by rw [hz]; omega))), fun _ h => (nomatch h), List.Pairwise.nil, by omega, fun _ h => (nomatch h)⟩)
  have S2 : Hid ((((w.alloc (.map #[] 0)).alloc (.cells #[.map (some w.heap.size), .bool D.off, .int .i64 D.left] 64)).drew).heap.size = w.heap.size + 2) := Lib.hid (by simp [World.drew])
  clear h G hF
  go_enter Tryz.func45, Tryz.ntmps45
  go_upto_region 1 with fail
  go_region
  generalize ((w.alloc (.map #[] 0)).alloc (.cells #[.map (some w.heap.size), .bool D.off, .int .i64 D.left] 64)).drew = w2 at B2 N2 S2 ⊢
  clear c1 c2
  have H2 := Lib.hid (H.out.below B2.out)
  obtain ⟨c0, f0⟩ : w2.cell? ⟨g, 0, none⟩ = some (.map (some mb)) ∧ w2.frozen? ⟨g, 0, none⟩ = false := ⟨H2.out.cells.read 0, H2.out.cells.soft 0⟩
  obtain ⟨es, hp, ho2⟩ := H2.out.own
  have ha := Lib.hid (keysF_apart ho2)
  have hP := Lib.hid hp
  have hAp := Lib.hid (names_apart hp (keysF_apart ho2))
  have hcs := Lib.hid (come_start hp)
  clear hp
  go_wp2_with (first | (at_range; refine wpList_range_own _ rfl _ 62 rfl 9 79 keyS Tryz.underlying62 _ mb E.length _ rfl ho2 ?_; intro w0 hrg0 hg0 hs0) | go_in)
  go_frame
  clear c0 f0 ho2
  have hs2 := S2.out
  have N0 := Lib.hid (N2.out.below (⟨hg0.os, hg0.tape, hg0.output, hg0.size, fun k hk => hg0.block k hk (by simp)⟩ : Below w2.heap.size w2 w0))
  have B0 := Lib.hid (B2.out.trans ((⟨hg0.os, hg0.tape, hg0.output, hg0.size, fun k hk => hg0.block k hk (by simp)⟩ : Below w2.heap.size w2 w0).mono B2.out.size))
  have hs0' : w0.heap.size = w.heap.size + 3 := by omega
  generalize hr : w2.heap.size = r at hrg0 ⊢
  have hrr : r = w.heap.size + 2 := by omega
  have HRR := Lib.hid hrr
  clear hr hrr hs2 hs0 hg0 N2 S2
  go_loopw [4, 5] (fun _ _ wr => ∃ (left : Lit → Bool) (cnt : Nat) (F2 : List Fl) (E2 : List Fe), wr.ranges Tryz.prog 9 fileR mb r E.length (.map es) left cnt ∧ Hid (DiskE wr (w.heap.size + 1) w.heap.size ⟨F2, D.off, D.left⟩ E2) ∧ Hid (∀ e ∈ E2, ∀ a, e.A = some a → w.heap.size + 3 ≤ a.block) ∧ Hid (F2.Perm (comeF E left)) ∧ Hid (Srt F2) ∧ Hid (Below w.heap.size w wr) ∧ w.heap.size + 3 ≤ wr.heap.size) (fun _ _ wr => wr.rangeLeft mb r)
  case atStart => exact ⟨_, _, [], [], hrg0, N0, Lib.hid (fun _ h => (nomatch h)), Lib.hid (by rw [hcs.out]), Lib.hid List.Pairwise.nil, B0, by omega⟩
  case round =>
    obtain ⟨left, cnt, F2, E2, hrg, HD, HA, HC, HS, HB, hsz⟩ := hrel
    go_wp2_with (first | (at_next; refine next_files rfl _ rfl mb r E.length hP.out ha.out hok.out left cnt rfl hrg ?_ ?_) | go_in)
    · intro _ hl0
      have HK : Hid (F2 = D.F) := Lib.hid (srt_same HS.out hSrt.out (by have := HC.out; rw [come_end hl0, hfs.out] at this; exact this))
      clear hrg
      go_wp2_with fail
      go_ret
      refine ⟨rfl, ⟨w.heap.size, E2, ?_, fun k hk => ?_⟩, HB.out⟩
      · have := HD.out
        rw [HK.out] at this
        exact this
      · rcases hk with rfl | rfl | ⟨e, he, a, ha', rfl⟩
        · omega
        · exact Nat.le_refl _
        · have := HA.out e he a ha'
          omega
    · intro e hem hlk w1 cnt1 hrg1 hlt hg1 hs1 hen
      have hr1 := Lib.hid hrg1
      have hm1 : Hid (wr.rangeLeft mb r = cnt) := Lib.hid hrg.left_eq
      have hb1 : Below w.heap.size w w1 := HB.out.grown hg1 HB.out.size (fun k e => by cases e; have := HRR.out; omega)
      have hsz1 : w.heap.size + 3 ≤ w1.heap.size := by omega
      have HS2 := Lib.hid (come_step hAp.out hem hlk HC.out)
      have D1 := Lib.hid (HD.out.turn (turn_grown hg1 (S := fun k => k = r) (fun k e => by cases e; rfl)) (fun k hk e => by
        have h0 := HRR.out
        rcases hk with rfl | rfl | ⟨x, hx, a, ha', rfl⟩
        · omega
        · omega
        · have := HA.out x hx a ha'
          omega))
      have hr2 := Lib.hid (hr1.out.alloc (.cells #[.slice e.A e.f.b.length e.c, .int .i64 (e.f.l : Int)] 79))
      have hb2 := Lib.hid (hb1.alloc hb1.size (.cells #[.slice e.A e.f.b.length e.c, .int .i64 (e.f.l : Int)] 79))
      have D2 := Lib.hid (D1.out.below (fresh1' w1 (.cells #[.slice e.A e.f.b.length e.c, .int .i64 (e.f.l : Int)] 79)))
      have OZ := Lib.hid (Whole.fresh w1 79 #[.slice e.A e.f.b.length e.c, .int .i64 (e.f.l : Int)])
      have RE := Lib.hid ((H.out.below hb2.out).rows e hem)
      have hfar := Lib.hid (fun a ha' => (H.out.rows e hem).lt (a := a) ha')
      have hel := hLen.out e hem
      have hcount : Hid (E2.length ≤ 1000000) := Lib.hid (by
        rw [HD.out.len]
        show F2.length ≤ _
        rw [HC.out.length_eq]
        unfold comeF
        rw [List.length_map]
        have : (E.filter fun e => !left (kN e.f.n)).length ≤ E.length := List.length_filter_le _ _
        omega)
      have hnl := Lib.hid (hNl.out e hem)
      have hsz2 : w1.heap.size + 1 = (w1.alloc (.cells #[.slice e.A e.f.b.length e.c, .int .i64 (e.f.l : Int)] 79)).heap.size := by simp
      clear hrg hrg1 hg1 hb1 hs1
      go_upto_region 5 with fail
      generalize (w1.alloc (.cells #[.slice e.A e.f.b.length e.c, .int .i64 (e.f.l : Int)] 79)) = w6 at hr2 hb2 D2 OZ RE hsz2 ⊢
      have hgz : w.heap.size + 3 ≤ w1.heap.size := hsz1
      generalize w1.heap.size = gz at OZ hsz2 hgz ⊢
      clear hen hsz1
      have hgm : gz ≠ w.heap.size := by omega
      have hz6 : w.heap.size + 4 ≤ w6.heap.size := by omega
      refine region_full 39 [] [] (fun k => k == 11) (fun w7 => w6.grownBy w7 (some w.heap.size)) ?hR ?r0 [pdOne 0 (Is (.pointer (some ⟨w.heap.size + 1, 0, none⟩))), pdOne 1 (Is (.pointer (some ⟨w.heap.size + 1, 0, none⟩))), pdOne 2 (Is (.pointer (some ⟨w.heap.size + 1, 0, none⟩))), pdOne 3 (Is (.map (some w.heap.size))), pdOne 4 (Is (sV e.f.n)), pdOne 5 (Is (.pointer (some ⟨gz, 0, none⟩))), pdOne 6 (Is (.slice e.A e.f.b.length e.c)), pdOne 7 (RowN w6.heap.size e), pdOne 8 (Is (.pointer (some ⟨gz, 1, none⟩))), pdOne 9 (Is (.int .i64 (e.f.l : Int))), pdOne 10 (ValN w6.heap.size e), pdOne 11 (PutN w6.heap.size (w.heap.size + 1) w.heap.size ⟨F2, D.off, D.left⟩ E2 e)] (fun _ w7 => Below w6.heap.size w6 w7) (by kernel_rfl) rfl (by kernel_rfl) (by kernel_rfl) (by kernel_rfl) (by kernel_rfl) ?keep ?hO (fun _ _ => Below.refl _ _) ?tell
      case hR => exact fun w7 w8 hb h => only_trans h (only_of_below hb _)
      case r0 => exact ⟨rfl, rfl, rfl, Nat.le_refl _, fun _ _ _ => rfl⟩
      case keep => exact ⟨keep_one (keeps_is _), keep_one (keeps_is _), keep_one (keeps_is _), keep_one (keeps_is _), keep_one (keeps_is _), keep_one (keeps_is _), keep_one (keeps_is _), keep_one (keeps_rowN _ _), keep_one (keeps_is _), keep_one (keeps_is _), keep_one (keeps_valN _ _), keep_one (keeps_putN _ _ _ _ _ _), trivial⟩
      case hO => exact fun _ w7 w8 hb h => then_below h hb
      case tell =>
        intro fin hfin
        simp [lexPut, Act.put] at hfin
        simp only [TellF]
        refine ⟨⟨?_, ?_, ?_, ?_, ?_, ?_, ?_, ?_, ?_, ?_, ?_, ?_, trivial⟩, ?_⟩
        · intro v w7 hr hd
          exact yields_move rfl (by rfl)
        · intro v w7 hr hd
          have h0 : v 0 = _ := hd 0 (by kernel_rfl)
          refine yields_run (u := .pointer (some ⟨w.heap.size + 1, 0, none⟩)) (w' := w7) ?_ (Below.refl _ _) rfl
          unfold execOp
          simp [go_sem, Act.eval, Act.put, h0]
        · intro v w7 hr hd
          have h0 : v 1 = _ := hd 1 (by kernel_rfl)
          refine yields_run (u := .pointer (some ⟨w.heap.size + 1, 0, none⟩)) (w' := w7) ?_ (Below.refl _ _) rfl
          unfold execOp
          simp [go_sem, Act.eval, Act.put, h0]
        · intro v w7 hr hd
          have h0 : v 2 = _ := hd 2 (by kernel_rfl)
          have hc : w7.cell? ⟨w.heap.size + 1, 0, none⟩ = some (.map (some w.heap.size)) := (Whole.grown D2.out.cells hr (by simp)).read 0
          refine yields_run (u := .map (some w.heap.size)) (w' := w7) ?_ (Below.refl _ _) rfl
          unfold execOp
          simp [go_sem, Act.eval, Act.put, h0, hc]
        · intro v w7 hr hd
          exact yields_move rfl (by rfl)
        · intro v w7 hr hd
          refine yields_run (u := .pointer (some ⟨gz, 0, none⟩)) (w' := w7) ?_ (Below.refl _ _) rfl
          unfold execOp
          simp [go_sem, Act.eval, Act.put]
        · intro v w7 hr hd
          have h0 : v 5 = _ := hd 5 (by kernel_rfl)
          have hc : w7.cell? ⟨gz, 0, none⟩ = some (.slice e.A e.f.b.length e.c) := (Whole.grown OZ.out hr (by simpa using hgm)).read 0
          refine yields_run (u := .slice e.A e.f.b.length e.c) (w' := w7) ?_ (Below.refl _ _) rfl
          unfold execOp
          simp [go_sem, Act.eval, Act.put, h0, hc]
        · intro v w7 hr hd
          have h0 : v 6 = _ := hd 6 (by kernel_rfl)
          refine yields_call (f := 74) rfl (vs := #[.slice e.A e.f.b.length e.c]) (by simp [Act.eval, Act.put, h0]) rfl Tryz.func74 (by kernel_rfl) (by kernel_rfl) ?_
          refine (clone_any hel w7 (RE.out.grown hr (fun a ha' => by have := hfar.out a ha'; omega))).mono fun x w8 ⟨A', c', h1, h2, h3, h4⟩ => ⟨_, h1, h3, A', c', rfl, h2, fun a ha' => Nat.le_trans hr.size (h4 a ha')⟩
        · intro v w7 hr hd
          refine yields_run (u := .pointer (some ⟨gz, 1, none⟩)) (w' := w7) ?_ (Below.refl _ _) rfl
          unfold execOp
          simp [go_sem, Act.eval, Act.put]
        · intro v w7 hr hd
          have h0 : v 8 = _ := hd 8 (by kernel_rfl)
          have hc : w7.cell? ⟨gz, 1, none⟩ = some (.int .i64 (e.f.l : Int)) := (Whole.grown OZ.out hr (by simpa using hgm)).read 1
          refine yields_run (u := .int .i64 (e.f.l : Int)) (w' := w7) ?_ (Below.refl _ _) rfl
          unfold execOp
          simp [go_sem, Act.eval, Act.put, h0, hc]
        · intro v w7 hr hd
          obtain ⟨A', c', h7, h2, h3⟩ : RowN w6.heap.size e (v 7) w7 := hd 7 (by kernel_rfl)
          have h9 : v 9 = _ := hd 9 (by kernel_rfl)
          refine yields_run (u := .agg #[.slice A' e.f.b.length c', .int .i64 (e.f.l : Int)]) (w' := w7) ?_ (Below.refl _ _) ⟨A', c', rfl, h2, h3⟩
          unfold execOp
          simp [go_sem, Act.eval, Act.put, h7, h9]
        · intro v w7 hr ho hd
          have h3 : v 3 = _ := hd 3 (by kernel_rfl)
          have h4 : v 4 = _ := hd 4 (by kernel_rfl)
          obtain ⟨A', c', h10, r2, r3⟩ : ValN w6.heap.size e (v 10) w7 := hd 10 (by kernel_rfl)
          have D7 := D2.out.below ho
          obtain ⟨w8, hput, O8, g8, s8⟩ := put_run D7.own hcount.out (e := ⟨e.f, A', c'⟩) r2.ok hnl.out
          have hput' : (Instr.mapUpdate 62 (.map (some w.heap.size)) (sV e.f.n) (.agg #[.slice A' e.f.b.length c', .int .i64 (e.f.l : Int)])).run Tryz.prog w7 = .ok () w8 := hput
          refine .inr ⟨w8, ?_, only_trans (only_of_below ho _) g8, ?_, fun k hne hk => absurd (by simpa using hk) hne, A', c', ?_, r3⟩
          · unfold execOp
            simp [go_sem, Act.eval, Act.put, h3, h4, h10, hput']
          · intro k2 x hk _ hx
            exact match k2, hk, hx with
              | 0, _, hx | 1, _, hx | 2, _, hx | 3, _, hx | 4, _, hx | 5, _, hx | 6, _, hx | 8, _, hx | 9, _, hx => hx
              | 7, _, ⟨A1, c1, q1, q2, q3⟩ => ⟨A1, c1, q1, q2.grown g8 (fun a ha' => by have := q3 a ha'; omega), q3⟩
              | 10, _, ⟨A1, c1, q1, q2, q3⟩ => ⟨A1, c1, q1, q2.grown g8 (fun a ha' => by have := q3 a ha'; omega), q3⟩
              | 11, hk, _ => absurd rfl hk
              | _ + 12, _, _ => trivial
          · refine D7.put (e := ⟨e.f, A', c'⟩) O8 g8 r2 (fun x hx _ a b hxa hb => ?_) (fun a ha' => ?_)
            · have q1 := (D2.out.rows x hx).lt hxa
              have q2 := r3 b hb
              omega
            · have q2 := r3 a ha'
              constructor <;> omega
        · intro v w7 hr hT
          obtain ⟨A', c', P7, P8⟩ : PutN w6.heap.size (w.heap.size + 1) w.heap.size ⟨F2, D.off, D.left⟩ E2 e (v 11) w7 := hT 11 (by simp)
          rw [hfin]
          clear hfin hT
          generalize v 11 = v11
          have HD7 := Lib.hid P7
          have HP8 := Lib.hid P8
          have hsr := hr.size
          have hr7 := Lib.hid (hr2.out.kept hr (by simp; omega) (by have := HRR.out; simp; omega))
          have HB7 := Lib.hid (hb2.out.grown hr hb2.out.size (fun k e => by cases e; exact Nat.le_refl _))
          have HS7 := Lib.hid (srt_put HS.out e.f)
          have HA7 : Hid (∀ x ∈ putE ⟨e.f, A', c'⟩ E2, ∀ a, x.A = some a → w.heap.size + 3 ≤ a.block) := Lib.hid (fun x hx a ha' => by
            rcases mem_putE.1 hx with rfl | ⟨hx, _⟩
            · have := P8 a ha'
              omega
            · exact HA.out x hx a ha')
          clear P7 P8 hr
          go_wp2_with fail
          go_roundw
          case rel => exact ⟨_, cnt1, put e.f F2, _, hr7.out, HD7, HA7, HS2, HS7, HB7, by omega⟩
          case measure => rw [hr7.out.left_eq, hm1.out]; exact hlt
end Go.Proofs.YtfpmcomigolacaaGreatDoor.disk
set_option linter.unusedSimpArgs false
set_option linter.unusedVariables false
namespace Go.Proofs.YtfpmcomigolacaaGreatDoor.disk
open Go.ChangeShapes Go.WideShapes Go.ChangeAt Go.RowKit Go.Maps Go.WideMaps
open Go.Proofs.YtfpmcomigolacaaGreatDoor.words Go.Proofs.YtfpmcomigolacaaGreatDoor.opened Go.Proofs.YtfpmcomigolacaaGreatDoor.block

def K0 : Dk := ⟨[], false, -1⟩
def K1 : Dk := ⟨[⟨[97], [120, 121, 122], 0⟩], false, -1⟩
def K2 : Dk := ⟨[⟨[97], [120, 121, 122], 3⟩], false, -1⟩
def K3 : Dk := ⟨[⟨[97], [120, 121, 122, 117, 118], 3⟩], false, -1⟩
def K4 : Dk := ⟨[⟨[97], [120, 121, 122, 117, 118], 3⟩], false, 1⟩
def K5 : Dk := ⟨[⟨[97], [120, 121, 122, 117, 118], 3⟩, ⟨[98], [119], 0⟩], false, 0⟩
def K6 : Dk := ⟨[⟨[97], [120, 121, 122, 117, 118], 3⟩, ⟨[98], [119], 0⟩], true, 0⟩
def K7 : Dk := ⟨[⟨[97], [120, 121, 122, 117], 4⟩], false, -1⟩
theorem k1 : appV K0 [97] [120, 121, 122] = K1 ∧ appE K0 [97] [120, 121, 122] = 0 := ⟨by kernel_rfl, by kernel_rfl⟩
theorem k2 : synV K1 [97] = K2 ∧ onE K1 [97] = 0 := ⟨by kernel_rfl, by kernel_rfl⟩
theorem k3 : appV K2 [97] [117, 118] = K3 ∧ appE K2 [97] [117, 118] = 0 := ⟨by kernel_rfl, by kernel_rfl⟩
theorem k4 : armV K3 1 = K4 := rfl
theorem k5 : appV K4 [98] [119] = K5 ∧ appE K4 [98] [119] = 0 := ⟨by kernel_rfl, by kernel_rfl⟩
theorem k6 : synV K5 [98] = K6 ∧ onE K5 [98] = 14 := ⟨by kernel_rfl, by kernel_rfl⟩
theorem k7 : mendV K6 [1] = K7 := by kernel_rfl
theorem k8 : readE K6 [97] = 14 ∧ readV K6 [97] = [] := ⟨by kernel_rfl, by kernel_rfl⟩
theorem k9 : readE K7 [97] = 0 ∧ readV K7 [97] = [120, 121, 122, 117] ∧ oldL K7.F [97] = 4 := ⟨by kernel_rfl, by kernel_rfl, by kernel_rfl⟩
theorem k10 : appV K7 [] [120] = K7 ∧ appE K7 [] [120] = 6 ∧ onE K7 [98] = 3 := ⟨by kernel_rfl, by kernel_rfl, by kernel_rfl⟩
theorem g0 : GoodD K0 := good_new
theorem g1 : GoodD K1 := k1.1 ▸ good_app g0 _ _
theorem g2 : GoodD K2 := k2.1 ▸ good_syn g1 _
theorem g3 : GoodD K3 := k3.1 ▸ good_app g2 _ _
theorem g4 : GoodD K4 := k4 ▸ good_arm g3 (by omega) (by omega)
theorem g5 : GoodD K5 := k5.1 ▸ good_app g4 _ _
theorem g6 : GoodD K6 := k6.1 ▸ good_syn g5 _
theorem g7 : GoodD K7 := k7 ▸ good_mend g6 _

/-! ### The contracts, for a disk that lies above B -/
def DiskB (w : World) (B g : Nat) (D : Dk) : Prop := DiskP w (fun k => B ≤ k) g D
theorem DiskB.below {w w' : World} {B g : Nat} {D : Dk} (h : DiskB w B g D) (hb : Below w.heap.size w w') : DiskB w' B g D := DiskP.below h hb
theorem up {w w' w'' : World} {B g : Nat} {D : Dk} {S : Nat → Prop} (hB : B ≤ w.heap.size) (h : DiskP w' (More w S) g D) (hS : ∀ k, S k → B ≤ k) (ht : Turn w w'' S) : DiskB w' B g D ∧ Below B w w'' :=
  ⟨h.wide fun k hk => by
    rcases hk with hk | hk
    · exact hS k hk
    · omega, ht.below hB hS⟩
section
variable {B g : Nat} {D : Dk} {w : World}
theorem newB (w : World) (B : Nat) (hB : B ≤ w.heap.size) : Calls Tryz.prog 8 #[] w fun e w' => e = .returned (.pointer (some ⟨w.heap.size + 1, 0, none⟩)) ∧ DiskB w' B (w.heap.size + 1) K0 ∧ Below B w w' :=
  (new_any w).mono fun _ _ ⟨h1, h2, h3⟩ => ⟨h1, ⟨_, _, h2, fun k hk => by
    rcases hk with rfl | rfl | ⟨x, hx, -⟩
    · omega
    · exact hB
    · cases hx⟩, h3.mono hB⟩
theorem appendB (G : GoodD D) (hF : D.F.length ≤ 1000) (n s : Bs) (hn : n.length ≤ 100000) (hs : s.length ≤ 100000) (hB : B ≤ w.heap.size) (h : DiskB w B g D) :
    Calls Tryz.prog 66 #[.pointer (some ⟨g, 0, none⟩), sV n, sV s] w fun e w' => e = .returned (.int .i64 (appE D n s)) ∧ DiskB w' B g (appV D n s) ∧ Below B w w' :=
  (append_any G hF n s hn hs w h).mono fun _ _ ⟨h1, h2, h3⟩ => ⟨h1, up hB h2 (fun _ hk => hk) h3⟩
theorem syncB (G : GoodD D) (hF : D.F.length ≤ 1000) (n : Bs) (hn : n.length ≤ 100000) (hB : B ≤ w.heap.size) (h : DiskB w B g D) :
    Calls Tryz.prog 69 #[.pointer (some ⟨g, 0, none⟩), sV n] w fun e w' => e = .returned (.int .i64 (onE D n)) ∧ DiskB w' B g (synV D n) ∧ Below B w w' :=
  (sync_any G hF n hn w h).mono fun _ _ ⟨h1, h2, h3⟩ => ⟨h1, up hB h2 (fun _ hk => hk) h3⟩
theorem removeB (G : GoodD D) (n : Bs) (hn : n.length ≤ 100000) (hB : B ≤ w.heap.size) (h : DiskB w B g D) :
    Calls Tryz.prog 35 #[.pointer (some ⟨g, 0, none⟩), sV n] w fun e w' => e = .returned (.int .i64 (onE D n)) ∧ DiskB w' B g (remV D n) ∧ Below B w w' :=
  (remove_any G n hn w h).mono fun _ _ ⟨h1, h2, h3⟩ => ⟨h1, up hB h2 (fun _ hk => hk) h3⟩
theorem armB (n : Int) (hB : B ≤ w.heap.size) (h : DiskB w B g D) :
    Calls Tryz.prog 14 #[.pointer (some ⟨g, 0, none⟩), .int .i64 n] w fun e w' => e = .returned (.tuple #[]) ∧ DiskB w' B g (armV D n) ∧ Below B w w' := by
  obtain ⟨mb, E, h1, h2⟩ := h
  exact (arm_any n w h1).mono fun _ _ ⟨e1, e2, e3, _⟩ => ⟨e1, ⟨mb, E, e2, h2⟩, (Below.refl B w).grown e3 hB (fun k ek => by cases ek; exact h2 g (.inl rfl))⟩
theorem readB' (n : Bs) (hn : n.length ≤ 100000) (h : DiskB w B g D) :
    Calls Tryz.prog 58 #[.pointer (some ⟨g, 0, none⟩), sV n] w fun e w' => e = .returned (.tuple #[sV (readV D n), .int .i64 (readE D n)]) ∧ Below w.heap.size w w' := by
  obtain ⟨mb, E, h1, h2⟩ := h
  exact read_any n hn w h1
theorem lastsB (n : Bs) (hn : n.length ≤ 100000) (h : DiskB w B g D) :
    Calls Tryz.prog 68 #[.pointer (some ⟨g, 0, none⟩), sV n] w fun e w' => e = .returned (.int .i64 (oldL D.F n : Int)) ∧ w = w' := by
  obtain ⟨mb, E, h1, h2⟩ := h
  exact lasts_any n hn w h1
theorem downB (h : DiskB w B g D) : Calls Tryz.prog 51 #[.pointer (some ⟨g, 0, none⟩)] w fun e w' => e = .returned (.bool D.off) ∧ w = w' := by
  obtain ⟨mb, E, h1, h2⟩ := h
  exact down_any w h1
theorem namesB (G : GoodD D) (hF : D.F.length ≤ 1000) (h : DiskB w B g D) :
    Calls Tryz.prog 42 #[.pointer (some ⟨g, 0, none⟩)] w fun e w' => ∃ A c, e = .returned (.slice A (D.F.map Fl.n).length c) ∧ OwnS w' w.heap.size (.slice A (D.F.map Fl.n).length c) (D.F.map Fl.n) ∧ Below w.heap.size w w' := by
  obtain ⟨mb, E, h1, h2⟩ := h
  exact names_any G hF w h1
/-- Mend by a row that is newer than w0. -/
theorem mendB {w0 : World} (G : GoodD D) (hF : D.F.length ≤ 1000) (K : Option Addr) (kc : Nat) (keep : List Int) (hk : ∀ x ∈ keep, x ≤ 9223372036854775807) (hkl : keep.length ≤ 100000) (hB : B ≤ w0.heap.size) (h : DiskB w0 B g D) (hb : Below w0.heap.size w0 w) (hK : Lies w K (keep.map (Value.int .i64))) (hKn : ∀ a, K = some a → w0.heap.size ≤ a.block) :
    Calls Tryz.prog 15 #[.pointer (some ⟨g, 0, none⟩), .slice K keep.length kc] w fun e w' => e = .returned (.tuple #[]) ∧ DiskB w' B g (mendV D keep) ∧ Below B w w' := by
  have h1 : DiskP w0 (fun k => B ≤ k ∧ k < w0.heap.size) g D := by
    obtain ⟨mb, E, h1, h2⟩ := h
    exact ⟨mb, E, h1, fun k hk => ⟨h2 k hk, h1.inside hk⟩⟩
  exact (mend_any G hF K kc keep hk hkl w (h1.below hb) hK (fun a ha hh => by have := hKn a ha; omega)).mono fun _ _ ⟨e1, e2, e3⟩ => ⟨e1, up (Nat.le_trans hB hb.size) e2 (fun _ hk => hk.1) e3⟩
theorem copyB (G : GoodD D) (hF : D.F.length ≤ 1000) (h : DiskB w B g D) :
    Calls Tryz.prog 45 #[.pointer (some ⟨g, 0, none⟩)] w fun e w' => e = .returned (.pointer (some ⟨w.heap.size + 1, 0, none⟩)) ∧ DiskB w' w.heap.size (w.heap.size + 1) D ∧ Below w.heap.size w w' := by
  obtain ⟨mb, E, h1, h2⟩ := h
  exact copy_any G hF w h1
end
end Go.Proofs.YtfpmcomigolacaaGreatDoor.disk
