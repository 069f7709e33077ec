/-
  The contract of the document's Remove.
-/
import Derived.Test.YtkfjgmfokpgcbaaJRk5
import Derived.Test.YtkfjgmfokpgcbaaJRt7
set_option linter.unusedSimpArgs false
set_option linter.unusedVariables false
namespace Go.Proofs.Ytkfjgmfokpgcbaa.disk
open Go.ChangeShapes Go.WideShapes Go.ChangeAt Go.RowKit
open Go.Proofs.Ytkfjgmfokpgcbaa.words Go.Proofs.Ytkfjgmfokpgcbaa.opened Go.Proofs.Ytkfjgmfokpgcbaa.block Go.Proofs.Ytkfjgmfokpgcbaa.data Go.Proofs.Ytkfjgmfokpgcbaa.region

/-- What holds throughout: of what was there nothing has turned but block g. -/
def OnlyG (w0 : World) (g : Nat) (w : World) : Prop := Turn w0 w (fun k => k = g)
theorem OnlyG.below {w0 w w' : World} {g : Nat} (h : OnlyG w0 g w) (hb : Below w.heap.size w w') : OnlyG w0 g w' := Turn.trans h (turn_below hb (fun _ => False)) (fun _ hf => hf.elim)
theorem OnlyG.own {w0 w w' : World} {g : Nat} {row : Option Nat} (h : OnlyG w0 g w) (hg : w.grownBy w' row) (hr : ∀ k, row = some k → w0.heap.size ≤ k) : OnlyG w0 g w' := Turn.trans h (turn_grown hg (S := fun k => w0.heap.size ≤ k) hr) (fun _ hk => .inr hk)
theorem OnlyG.set {w0 w : World} {g : Nat} (h : OnlyG w0 g w) (v : Value) : OnlyG w0 g (w.setCell ⟨g, 0, none⟩ v) := Turn.trans h (turn_grown (only_store (grown0 w g) _) (S := fun k => k = g) (fun k e => by cases e; rfl)) (fun _ hk => .inl hk)
theorem Lf.only {w0 w : World} {g : Nat} {A : Option Addr} {F : List Fl} (h : Lf w0 A F) (hw : OnlyG w0 g w) (hA : ∀ a, A = some a → a.block ≠ g) : Lf w A F := by
  rcases h with h | ⟨b, off, hA2, hb, hc⟩
  · exact .inl h
  · have hbb := hw.block b hb (hA _ hA2)
    exact .inr ⟨b, off, hA2, Nat.lt_of_lt_of_le hb hw.size, fun i x hx => ⟨(hc i x hx).1, fun j hj => (World.cell?_of_block (w := w0) (w' := w) (a := ⟨b, off + (i * 3 + j), none⟩) hbb).trans ((hc i x hx).2 j hj)⟩⟩
def CellsG (g : Nat) (V : Value) (D : Dk) (n : Int) (w : World) : Prop := Whole w g 28 #[V, .bool (decide (0 ≤ D.left)), .int .i64 n, .bool D.off]
def DoneG (z g : Nat) (D : Dk) (n : Int) : Value → World → Prop := fun _ w => ∃ V, RefE w g D V n ∧ ∀ k, V.ownBlock = some k → z ≤ k
theorem keeps_doneG (z g : Nat) (D : Dk) (n : Int) : Keeps (DoneG z g D n) := fun _ _ _ hb ⟨V, h1, h2⟩ => ⟨V, h1.below hb, h2⟩
set_option maxRecDepth 100000 in
set_option maxHeartbeats 4000000 in
theorem removeR_any {S : Nat → Prop} {g : Nat} {D : Dk} (G : GoodD D) (hF : D.F.length ≤ 100000) (n : Bs) (w : World) (h : RefP w S g D) :
    Calls Try.prog 14 #[.pointer (some ⟨g, 0, none⟩), sV n] w fun e w' => e = .returned (.int .i64 (onE D n)) ∧ RefP w' (More w S) g (remV D n) ∧ Turn w w' S := by
  obtain ⟨V, n0, h, hSg, hS⟩ := h
  have AH := Lib.hid (ahead_any n w h)
  have PL := Lib.hid (fun W (b : Below w.heap.size w W) => place_any hF n W (h.below b))
  have ST := Lib.hid (fun W (b : Below w.heap.size w W) => stepR_any G.hi W (h.below b))
  have HB := Lib.hid (fun W (b : Below w.heap.size w W) => h.below b)
  clear h
  by_cases hc : chk D n = 0
  · rw [hc] at AH
    cases hk : lk D.F n with
    | none =>
      obtain ⟨e1, -, -, e2⟩ := on_none hc hk
      rw [e1, e2]
      rw [pl_none hk] at PL
      have HR := Lib.hid (fun W b => (⟨V, n0, HB.out W b, .inl hSg, fun k e => .inl (hS k e)⟩ : RefP W (More w S) g D))
      clear hc hk e1 e2 ST HB hSg hS
      go_enter Try.func14, Try.ntmps14
      go_wp2_with (first
        | (go_at_call 35; refine (PL.out _ B1.out).mono ?_; rintro e w2 ⟨rfl, rfl⟩)
        | (go_at_call 33; refine AH.out.mono ?_; rintro e w1 ⟨rfl, b1⟩; have B1 := Lib.hid b1; clear b1))
      go_ret
      exact ⟨rfl, HR.out _ B1.out, turn_below B1.out _⟩
    | some f =>
      obtain ⟨e1, e2⟩ := on_some hc hk
      obtain ⟨P, R, hs, hfn, -, hp⟩ := lk_split hk
      rw [hp] at PL
      have hln := G.len (f := f) (by rw [hs]; simp)
      have hlt : P.length < D.F.length := by rw [hs]; simp
      have hFl := hF
      have hnn : ¬ ((P.length : Nat) : Int) < 0 := by omega
      have hsv : (stpV D).F = P ++ f :: R := by rw [stpV_F]; exact hs
      rcases stp_two D with hz | hz
      · have e3 : remV D n = { stpV D with F := P ++ R } := by
          unfold remV
          rw [e1, if_pos hz, ← hfn, hs, del_mid (A := P) (R := R) (f := f) (hs ▸ G.srt)]
        rw [e1, hz, e3]
        rw [hz] at ST
        have HFL : Hid ((stpV D).F = D.F) := Lib.hid (stpV_F D)
        have hle : D.F.length = P.length + 1 + R.length := by rw [hs]; simp; omega
        have HLE : Hid (P.length + R.length ≤ 100000) := Lib.hid (by omega)
        have HSP := Lib.hid hs
        obtain ⟨U, hU⟩ : ∃ U, U = P := ⟨_, rfl⟩
        subst hU
        have hw1 : IntKind.i64.wrap ((U.length : Int) + 1) = (U.length : Int) + 1 := by rw [IntKind.wrap_i64]; omega
        obtain ⟨D2, hD2⟩ : ∃ D2 : Dk, D2 = { stpV D with F := U ++ R } := ⟨_, rfl⟩
        have HD2 : Hid (D2.F = U ++ R ∧ D2.left = (stpV D).left ∧ D2.off = (stpV D).off) := Lib.hid (by rw [hD2]; exact ⟨rfl, rfl, rfl⟩)
        rw [← hD2]
        clear e1 e2 e3 hsv hz hc hk hp hs hD2
        go_enter Try.func14, Try.ntmps14
        go_upto_region 8 with (first
          | (go_at_call 34; refine (ST.out _ B1.out).mono ?_; rintro e w3 ⟨rfl, ⟨n1, h1⟩, g1, s1⟩; have H1 := Lib.hid h1; have G1 := Lib.hid g1; clear h1 g1 s1)
          | (go_at_call 35; refine (PL.out _ B1.out).mono ?_; rintro e w2 ⟨rfl, rfl⟩)
          | (go_at_call 33; refine AH.out.mono ?_; rintro e w1 ⟨rfl, b1⟩; have B1 := Lib.hid b1; clear b1))
        obtain ⟨i0, hi0, hz0, hz1, hz2⟩ := infoF_parts
        obtain ⟨A, c, hV, -, -⟩ := H1.out.own.shape
        rw [HFL.out] at hV
        have hcl : D.F.length ≤ c := by have := H1.out.own; rw [hV, HFL.out] at this; exact this.room
        have hpre := fun W => run_pre A D.F.length c U.length (by omega) W
        have hsuf : ∀ W, (Instr.slice 26 (.slice A D.F.length c) (some (.int .i64 ((U.length : Int) + 1))) none none).run Try.prog W = .ok (.slice (suf A (U.length + 1) c) R.length (c - (U.length + 1))) W := fun W => run_suf A D.F.length c (U.length + 1) R.length (by omega) (by omega) W
        have HLf0 : Hid (Lf w3 A D.F) := Lib.hid (by have := H1.out.own; rw [hV, HFL.out] at this; exact OwnG.lg cellsF this)
        have HAg : Hid (∀ a, A = some a → a.block ≠ g) := Lib.hid (fun a e e2 => H1.out.far (by rw [hV, e, ← e2]; rfl))
        have HGL : Hid (g < w3.heap.size) := Lib.hid H1.out.cells.inside
        have HLFT : Hid (0 ≤ D2.left → n1 = D2.left) := Lib.hid (by rw [HD2.out.2.1]; exact H1.out.left)
        have HLf : Hid (Lf w3 A (U ++ (f :: R))) := Lib.hid (by rw [← HSP.out]; exact HLf0.out)
        have HSF : Hid (∀ W, OnlyG w3 g W → Lf W (suf A (U.length + 1) c) R) := Lib.hid (fun W b => by
          have h1 := Lf.only HLf0.out b HAg.out
          rw [HSP.out, show U ++ f :: R = (U ++ [f]) ++ R by simp] at h1
          have := lf_suf (c := c) h1 (by rw [← show U ++ f :: R = (U ++ [f]) ++ R by simp, ← HSP.out]; exact hcl)
          simpa using this)
        have HC0 : Hid (CellsG g (.slice A D.F.length c) (stpV D) n1 w3) := Lib.hid (by have := H1.out.cells; rw [hV] at this; exact this)
        refine region_fullZ 45 [(16, 19), (16, 8), (16, 1)] [(19, 5), (19, 12), (19, 16), (16, 5), (16, 12)] [(16, 8), (16, 1)] (fun k => k == 5 || k == 12 || k == 16 || k == 19) (OnlyG w3 g) ?hR ?r0 [pdOne 0 (Is (.pointer (some ⟨g, 0, none⟩))), pdOne 1 (EmptyF w3.heap.size), pdOne 2 (Is (.pointer (some ⟨g, 0, none⟩))), pdOne 3 (Is (.pointer (some ⟨g, 0, none⟩))), pdOne 4 (Is (.pointer (some ⟨g, 0, none⟩))), pdOne 5 (Is (.slice A D.F.length c)), pdOne 6 (Is (.int .i64 (U.length : Int))), pdOne 7 (Is (.slice A U.length c)), pdOne 8 (RowF w3.heap.size U), pdOne 9 (Is (.pointer (some ⟨g, 0, none⟩))), pdOne 10 (Is (.pointer (some ⟨g, 0, none⟩))), pdOne 11 (Is (.pointer (some ⟨g, 0, none⟩))), pdOne 12 (Is (.slice A D.F.length c)), pdOne 13 (Is (.int .i64 (U.length : Int))), pdOne 14 (Is (.int .i64 ((U.length : Int) + 1))), pdOne 15 (Is (.slice (suf A (U.length + 1) c) R.length (c - (U.length + 1)))), pdOne 16 (RowF w3.heap.size (U ++ R)), pdOne 17 (Is (.pointer (some ⟨g, 0, none⟩))), pdOne 18 (Is (.pointer (some ⟨g, 0, none⟩))), pdOne 19 (DoneG w3.heap.size g D2 n1)] (fun _ w7 => CellsG g (.slice A D.F.length c) (stpV D) n1 w7) (by kernel_rfl) rfl (by kernel_rfl) (by kernel_rfl) (by kernel_rfl) (by kernel_rfl) (by kernel_rfl) ?keep ?hO ?h0 ?tell
        case hR => exact fun wa wb hb h => OnlyG.below h hb
        case r0 => exact Turn.refl _ _
        case keep => exact ⟨keep_one (keeps_is _), keep_one (keeps_emptyF _), keep_one (keeps_is _), keep_one (keeps_is _), keep_one (keeps_is _), keep_one (keeps_is _), keep_one (keeps_is _), keep_one (keeps_is _), keep_one (keeps_rowF _ _), keep_one (keeps_is _), keep_one (keeps_is _), keep_one (keeps_is _), keep_one (keeps_is _), keep_one (keeps_is _), keep_one (keeps_is _), keep_one (keeps_is _), keep_one (keeps_rowF _ _), keep_one (keeps_is _), keep_one (keeps_is _), keep_one (keeps_doneG _ _ _ _), trivial⟩
        case hO => exact fun _ wa wb hb h => Whole.below h hb (Whole.inside h)
        case h0 => exact fun _ _ => HC0.out
        case tell =>
          intro fin hfin
          simp [lexPut, Act.put] at hfin
          simp only [TellZ]
          refine ⟨⟨?_, ?_, ?_, ?_, ?_, ?_, ?_, ?_, ?_, ?_, ?_, ?_, ?_, ?_, ?_, ?_, ?_, ?_, ?_, ?_, trivial⟩, ?_⟩
          · intro v2 w7 hr hd
            refine ⟨by intro j b e; simp at e, ?_⟩
            refine yields_run (u := .pointer (some ⟨g, 0, none⟩)) (w' := w7) ?_ (Below.refl _ _) rfl
            unfold execOp
            simp [go_sem, Act.eval, Act.put]
          · intro v2 w7 hr hd
            refine ⟨by intro j b e; simp at e, ?_⟩
            refine yields_run (u := .slice (some ⟨w7.heap.size, 0, none⟩) 0 0) (w' := w7.alloc (.cells #[] 61)) ?_ (fresh0 w7 _) ⟨w7.heap.size, rfl, hr.size, ownF0 _ _ hr.size⟩
            unfold execOp
            simp [go_sem, Act.eval, Act.put]
          · intro v2 w7 hr hd
            refine ⟨by intro j b e; simp at e, ?_⟩
            refine yields_run (u := .pointer (some ⟨g, 0, none⟩)) (w' := w7) ?_ (Below.refl _ _) rfl
            unfold execOp
            simp [go_sem, Act.eval, Act.put]
          · intro v2 w7 hr hd
            refine ⟨by intro j b e; simp at e, ?_⟩
            have h2 : v2 2 = _ := hd 2 (by kernel_rfl)
            refine yields_run (u := .pointer (some ⟨g, 0, none⟩)) (w' := w7) ?_ (Below.refl _ _) rfl
            unfold execOp
            simp [go_sem, Act.eval, Act.put, h2]
          · intro v2 w7 hr hd
            refine ⟨by intro j b e; simp at e, ?_⟩
            have h3 : v2 3 = _ := hd 3 (by kernel_rfl)
            refine yields_run (u := .pointer (some ⟨g, 0, none⟩)) (w' := w7) ?_ (Below.refl _ _) rfl
            unfold execOp
            simp [go_sem, Act.eval, Act.put, h3]
          · intro v2 w7 hr ho hd
            refine ⟨by intro j b e; simp at e, ?_⟩
            have h4 : v2 4 = _ := hd 4 (by kernel_rfl)
            have hc : w7.cell? ⟨g, 0, none⟩ = some (.slice A D.F.length c) := Whole.read ho 0
            refine .inl (.inl ⟨.slice A D.F.length c, w7, ?_, hr, fun _ _ _ _ hu => hu, fun _ _ _ _ hu => hu, rfl⟩)
            unfold execOp
            simp [go_sem, Act.eval, Act.put, h4, hc]
          · intro v2 w7 hr hd
            refine ⟨by intro j b e; simp at e, ?_⟩
            refine yields_run (u := .int .i64 (U.length : Int)) (w' := w7) ?_ (Below.refl _ _) rfl
            unfold execOp
            simp [go_sem, Act.eval, Act.put]
          · intro v2 w7 hr hd
            refine ⟨by intro j b e; simp at e, ?_⟩
            have h5 : v2 5 = _ := hd 5 (by kernel_rfl)
            have h6 : v2 6 = _ := hd 6 (by kernel_rfl)
            refine yields_run (u := .slice A U.length c) (w' := w7) ?_ (Below.refl _ _) rfl
            unfold execOp
            simp [go_sem, Act.eval, Act.put, h5, h6, hpre]
          · intro v2 w7 hr hd
            refine ⟨by intro j b e; simp at e, ?_⟩
            have h7 : v2 7 = _ := hd 7 (by kernel_rfl)
            obtain ⟨b4, h1, z4, o4⟩ : EmptyF w3.heap.size (v2 1) w7 := hd 1 (by kernel_rfl)
            refine yields_copied (.tmp 26) (.tmp 32) 26 rfl 61 i0 (.agg #[.string ByteArray.empty, .string ByteArray.empty, .int .i64 0]) 3 40 Try.underlying26 hi0 hz0 hz1 hz2 rfl (by decide) ⟨b4, 0, none⟩ (by simp [Act.eval, Act.put, h1]) A U.length c (U.flatMap cF) (by simp [Act.eval, Act.put, h7]) (flatG_len cellsF _) (fun hn => flat0F (lf_pre (Lf.only HLf.out hr HAg.out)) (fun e => hn (by rw [e]; rfl))) (by have := HLE.out; unfold maxLen; omega) (by have := HLE.out; omega) (fun h0 => ⟨some ⟨b4, 0, none⟩, 0, by rw [h0]; rfl, by rw [List.eq_nil_of_length_eq_zero h0]; exact o4⟩) ?_
            intro hn v' w' hown _
            obtain ⟨B, c', rfl, -, -⟩ := OwnG.shape (N := U) (m := 3) (f := cF) (T := 61) hown
            exact ⟨B, c', rfl, OwnG.low hown hr.size⟩
          · intro v2 w7 hr hd
            refine ⟨by intro j b e; simp at e, ?_⟩
            refine yields_run (u := .pointer (some ⟨g, 0, none⟩)) (w' := w7) ?_ (Below.refl _ _) rfl
            unfold execOp
            simp [go_sem, Act.eval, Act.put]
          · intro v2 w7 hr hd
            refine ⟨by intro j b e; simp at e, ?_⟩
            have h9 : v2 9 = _ := hd 9 (by kernel_rfl)
            refine yields_run (u := .pointer (some ⟨g, 0, none⟩)) (w' := w7) ?_ (Below.refl _ _) rfl
            unfold execOp
            simp [go_sem, Act.eval, Act.put, h9]
          · intro v2 w7 hr hd
            refine ⟨by intro j b e; simp at e, ?_⟩
            have h10 : v2 10 = _ := hd 10 (by kernel_rfl)
            refine yields_run (u := .pointer (some ⟨g, 0, none⟩)) (w' := w7) ?_ (Below.refl _ _) rfl
            unfold execOp
            simp [go_sem, Act.eval, Act.put, h10]
          · intro v2 w7 hr ho hd
            refine ⟨by intro j b e; simp at e, ?_⟩
            have h11 : v2 11 = _ := hd 11 (by kernel_rfl)
            have hc : w7.cell? ⟨g, 0, none⟩ = some (.slice A D.F.length c) := Whole.read ho 0
            refine .inl (.inl ⟨.slice A D.F.length c, w7, ?_, hr, fun _ _ _ _ hu => hu, fun _ _ _ _ hu => hu, rfl⟩)
            unfold execOp
            simp [go_sem, Act.eval, Act.put, h11, hc]
          · intro v2 w7 hr hd
            refine ⟨by intro j b e; simp at e, ?_⟩
            refine yields_run (u := .int .i64 (U.length : Int)) (w' := w7) ?_ (Below.refl _ _) rfl
            unfold execOp
            simp [go_sem, Act.eval, Act.put]
          · intro v2 w7 hr hd
            refine ⟨by intro j b e; simp at e, ?_⟩
            have h13 : v2 13 = _ := hd 13 (by kernel_rfl)
            refine yields_run (u := .int .i64 ((U.length : Int) + 1)) (w' := w7) ?_ (Below.refl _ _) rfl
            unfold execOp
            simp [go_sem, Act.eval, Act.put, h13, hw1]
          · intro v2 w7 hr hd
            refine ⟨by intro j b e; simp at e, ?_⟩
            have h12 : v2 12 = _ := hd 12 (by kernel_rfl)
            have h14 : v2 14 = _ := hd 14 (by kernel_rfl)
            refine yields_run (u := .slice (suf A (U.length + 1) c) R.length (c - (U.length + 1))) (w' := w7) ?_ (Below.refl _ _) rfl
            unfold execOp
            simp [go_sem, Act.eval, Act.put, h12, h14, hsuf]
          · intro v2 w7 hr ho hd
            refine ⟨by intro j b e; simp at e, ?_⟩
            obtain ⟨V7, cap7, h8, hown⟩ : RowF w3.heap.size U (v2 8) w7 := hd 8 (by kernel_rfl)
            have h15 : v2 15 = _ := hd 15 (by kernel_rfl)
            refine .inl (yields_append_row (T := 61) cellsF (by decide) (.tmp 33) (.tmp 40) 26 rfl w3.heap.size i0 (.agg #[.string ByteArray.empty, .string ByteArray.empty, .int .i64 0]) 40 Try.underlying26 hi0 hz0 hz1 hz2 rfl (A := suf A (U.length + 1) c) (c := c - (U.length + 1)) (N := U) (M := R) (by simp [Act.eval, Act.put, h8]) (by simp [Act.eval, Act.put, h15]) hown (HSF.out w7 hr) (by have := HLE.out; unfold maxLen; omega) (by have := HLE.out; omega) hr.size ?_)
            intro B8 cap8 w8 hown8 hgrow hat
            have hgs : ∀ j, (Value.slice V7 U.length cap7).ownBlock = some j → w3.heap.size ≤ j := fun j hj => (hown.lt j hj).1
            refine ⟨hr.own hgrow hgs, ?_, ?_, B8, cap8, rfl, hown8⟩
            · intro k2 v' hk2 hc hu
              exact match k2, hk2, hc, hu with
                | 0, _, _, hu => hu
                | 1, _, hc, _ => absurd hc (by decide)
                | 2, _, _, hu => hu
                | 3, _, _, hu => hu
                | 4, _, _, hu => hu
                | 5, _, _, hu => hu
                | 6, _, _, hu => hu
                | 7, _, _, hu => hu
                | 8, _, hc, _ => absurd hc (by decide)
                | 9, _, _, hu => hu
                | 10, _, _, hu => hu
                | 11, _, _, hu => hu
                | 12, _, _, hu => hu
                | 13, _, _, hu => hu
                | 14, _, _, hu => hu
                | 15, _, _, hu => hu
                | 16, hk2, _, _ => absurd rfl hk2
                | 17, _, _, hu => hu
                | 18, _, _, hu => hu
                | 19, _, hc, _ => absurd hc (by decide)
                | _ + 20, _, _, _ => trivial
            · intro k2 hk2 hn hc2 h
              have hgn : some g ≠ (Value.slice V7 U.length cap7).ownBlock := fun e => by have := hgs g e.symm; have := HGL.out; omega
              exact match k2, hk2, hc2, h with
                | 19, _, _, h => Whole.grown h hgrow hgn
                | 5, _, hc, _ => absurd hc (by decide)
                | 12, _, hc, _ => absurd hc (by decide)
                | 16, hk2, _, _ => absurd rfl hk2
                | 0, _, _, h | 1, _, _, h | 2, _, _, h | 3, _, _, h | 4, _, _, h | 6, _, _, h | 7, _, _, h | 8, _, _, h | 9, _, _, h | 10, _, _, h | 11, _, _, h | 13, _, _, h | 14, _, _, h | 15, _, _, h | 17, _, _, h | 18, _, _, h => Whole.grown h hgrow hgn
                | _ + 20, _, _, h => Whole.grown h hgrow hgn
          · intro v2 w7 hr hd
            refine ⟨by intro j b e; simp at e, ?_⟩
            have h0 : v2 0 = _ := hd 0 (by kernel_rfl)
            refine yields_run (u := .pointer (some ⟨g, 0, none⟩)) (w' := w7) ?_ (Below.refl _ _) rfl
            unfold execOp
            simp [go_sem, Act.eval, Act.put, h0]
          · intro v2 w7 hr hd
            refine ⟨by intro j b e; simp at e, ?_⟩
            have h17 : v2 17 = _ := hd 17 (by kernel_rfl)
            refine yields_run (u := .pointer (some ⟨g, 0, none⟩)) (w' := w7) ?_ (Below.refl _ _) rfl
            unfold execOp
            simp [go_sem, Act.eval, Act.put, h17]
          · intro v2 w7 hr ho hd
            refine ⟨by intro j b e; simp at e, ?_⟩
            obtain ⟨B8, c8, h16, hown⟩ : RowF w3.heap.size (U ++ R) (v2 16) w7 := hd 16 (by kernel_rfl)
            have h18 : v2 18 = _ := hd 18 (by kernel_rfl)
            have hgs : w7.grownBy (w7.setCell ⟨g, 0, none⟩ (.slice B8 (U ++ R).length c8)) (some g) := only_store (grown0 w7 g) _
            have hgl := HGL.out
            have hc0 : w7.cell? ⟨g, 0, none⟩ = some (.slice A D.F.length c) := Whole.read ho 0
            have hf0 : w7.frozen? ⟨g, 0, none⟩ = false := Whole.soft ho 0
            refine .inr ⟨w7.setCell ⟨g, 0, none⟩ (.slice B8 (U ++ R).length c8), ?_, OnlyG.set hr _, ?_, ?_, .slice B8 (U ++ R).length c8, ?_, fun k e => (hown.lt k e).1⟩
            · unfold execOp
              simp [go_sem, Act.eval, Act.put, h16, h18, hc0, hf0]
            · intro k2 v' hk2 hc hu
              exact match k2, hk2, hc, hu with
                | 0, _, _, hu => hu
                | 1, _, _, ⟨b, e1, e2, e3⟩ => ⟨b, e1, e2, e3.keptG hgs hgl⟩
                | 2, _, _, hu => hu
                | 3, _, _, hu => hu
                | 4, _, _, hu => hu
                | 5, _, _, hu => hu
                | 6, _, _, hu => hu
                | 7, _, _, hu => hu
                | 8, _, _, ⟨B, c, e1, e2⟩ => ⟨B, c, e1, e2.keptG hgs hgl⟩
                | 9, _, _, hu => hu
                | 10, _, _, hu => hu
                | 11, _, _, hu => hu
                | 12, _, _, hu => hu
                | 13, _, _, hu => hu
                | 14, _, _, hu => hu
                | 15, _, _, hu => hu
                | 16, _, _, ⟨B, c, e1, e2⟩ => ⟨B, c, e1, e2.keptG hgs hgl⟩
                | 17, _, _, hu => hu
                | 18, _, _, hu => hu
                | 19, hk2, _, _ => absurd rfl hk2
                | _ + 20, _, _, _ => trivial
            · intro k2 hk2 hn hc2 h
              exact match k2, hk2, hn, hc2 with
                | 5, _, _, hc => absurd hc (by decide)
                | 12, _, _, hc => absurd hc (by decide)
                | 16, _, _, hc => absurd hc (by decide)
                | 19, hk2, _, _ => absurd rfl hk2
            · have hfar : (Value.slice B8 (U ++ R).length c8).ownBlock ≠ some g := fun e => by have := (hown.lt g e).1; omega
              refine ⟨?_, HLFT.out, ?_, hfar⟩
              · have := Whole.store ho 0 (.slice B8 (U ++ R).length c8)
                rw [HD2.out.2.1, HD2.out.2.2]
                simpa using this
              · rw [HD2.out.1]
                exact (OwnG.low hown (Nat.zero_le _)).past hgs (fun k e he => hfar (by rw [← he, ← e]))
          · intro v2 w7 hr hd
            obtain ⟨V9, h9, z9⟩ : DoneG w3.heap.size g D2 n1 (v2 19) w7 := hd 19 (by decide) (by kernel_rfl)
            have H9 := Lib.hid h9
            have Z9 := Lib.hid z9
            have R9 := Lib.hid hr
            rw [hfin]
            clear hfin hd h9 z9 hr
            go_wp2_with fail
            go_ret
            refine ⟨rfl, ⟨V9, n1, H9.out, .inl hSg, fun k e => .inr ?_⟩, ?_⟩
            · have q1 := Z9.out k e
              have q2 := B1.out.size
              have q3 := G1.out.size
              omega
            · exact (turn_below B1.out S).trans ((turn_grown G1.out (fun k e => by cases e; exact hSg) : Turn _ _ S).trans (Turn.wide R9.out (fun k e => by rw [e]; exact hSg)) (fun j hj => .inl hj)) (fun j hj => .inl hj)
      · have e3 : remV D n = stpV D := by
          unfold remV
          rw [e1, hz, if_neg (by decide), e2]
        rw [e1, hz, e3]
        rw [hz] at ST
        clear e1 e2 e3 hsv hz hc hk hp hs
        go_enter Try.func14, Try.ntmps14
        go_wp2_with (first
          | (go_at_call 34; refine (ST.out _ B1.out).mono ?_; rintro e w3 ⟨rfl, ⟨n1, h1⟩, g1, s1⟩; have H1 := Lib.hid h1; have G1 := Lib.hid g1; clear h1 g1 s1)
          | (go_at_call 35; refine (PL.out _ B1.out).mono ?_; rintro e w2 ⟨rfl, rfl⟩)
          | (go_at_call 33; refine AH.out.mono ?_; rintro e w1 ⟨rfl, b1⟩; have B1 := Lib.hid b1; clear b1))
        go_ret
        exact ⟨rfl, ⟨V, _, H1.out, .inl hSg, fun k e => .inl (hS k e)⟩, (turn_below B1.out S).trans (turn_grown G1.out (fun k e => by cases e; exact hSg) : Turn _ _ S) (fun j hj => .inl hj)⟩
  · obtain ⟨e1, -, -, e2⟩ := on_bad hc
    rw [e1, e2]
    have hne : (chk D n == 0) = false := by rw [beq_eq_false_iff_ne]; exact hc
    have HR := Lib.hid (fun W b => (⟨V, n0, HB.out W b, .inl hSg, fun k e => .inl (hS k e)⟩ : RefP W (More w S) g D))
    clear hc e1 e2 ST HB hSg hS
    generalize chk D n = x at AH hne ⊢
    go_enter Try.func14, Try.ntmps14
    go_wp2_with (first
      | (go_at_call 35; refine (PL.out _ B1.out).mono ?_; rintro e w2 ⟨rfl, rfl⟩)
      | (go_at_call 33; refine AH.out.mono ?_; rintro e w1 ⟨rfl, b1⟩; have B1 := Lib.hid b1; clear b1))
    go_ret
    exact ⟨rfl, HR.out _ B1.out, turn_below B1.out _⟩
end Go.Proofs.Ytkfjgmfokpgcbaa.disk
