/-
  A Multi of the program's and one of the document's beside each other: what one's turning leaves of the other; Moves in one form for both.
  MultiCounts: whatever is added, and asked, in any order: each answer, all numbers, and the frontier are the document's.
-/
import Derived.Test.YtomekndinopoaaaJCp
import Derived.Test.YtomekndinopoaaaJMuX
import Derived.Test.YtomekndinopoaaaJMuB
import Derived.Test.YtomekndinopoaaaJMuV
import Derived.Test.YtomekndinopoaaaJRt4
import Derived.Test.YtomekndinopoaaaJSmQ
import Derived.Test.YtomekndinopoaaaJMuN
import Derived.BigQuiet
namespace Go.Proofs.Ytomekndinopoaaa.multi
open Go.ChangeShapes Go.WideShapes Go.ChangeAt Go.RowKit Go.Maps Go.WideMaps
open Go.Proofs.Ytomekndinopoaaa.region
open Go.Proofs.Ytomekndinopoaaa.tm Go.Proofs.Ytomekndinopoaaa.opened Go.Proofs.Ytomekndinopoaaa.block Go.Proofs.Ytomekndinopoaaa.stamp Go.Proofs.Ytomekndinopoaaa.chain

theorem far_map {w : World} {b : Nat} {N : List TN} {A : Option Addr} {L : List Tm} (ho : OwnM w b N) (h : Lt w A L) : L ≠ [] → ∀ ad, A = some ad → ad.block ≠ b := by
  intro h0 ad had
  cases L with
  | nil => exact absurd rfl h0
  | cons y r =>
    obtain ⟨b0, off, hA, hb, c0, -⟩ := h.at (k := 0) (t := y) rfl
    subst hA
    cases had
    rintro rfl
    rw [own_no_cell ho (off + 0 * 5)] at c0
    cases c0
theorem far_mapP {w : World} {b : Nat} {N : List TN} {A : Option Addr} {L : List TN} (ho : OwnM w b N) (h : Lp w A L) : L ≠ [] → ∀ ad, A = some ad → ad.block ≠ b := by
  intro h0 ad had
  cases L with
  | nil => exact absurd rfl h0
  | cons y r =>
    obtain ⟨b0, off, hA, hb, c0, -⟩ := h.at (k := 0) (p := y) rfl
    subst hA
    cases had
    rintro rfl
    rw [own_no_cell ho (off + 0 * 6)] at c0
    cases c0
theorem far_mulP {w : World} {g n c : Nat} {d : Int} {m : Option Nat} {A D : Option Addr} {L : List TN} (hc : Whole w g 74 #[.int .i64 d, .map m, .slice A n c]) (h : Lp w D L) : L ≠ [] → ∀ ad, D = some ad → ad.block ≠ g := by
  intro h0 ad had
  cases L with
  | nil => exact absurd rfl h0
  | cons y r =>
    obtain ⟨b0, off, hA, hb, c0, -⟩ := h.at (k := 0) (p := y) rfl
    subst hA
    cases had
    rintro rfl
    have e := hc.read (off + 0 * 6)
    rw [c0] at e
    generalize off + 0 * 6 = j at e
    match j, e with
    | 0, e => simp at e
    | 1, e => simp at e
    | 2, e => simp at e
    | j + 3, e => simp at e
theorem whole_map {w : World} {b g : Nat} {N : List TN} {t : TypeId} {cs : Array Value} (ho : OwnM w b N) (hc : Whole w g t cs) (h0 : 0 < cs.size) : g ≠ b := by
  rintro rfl
  have := hc.read 0
  rw [own_no_cell ho 0] at this
  simp [h0] at this
theorem MulR.apart {w : World} {g r b c a e : Nat} {d d' : Int} {A A' B' : Option Addr} {L L' : List Tm} {M M' : List TN} (h : MulP w g d b A c L M) (k : MulR w r d' A' a M' B' e L') : g ≠ r ∧ b ≠ r := by
  refine ⟨?_, fun e => whole_map h.own k.cells (by simp) e.symm⟩
  rintro rfl
  have h1 := h.cells.read 1
  have h2 := k.cells.read 1
  rw [h1] at h2
  simp at h2
/-- The document's stays as the program's map turns. -/
theorem MulR.pastB {w w' : World} {r b a e : Nat} {d : Int} {A B : Option Addr} {L : List Tm} {M N : List TN} (h : MulR w r d A a M B e L) (ho : OwnM w b N) (hg : w.grownBy w' (some b)) : MulR w' r d A a M B e L :=
  ⟨h.cells.grown hg (by simpa using whole_map ho h.cells (by simp)), lp_turned h.pairs hg (far_mapP ho h.pairs), lt_turned h.was hg (far_map ho h.was)⟩
/-- The document's stays as the program's own block turns. -/
theorem MulR.pastG {w w' : World} {g r b c a e : Nat} {d d' : Int} {A A' B' : Option Addr} {L L' : List Tm} {M M' : List TN} (k : MulR w r d' A' a M' B' e L') (h : MulP w g d b A c L M) (hg : w.grownBy w' (some g)) : MulR w' r d' A' a M' B' e L' :=
  ⟨k.cells.grown hg (by simpa using fun e => (MulR.apart h k).1 e.symm), lp_turned k.pairs hg (far_mulP h.cells k.pairs), lt_turned k.was hg (fun h0 ad e => (far_of h.cells h.own k.was h0 ad e).2)⟩
/-- The program's stays as the document's block turns. -/
theorem MulP.pastR {w w' : World} {g r b c a e : Nat} {d d' : Int} {A A' B' : Option Addr} {L L' : List Tm} {M M' : List TN} (h : MulP w g d b A c L M) (k : MulR w r d' A' a M' B' e L') (hg : w.grownBy w' (some r)) : MulP w' g d b A c L M :=
  ⟨h.cells.grown hg (by simpa using (MulR.apart h k).1), h.own.kept hg (by simpa using (MulR.apart h k).2), lt_turned h.last hg (farR k.cells h.last), h.ne, h.far⟩
/-- A copy stays as the elder one's map, or its block, turns. -/
theorem MulP.pastB {w w' : World} {g b c g' b' c' : Nat} {d d' : Int} {A A' : Option Addr} {L L' : List Tm} {M M' : List TN} (h : MulP w g' d' b' A' c' L' M') (k : MulP w g d b A c L M) (hb : b' ≠ b) (hg : w.grownBy w' (some b)) : MulP w' g' d' b' A' c' L' M' :=
  ⟨h.cells.grown hg (by simpa using whole_map k.own h.cells (by simp)), h.own.kept hg (by simpa using hb), lt_turned h.last hg (far_map k.own h.last), h.ne, h.far⟩
theorem MulP.pastG {w w' : World} {g b c g' b' c' : Nat} {d d' : Int} {A A' : Option Addr} {L L' : List Tm} {M M' : List TN} (h : MulP w g' d' b' A' c' L' M') (k : MulP w g d b A c L M) (hgg : g' ≠ g) (hg : w.grownBy w' (some g)) : MulP w' g' d' b' A' c' L' M' :=
  ⟨h.cells.grown hg (by simpa using hgg), h.own.kept hg (by simpa using fun e => whole_map h.own k.cells (by simp) e.symm), lt_turned h.last hg (fun h0 ad e => (far_of k.cells k.own h.last h0 ad e).2), h.ne, h.far⟩
/-! ### Moves -/
def mvE {d : Int} {M : List TN} (G : GoodM d M) : Int := makeE (present M) (inP G)
def mvF {d : Int} {M : List TN} (G : GoodM d M) (L : List Tm) : List Tm := if mvE G = 0 then makeV (present M) (inP G) else L
def mvG {d : Int} {M : List TN} (G : GoodM d M) (L : List Tm) : List Tm := if mvE G = 0 then withoutV L (makeV (present M) (inP G)) else []
def mvC {d : Int} {M : List TN} (G : GoodM d M) (L : List Tm) : List Tm := if mvE G = 0 then withoutV (makeV (present M) (inP G)) L else []
theorem mv_len {d : Int} {M : List TN} (G : GoodM d M) (mL : M.length ≤ 4096) {L : List Tm} (lL : L.length ≤ 4096) : (mvF G L).length ≤ 4096 ∧ (mvG G L).length ≤ 4096 ∧ (mvC G L).length ≤ 4096 := by
  have h := present_le M mL G
  have h1 := without_len L (makeV (present M) (inP G))
  have h2 := without_len (makeV (present M) (inP G)) L
  unfold mvF mvG mvC
  split
  · exact ⟨h, by omega, by omega⟩
  · exact ⟨lL, Nat.zero_le _, Nat.zero_le _⟩
theorem moves_any {g b c : Nat} {d : Int} {A : Option Addr} {L : List Tm} {M : List TN} (G : GoodM d M) (mL : M.length ≤ 4096) (lL : L.length ≤ 4096) (w : World) (h : MulP w g d b A c L M) :
    Calls Try.prog 12 #[.pointer (some ⟨g, 0, none⟩)] w fun e w' => ∃ D1 c1 D2 c2 B c', e = .returned (.tuple #[.slice D1 (mvG G L).length c1, .slice D2 (mvC G L).length c2, .int .i64 (mvE G)]) ∧
      Lt w' D1 (mvG G L) ∧ Lt w' D2 (mvC G L) ∧ MulP w' g d b B c' (mvF G L) M ∧ w.grownBy w' (some g) := by
  unfold mvG mvC mvF mvE
  by_cases hE : makeE (present M) (inP G) = 0
  · rw [if_pos hE, if_pos hE, if_pos hE, hE]
    exact moves_good G mL lL hE w h
  · rw [if_neg hE, if_neg hE, if_neg hE]
    exact (moves_bad G mL hE w h).mono fun e w' ⟨he, hb⟩ => ⟨none, 0, none, 0, A, c, he, .inl rfl, .inl rfl, h.below hb, only_of_below hb (some g)⟩
theorem movesR_any {g a c : Nat} {d : Int} {A B0 : Option Addr} {L : List Tm} {M : List TN} (G : GoodM d M) (mL : M.length ≤ 4096) (lL : L.length ≤ 4096) (w : World) (h : MulR w g d B0 a M A c L) :
    Calls Try.prog 13 #[.pointer (some ⟨g, 0, none⟩)] w fun e w' => ∃ D1 c1 D2 c2 B c', e = .returned (.tuple #[.slice D1 (mvG G L).length c1, .slice D2 (mvC G L).length c2, .int .i64 (mvE G)]) ∧
      Lt w' D1 (mvG G L) ∧ Lt w' D2 (mvC G L) ∧ MulR w' g d B0 a M B c' (mvF G L) ∧ w.grownBy w' (some g) := by
  unfold mvG mvC mvF mvE
  by_cases hE : makeE (present M) (inP G) = 0
  · rw [if_pos hE, if_pos hE, if_pos hE, hE]
    exact movesR_good G mL lL hE w h
  · rw [if_neg hE, if_neg hE, if_neg hE]
    exact (movesR_bad G mL hE w h).mono fun e w' ⟨he, hb⟩ => ⟨none, 0, none, 0, A, c, he, .inl rfl, .inl rfl, h.below hb, only_of_below hb (some g)⟩
end Go.Proofs.Ytomekndinopoaaa.multi
namespace Go.Proofs.Ytomekndinopoaaa.region
open Go.RowKit Go.Proofs.Ytomekndinopoaaa.block
theorem yieldsW_call {P : Program} {w : World} {o : Oper} {ρ : Operand → Value} {f : FuncId} {xs : Array Operand} {ts : Array TypeId} {T : Value → World → Prop} (ho : o.op = .call { callee := .value (.func f), args := xs, argTypes := ts }) {vs : Array Value} (hx : xs.map ρ = vs) (hf : ρ (.func f) = .func (.func f) #[] #[]) {fn : Func} (hfn : P.funcs[f]? = some fn) (hname : (fn.name == "runtime.NumGoroutine") = false) (hbody : fn.body.isNone = false)
    (h : Calls P f vs w fun e w' => ∃ u, e = .returned u ∧ T u w') : YieldsW P o ρ w T := by
  have h1 : ¬ fn.name = "runtime.NumGoroutine" := by simpa using hname
  have h2 : ¬ fn.body = none := by
    intro e
    rw [e] at hbody
    cases hbody
  refine .inr ⟨f, vs, ?_, h⟩
  unfold execOp
  simp [ho, hx, hf, resolve, go_sem, callFunc, hfn, h1, h2]
end Go.Proofs.Ytomekndinopoaaa.region
namespace Go.Proofs.Ytomekndinopoaaa.multi
open Go.ChangeShapes Go.WideShapes Go.ChangeAt Go.RowKit Go.Maps Go.WideMaps
open Go.Proofs.Ytomekndinopoaaa.region
open Go.Proofs.Ytomekndinopoaaa.tm Go.Proofs.Ytomekndinopoaaa.opened Go.Proofs.Ytomekndinopoaaa.block Go.Proofs.Ytomekndinopoaaa.stamp Go.Proofs.Ytomekndinopoaaa.chain

/-- Both beside each other, with the same numbers and the same last frontier, all behind the start. -/
structure Two (w0 w : World) (g : Nat) (d : Int) (b : Nat) (B : Option Addr) (c : Nat) (r : Nat) (A' : Option Addr) (a : Nat) (B' : Option Addr) (e : Nat) (F : List Tm) (M : List TN) : Prop where
  p : MulP w g d b B c F M
  q : MulR w r d A' a M B' e F
  bel : Below w0.heap.size w0 w
  hg : w0.heap.size ≤ g
  hb : w0.heap.size ≤ b
  hr : w0.heap.size ≤ r
theorem Two.later {w0 w w' : World} {g b c r a e : Nat} {d : Int} {B A' B' : Option Addr} {F : List Tm} {M : List TN} (h : Two w0 w g d b B c r A' a B' e F M) (hb : Below w.heap.size w w') : Two w0 w' g d b B c r A' a B' e F M :=
  ⟨h.p.below hb, h.q.below hb, h.bel.trans (hb.mono h.bel.size), h.hg, h.hb, h.hr⟩
/-- The cells of an act in a block. -/
abbrev Ob (w : World) (o : Nat) (x : Ac) : Prop := Whole w o 35 #[.int .i64 x.k, .int .u32 x.t.e, .int .i64 x.t.d, .int .u32 x.t.a, .int .u32 x.t.b, .int .u32 x.t.c, .int .i64 x.n]
theorem ob_t {w : World} {o : Nat} {x : Ac} (h : Ob w o x) : w.cell? ⟨o, 1, none⟩ = some (.int .u32 x.t.e) ∧ w.cell? ⟨o, 2, none⟩ = some (.int .i64 x.t.d) ∧ w.cell? ⟨o, 3, none⟩ = some (.int .u32 x.t.a) ∧ w.cell? ⟨o, 4, none⟩ = some (.int .u32 x.t.b) ∧ w.cell? ⟨o, 5, none⟩ = some (.int .u32 x.t.c) := ⟨h.read 1, h.read 2, h.read 3, h.read 4, h.read 5⟩
theorem Two.inside {w0 w : World} {g b c r a e : Nat} {d : Int} {B A' B' : Option Addr} {F : List Tm} {M : List TN} (h : Two w0 w g d b B c r A' a B' e F M) : g < w.heap.size ∧ b < w.heap.size ∧ r < w.heap.size := ⟨h.p.cells.inside, h.p.own.lt, h.q.cells.inside⟩
/-- What the program's Add hands back in a region. -/
def AddP (E : Int) (g : Nat) (d : Int) (b : Nat) (B : Option Addr) (c : Nat) (F : List Tm) (M : List TN) : Value → World → Prop := fun u w => u = .int .i64 E ∧ MulP w g d b B c F M
theorem keeps_addP (E : Int) (g : Nat) (d : Int) (b : Nat) (B : Option Addr) (c : Nat) (F : List Tm) (M : List TN) : Keeps (AddP E g d b B c F M) := fun _ _ _ hb ⟨h1, h2⟩ => ⟨h1, h2.below hb⟩
def AddR (E : Int) (r : Nat) (d : Int) (B : Option Addr) (e : Nat) (F : List Tm) (M : List TN) : Value → World → Prop := fun u w => u = .int .i64 E ∧ ∃ A a, MulR w r d A a M B e F
theorem keeps_addR (E : Int) (r : Nat) (d : Int) (B : Option Addr) (e : Nat) (F : List Tm) (M : List TN) : Keeps (AddR E r d B e F M) := fun _ _ _ hb ⟨h1, A, a, h2⟩ => ⟨h1, A, a, h2.below hb⟩
theorem mc_bad (d : Int) (hd : d < 0 ∨ 3 < d) (A : Option Addr) (c n : Nat) (w : World) :
    Calls Try.prog 3 #[.int .i64 d, .slice A n c] w fun e w' => e = .returned (.bool true) ∧ Below w.heap.size w w' := by
  have N1 := Lib.hid (new_bad d hd)
  have N2 := Lib.hid (newR_bad d hd)
  clear hd
  go_enter Try.func3, Try.ntmps3
  go_wp2_with (first
    | (go_at_call 8; refine (N1.out _).mono ?_; rintro e w1 ⟨rfl, b1⟩; have B1 := Lib.hid b1; clear b1)
    | (go_at_call 9; refine (N2.out _).mono ?_; rintro e w2 ⟨rfl, b2⟩; have B2 := Lib.hid (B1.out.trans (b2.mono B1.out.size)); clear b2))
  go_ret
  exact ⟨rfl, B2.out⟩
set_option maxRecDepth 100000 in
set_option maxHeartbeats 16000000 in
theorem walkMc (dp : Int) (hd0 : 0 ≤ dp) (hd1 : dp ≤ 3) (A : Option Addr) (c : Nat) (L : List Ac) (iL : ∀ a ∈ L, a.In) (mL : L.length ≤ 4611686018427387903) (w : World) (h : La w A L) :
    Calls Try.prog 3 #[.int .i64 dp, .slice A L.length c] w fun e w' => e = .returned (.bool true) ∧ Below w.heap.size w w' := by
  have H := Lib.hid h
  have N1 := Lib.hid (new_good dp hd0 hd1 w)
  have N2 := Lib.hid (fun W => newR_good dp hd0 hd1 W)
  have iL := Lib.hid iL
  clear h hd0 hd1
  go_enter Try.func3, Try.ntmps3
  go_wp2_with (first
    | (go_at_call 8; refine N1.out.mono ?_; rintro e1 w1 ⟨g1, b1, rfl, h1, bb1, hg1, hb1⟩; have P1 := Lib.hid h1; have B1 := Lib.hid bb1; have HG1 := Lib.hid (And.intro hg1 hb1); clear h1 bb1 hg1 hb1)
    | (go_at_call 9; refine (N2.out _).mono ?_; rintro e2 w2 ⟨rfl, h2, b2⟩; have T2 : Hid (Two w w2 g1 dp b1 none 0 w1.heap.size none 0 none 0 [] []) := Lib.hid ⟨P1.out.below b2, h2, B1.out.trans (b2.mono B1.out.size), HG1.out.1, HG1.out.2, B1.out.size⟩; clear h2 b2))
  generalize w1.heap.size = r1 at T2 ⊢
  clear N1 N2 P1 B1 HG1
  go_loopw [5, 7, 9] (fun pa pb v wr => ∃ (k g b : Nat) (B : Option Addr) (cB r : Nat) (A' : Option Addr) (a : Nat) (B' : Option Addr) (e : Nat) (F : List Tm) (M : List TN), k ≤ L.length ∧ k ≤ 60 ∧ pa = .pointer (some ⟨g, 0, none⟩) ∧ pb = .pointer (some ⟨r, 0, none⟩) ∧ v = .int .i64 k ∧ Hid (Two w wr g dp b B cB r A' a B' e F M) ∧ Hid (GoodM dp M ∧ M.length ≤ 4096) ∧ F.length ≤ 4096) (fun _ _ v _ => 60 - (intOf v).toNat)
  case atStart => exact ⟨0, g1, b1, none, 0, r1, none, 0, none, 0, [], [], Nat.zero_le _, Nat.zero_le _, rfl, rfl, rfl, T2, Lib.hid ⟨GoodM.nil dp, by simp⟩, by simp⟩
  case round =>
    obtain ⟨k, g, b, B, cB, r, A', a, B', e, F, M, hk, hk6, rfl, rfl, rfl, HT0, HG, hlF⟩ := hrel
    clear T2
    by_cases hlt : k < L.length
    · by_cases h6 : k < 60
      · obtain ⟨x, hx⟩ : ∃ x, L[k]? = some x := ⟨L[k], List.getElem?_eq_getElem hlt⟩
        have ix := Lib.hid (iL.out x (List.mem_of_getElem? hx)).t
        obtain ⟨b0, o0, hA, hb0, c0, c1, c2, c3, c4, c5, c6⟩ := (H.out.below HT0.out.bel).at hx
        subst hA
        have c2' : wr.cell? ⟨b0, o0 + k * 7 + 2, none⟩ = some (.int .i64 x.t.d) := c2
        have c3' : wr.cell? ⟨b0, o0 + k * 7 + 3, none⟩ = some (.int .u32 x.t.a) := c3
        have c4' : wr.cell? ⟨b0, o0 + k * 7 + 4, none⟩ = some (.int .u32 x.t.b) := c4
        have c5' : wr.cell? ⟨b0, o0 + k * 7 + 5, none⟩ = some (.int .u32 x.t.c) := c5
        clear hx c2 c3 c4 c5
        have bb := fresh1 wr (.cells #[.int .i64 x.k, .int .u32 x.t.e, .int .i64 x.t.d, .int .u32 x.t.a, .int .u32 x.t.b, .int .u32 x.t.c, .int .i64 x.n] 35)
        have HT := Lib.hid (HT0.out.later bb)
        have HO : Hid (Ob _ _ x) := Lib.hid (Whole.fresh wr 35 #[.int .i64 x.k, .int .u32 x.t.e, .int .i64 x.t.d, .int .u32 x.t.a, .int .u32 x.t.b, .int .u32 x.t.c, .int .i64 x.n])
        have hin := HT0.out.inside
        have hog : wr.heap.size ≠ g := by omega
        have hob : wr.heap.size ≠ b := by omega
        have hor : wr.heap.size ≠ r := by omega
        clear hin bb HT0
        go_upto_region 9 with fail
        change Code.wp _ _ _ _ (wr.alloc (.cells #[.int .i64 x.k, .int .u32 x.t.e, .int .i64 x.t.d, .int .u32 x.t.a, .int .u32 x.t.b, .int .u32 x.t.c, .int .i64 x.n] 35))
        clear c0 c1 c2' c3' c4' c5' c6 hb0
        generalize wr.alloc (.cells #[.int .i64 x.k, .int .u32 x.t.e, .int .i64 x.t.d, .int .u32 x.t.a, .int .u32 x.t.b, .int .u32 x.t.c, .int .i64 x.n] 35) = wo at HT HO ⊢
        generalize wr.heap.size = o at HO hog hob hor ⊢
        have k0 : wo.cell? ⟨o, 0, none⟩ = some (.int .i64 x.k) := HO.out.read 0
        by_cases hx0 : x.k = 0
        · rw [hx0] at k0
          clear hx0
          go_upto_region 18 with fail
          have hEV := add_good (d := dp) HG.out.1 HG.out.2 ix.out x.n
          have CP := Lib.hid (fun W (hW : MulP W g dp b B cB F M) => add_any x.t ix.out x.n HG.out.1 HG.out.2 W hW)
          have CR := Lib.hid (fun W A1 a1 (hW : MulR W r dp A1 a1 M B' e F) => addR_any x.t ix.out x.n HG.out.1 HG.out.2 W hW)
          have HG2 := Lib.hid hEV
          clear hEV
          generalize addE dp M x.t x.n = E at CP CR
          generalize addV dp M x.t x.n = M2 at CP CR HG2
          refine region_many 138 (fun k => k == 5 || k == 11) (fun w2 => Below w.heap.size w w2 ∧ Ob w2 o x) ?hR ?r0 [Is (.pointer (some ⟨g, 0, none⟩)), Is (.pointer (some ⟨o, 1, none⟩)), Is (.agg #[.int .u32 x.t.e, .int .i64 x.t.d, .int .u32 x.t.a, .int .u32 x.t.b, .int .u32 x.t.c]), Is (.pointer (some ⟨o, 6, none⟩)), Is (.int .i64 x.n), AddP E g dp b B cB F M2, Is (.pointer (some ⟨r, 0, none⟩)), Is (.pointer (some ⟨o, 1, none⟩)), Is (.agg #[.int .u32 x.t.e, .int .i64 x.t.d, .int .u32 x.t.a, .int .u32 x.t.b, .int .u32 x.t.c]), Is (.pointer (some ⟨o, 6, none⟩)), Is (.int .i64 x.n), AddR E r dp B' e F M2, Is (.bool false)] (fun k w2 => (k = 5 → MulP w2 g dp b B cB F M) ∧ (k = 11 → MulR w2 r dp A' a M B' e F)) (by kernel_rfl) rfl (by kernel_rfl) ?keep ?hO ?h0 ?tell
          case hR => exact fun w2 w4 hb ⟨h1, h2⟩ => ⟨h1.trans (hb.mono h1.size), h2.below hb h2.inside⟩
          case r0 => exact ⟨HT.out.bel, HO.out⟩
          case keep => exact ⟨keeps_is _, keeps_is _, keeps_is _, keeps_is _, keeps_is _, keeps_addP _ _ _ _ _ _ _ _, keeps_is _, keeps_is _, keeps_is _, keeps_is _, keeps_is _, keeps_addR _ _ _ _ _ _ _, keeps_is _, trivial⟩
          case hO => exact fun k w2 w4 hb ⟨h1, h2⟩ => ⟨fun e => (h1 e).below hb, fun e => (h2 e).below hb⟩
          case h0 => exact fun k _ => ⟨fun _ => HT.out.p, fun _ => HT.out.q⟩
          case tell =>
            intro fin hfin
            simp [lexPut, Act.put] at hfin
            simp only [TellMany]
            refine ⟨⟨?_, ?_, ?_, ?_, ?_, ?_, ?_, ?_, ?_, ?_, ?_, ?_, ?_, trivial⟩, ?_⟩
            · intro v w2 hr hd
              exact yields_move rfl (by rfl)
            · intro v w2 hr hd
              refine yields_run (u := .pointer (some ⟨o, 1, none⟩)) (w' := w2) ?_ (Below.refl _ _) rfl
              unfold execOp
              simp [go_sem, Act.eval, Act.put]
            · intro v w2 hr hd
              have h1 : v 1 = _ := hd 1 (by kernel_rfl)
              obtain ⟨a0, a1, a2, a3, a4⟩ := ob_t hr.2
              refine yields_run (u := .agg #[.int .u32 x.t.e, .int .i64 x.t.d, .int .u32 x.t.a, .int .u32 x.t.b, .int .u32 x.t.c]) (w' := w2) ?_ (Below.refl _ _) rfl
              unfold execOp
              simp [go_sem, Act.eval, Act.put, h1, a0, a1, a2, a3, a4]
            · intro v w2 hr hd
              refine yields_run (u := .pointer (some ⟨o, 6, none⟩)) (w' := w2) ?_ (Below.refl _ _) rfl
              unfold execOp
              simp [go_sem, Act.eval, Act.put]
            · intro v w2 hr hd
              have h3 : v 3 = _ := hd 3 (by kernel_rfl)
              have a6 : w2.cell? ⟨o, 6, none⟩ = some (.int .i64 x.n) := hr.2.read 6
              refine yields_run (u := .int .i64 x.n) (w' := w2) ?_ (Below.refl _ _) rfl
              unfold execOp
              simp [go_sem, Act.eval, Act.put, h3, a6]
            · intro v w2 hr ho hd
              have h0 : v 0 = _ := hd 0 (by kernel_rfl)
              have h2 : v 2 = _ := hd 2 (by kernel_rfl)
              have h4 : v 4 = _ := hd 4 (by kernel_rfl)
              have hp := ho.1 trivial
              refine yieldsW_call (f := 10) rfl (vs := #[.pointer (some ⟨g, 0, none⟩), .agg #[.int .u32 x.t.e, .int .i64 x.t.d, .int .u32 x.t.a, .int .u32 x.t.b, .int .u32 x.t.c], .int .i64 x.n]) (by simp [Act.eval, Act.put, h0, h2, h4]) rfl Try.func10 (by kernel_rfl) (by kernel_rfl) ?_
              refine (CP.out w2 hp).mono fun e1 w' ⟨he, hm, hg⟩ => ⟨_, he, ⟨hr.1.trans (add_below hg hr.1.size HT.out.hb), hr.2.grown hg (by simpa using hob)⟩, ?_, ?_, rfl, hm⟩
              · intro k u hk hu
                exact match k, hk, hu with
                  | 0, _, hu => hu
                  | 1, _, hu => hu
                  | 2, _, hu => hu
                  | 3, _, hu => hu
                  | 4, _, hu => hu
                  | 5, hk, _ => absurd rfl hk
                  | 6, _, hu => hu
                  | 7, _, hu => hu
                  | 8, _, hu => hu
                  | 9, _, hu => hu
                  | 10, _, hu => hu
                  | 11, _, ⟨h1, A1, a1, h2⟩ => ⟨h1, A1, a1, h2.pastB hp.own hg⟩
                  | 12, _, hu => hu
                  | _ + 13, _, _ => trivial
              · intro k hk _ ⟨h1, h2⟩
                exact ⟨fun e => absurd e hk, fun e => (h2 e).pastB hp.own hg⟩
            · intro v w2 hr hd
              exact yields_move rfl (by rfl)
            · intro v w2 hr hd
              refine yields_run (u := .pointer (some ⟨o, 1, none⟩)) (w' := w2) ?_ (Below.refl _ _) rfl
              unfold execOp
              simp [go_sem, Act.eval, Act.put]
            · intro v w2 hr hd
              have h7 : v 7 = _ := hd 7 (by kernel_rfl)
              obtain ⟨a0, a1, a2, a3, a4⟩ := ob_t hr.2
              refine yields_run (u := .agg #[.int .u32 x.t.e, .int .i64 x.t.d, .int .u32 x.t.a, .int .u32 x.t.b, .int .u32 x.t.c]) (w' := w2) ?_ (Below.refl _ _) rfl
              unfold execOp
              simp [go_sem, Act.eval, Act.put, h7, a0, a1, a2, a3, a4]
            · intro v w2 hr hd
              refine yields_run (u := .pointer (some ⟨o, 6, none⟩)) (w' := w2) ?_ (Below.refl _ _) rfl
              unfold execOp
              simp [go_sem, Act.eval, Act.put]
            · intro v w2 hr hd
              have h9 : v 9 = _ := hd 9 (by kernel_rfl)
              have a6 : w2.cell? ⟨o, 6, none⟩ = some (.int .i64 x.n) := hr.2.read 6
              refine yields_run (u := .int .i64 x.n) (w' := w2) ?_ (Below.refl _ _) rfl
              unfold execOp
              simp [go_sem, Act.eval, Act.put, h9, a6]
            · intro v w2 hr ho hd
              have h6 : v 6 = _ := hd 6 (by kernel_rfl)
              have h8 : v 8 = _ := hd 8 (by kernel_rfl)
              have h10 : v 10 = _ := hd 10 (by kernel_rfl)
              have hp := ho.2 trivial
              refine yieldsW_call (f := 11) rfl (vs := #[.pointer (some ⟨r, 0, none⟩), .agg #[.int .u32 x.t.e, .int .i64 x.t.d, .int .u32 x.t.a, .int .u32 x.t.b, .int .u32 x.t.c], .int .i64 x.n]) (by simp [Act.eval, Act.put, h6, h8, h10]) rfl Try.func11 (by kernel_rfl) (by kernel_rfl) ?_
              refine (CR.out w2 _ _ hp).mono fun e1 w' ⟨A1, a1, he, hm, hg⟩ => ⟨_, he, ⟨hr.1.trans (add_below hg hr.1.size HT.out.hr), hr.2.grown hg (by simpa using hor)⟩, ?_, ?_, rfl, A1, a1, hm⟩
              · intro k u hk hu
                exact match k, hk, hu with
                  | 0, _, hu => hu
                  | 1, _, hu => hu
                  | 2, _, hu => hu
                  | 3, _, hu => hu
                  | 4, _, hu => hu
                  | 5, _, ⟨h1, h2⟩ => ⟨h1, h2.pastR hp hg⟩
                  | 6, _, hu => hu
                  | 7, _, hu => hu
                  | 8, _, hu => hu
                  | 9, _, hu => hu
                  | 10, _, hu => hu
                  | 11, hk, _ => absurd rfl hk
                  | 12, _, hu => hu
                  | _ + 13, _, _ => trivial
              · intro k hk _ ⟨h1, h2⟩
                exact ⟨fun e => (h1 e).pastR hp hg, fun e => absurd e hk⟩
            · intro v w2 hr hd
              have h5 : v 5 = _ := (hd 5 (by kernel_rfl)).1
              have h11 : v 11 = _ := (hd 11 (by kernel_rfl)).1
              refine yields_run (u := .bool false) (w' := w2) ?_ (Below.refl _ _) rfl
              unfold execOp
              simp [go_sem, Act.eval, Act.put, h5, h11]
            · intro v w2 hr hv
              obtain ⟨h5, q5⟩ : AddP E g dp b B cB F M2 (v 5) w2 := hv 5 (by decide)
              obtain ⟨h11, A2, a2, q11⟩ : AddR E r dp B' e F M2 (v 11) w2 := hv 11 (by decide)
              have h12 : v 12 = .bool false := hv 12 (by decide)
              have HT2 : Hid (Two w w2 g dp b B cB r A2 a2 B' e F M2) := Lib.hid ⟨q5, q11, hr.1, HT.out.hg, HT.out.hb, HT.out.hr⟩
              have HO2 := Lib.hid hr.2
              rw [hfin]
              clear hfin hv q5 q11 hr
              rw [h12]
              clear h12 h5 h11 CP CR
              go_upto_region 25 with fail
              have HP5 := Lib.hid (fun wq (hb : Below w2.heap.size w2 wq) => ob_t (HO2.out.below hb HO2.out.inside))
              have C1 := Lib.hid (fun wq (hb : Below w2.heap.size w2 wq) => count_any x.t ix.out HG2.out.1 wq ((HT2.out.later hb).p))
              have C2 := Lib.hid (fun wq (hb : Below w2.heap.size w2 wq) => countR_any x.t (by have := HG2.out.2; omega) wq ((HT2.out.later hb).q))
              have C3 := Lib.hid (fun wq (hb : Below w2.heap.size w2 wq) => same7 HG2.out.1 HG2.out.2 wq ((HT2.out.later hb).p) ((HT2.out.later hb).q))
              generalize countM M2 x.t = cnt at C1 C2
              refine region_want 138 [Is (.pointer (some ⟨g, 0, none⟩)), Is (.pointer (some ⟨o, 1, none⟩)), Is (.agg #[.int .u32 x.t.e, .int .i64 x.t.d, .int .u32 x.t.a, .int .u32 x.t.b, .int .u32 x.t.c]), Is (.int .i64 cnt), Is (.pointer (some ⟨r, 0, none⟩)), Is (.pointer (some ⟨o, 1, none⟩)), Is (.agg #[.int .u32 x.t.e, .int .i64 x.t.d, .int .u32 x.t.a, .int .u32 x.t.b, .int .u32 x.t.c]), Is (.int .i64 cnt), Is (.bool false), Is (.bool false), Is (.pointer (some ⟨g, 0, none⟩)), Is (.pointer (some ⟨r, 0, none⟩)), Is (.bool true), Is (.bool false), Is (.bool false)] (by kernel_rfl) rfl (by kernel_rfl) ?_ ?_
              · exact ⟨keeps_is _, keeps_is _, keeps_is _, keeps_is _, keeps_is _, keeps_is _, keeps_is _, keeps_is _, keeps_is _, keeps_is _, keeps_is _, keeps_is _, keeps_is _, keeps_is _, keeps_is _, trivial⟩
              · intro fin hfin
                simp [lexPut, Act.put] at hfin
                refine ⟨⟨?_, ?_, ?_, ?_, ?_, ?_, ?_, ?_, ?_, ?_, ?_, ?_, ?_, ?_, ?_, trivial⟩, ?_⟩
                · intro v w3 hb hd
                  exact done_plain rfl (yields_is (tells_move rfl (by rw [hfin]; rfl)) hb)
                · intro v w3 hb hd
                  refine done_plain rfl (yields_run (u := .pointer (some ⟨o, 1, none⟩)) (w' := w3) ?_ (Below.refl _ _) rfl)
                  rw [hfin]
                  unfold execOp
                  simp [go_sem, Act.eval]
                · intro v w3 hb hd
                  have h1 : v 1 = _ := hd 1 (by kernel_rfl)
                  obtain ⟨a0, a1, a2, a3, a4⟩ := HP5.out w3 hb
                  refine done_plain rfl (yields_run (u := .agg #[.int .u32 x.t.e, .int .i64 x.t.d, .int .u32 x.t.a, .int .u32 x.t.b, .int .u32 x.t.c]) (w' := w3) ?_ (Below.refl _ _) rfl)
                  rw [hfin]
                  unfold execOp
                  simp [go_sem, Act.eval, h1, a0, a1, a2, a3, a4]
                · intro v w3 hb hd
                  have h0 : v 0 = _ := hd 0 (by kernel_rfl)
                  have h2 : v 2 = _ := hd 2 (by kernel_rfl)
                  refine done_plain rfl (yields_call (f := 17) rfl (vs := #[.pointer (some ⟨g, 0, none⟩), .agg #[.int .u32 x.t.e, .int .i64 x.t.d, .int .u32 x.t.a, .int .u32 x.t.b, .int .u32 x.t.c]]) (by rw [hfin]; simp [Act.eval, h0, h2]) rfl Try.func17 (by kernel_rfl) (by kernel_rfl) ?_)
                  exact (C1.out w3 hb).mono fun e w' ⟨he, hb'⟩ => ⟨_, he, hb', rfl⟩
                · intro v w3 hb hd
                  exact done_plain rfl (yields_is (tells_move rfl (by rw [hfin]; rfl)) hb)
                · intro v w3 hb hd
                  refine done_plain rfl (yields_run (u := .pointer (some ⟨o, 1, none⟩)) (w' := w3) ?_ (Below.refl _ _) rfl)
                  rw [hfin]
                  unfold execOp
                  simp [go_sem, Act.eval]
                · intro v w3 hb hd
                  have h5 : v 5 = _ := hd 5 (by kernel_rfl)
                  obtain ⟨a0, a1, a2, a3, a4⟩ := HP5.out w3 hb
                  refine done_plain rfl (yields_run (u := .agg #[.int .u32 x.t.e, .int .i64 x.t.d, .int .u32 x.t.a, .int .u32 x.t.b, .int .u32 x.t.c]) (w' := w3) ?_ (Below.refl _ _) rfl)
                  rw [hfin]
                  unfold execOp
                  simp [go_sem, Act.eval, h5, a0, a1, a2, a3, a4]
                · intro v w3 hb hd
                  have h4 : v 4 = _ := hd 4 (by kernel_rfl)
                  have h6 : v 6 = _ := hd 6 (by kernel_rfl)
                  refine done_plain rfl (yields_call (f := 18) rfl (vs := #[.pointer (some ⟨r, 0, none⟩), .agg #[.int .u32 x.t.e, .int .i64 x.t.d, .int .u32 x.t.a, .int .u32 x.t.b, .int .u32 x.t.c]]) (by rw [hfin]; simp [Act.eval, h4, h6]) rfl Try.func18 (by kernel_rfl) (by kernel_rfl) ?_)
                  exact (C2.out w3 hb).mono fun e w' ⟨he, hb'⟩ => ⟨_, he, hb', rfl⟩
                · intro v w3 hb hd
                  have h3 : v 3 = _ := hd 3 (by kernel_rfl)
                  have h7 : v 7 = _ := hd 7 (by kernel_rfl)
                  refine done_plain rfl (yields_run (u := .bool false) (w' := w3) ?_ (Below.refl _ _) rfl)
                  rw [hfin]
                  unfold execOp
                  simp [go_sem, Act.eval, h3, h7]
                · intro v w3 hb hd
                  have h8 : v 8 = _ := hd 8 (by kernel_rfl)
                  exact done_plain rfl (yields_is (tells_move rfl (by rw [hfin]; exact h8)) hb)
                · intro v w3 hb hd
                  exact done_want 9 false rfl (hd 9 (by kernel_rfl)) (yields_is (tells_move rfl (by rw [hfin]; rfl)) hb)
                · intro v w3 hb hd
                  exact done_want 9 false rfl (hd 9 (by kernel_rfl)) (yields_is (tells_move rfl (by rw [hfin]; rfl)) hb)
                · intro v w3 hb hd
                  have h10 : v 10 = _ := hd 10 (by kernel_rfl)
                  have h11 : v 11 = _ := hd 11 (by kernel_rfl)
                  refine done_want 9 false rfl (hd 9 (by kernel_rfl)) (yields_call (f := 19) rfl (vs := #[.pointer (some ⟨g, 0, none⟩), .pointer (some ⟨r, 0, none⟩)]) (by rw [hfin]; simp [Act.eval, h10, h11]) rfl Try.func19 (by kernel_rfl) (by kernel_rfl) ?_)
                  exact (C3.out w3 hb).mono fun e w' ⟨he, hb'⟩ => ⟨_, he, hb', rfl⟩
                · intro v w3 hb hd
                  have h12 : v 12 = _ := hd 12 (by kernel_rfl)
                  refine done_want 9 false rfl (hd 9 (by kernel_rfl)) (yields_run (u := .bool false) (w' := w3) ?_ (Below.refl _ _) rfl)
                  rw [hfin]
                  unfold execOp
                  simp [go_sem, Act.eval, h12]
                · intro v w3 hb hd
                  have h9 : v 9 = _ := hd 9 (by kernel_rfl)
                  have h13 : v 13 = _ := hd 13 (by kernel_rfl)
                  refine done_plain rfl (yields_run (u := .bool false) (w' := w3) ?_ (Below.refl _ _) rfl)
                  rw [hfin]
                  unfold execOp
                  simp [go_sem, Act.eval, h9, h13]
                · intro v w3 hb hv
                  have h14 : v 14 = _ := hv 14 (by decide)
                  rw [hfin]
                  clear hfin hv
                  rw [h14]
                  clear h14
                  have HZ := Lib.hid (HT2.out.later hb)
                  clear hb C1 C2 C3 HP5
                  go_wp2_with fail
                  go_roundw
                  case rel => exact ⟨k + 1, g, b, B, cB, r, A2, a2, B', e, F, M2, by omega, by omega, rfl, rfl, by go_num, HZ, HG2, hlF⟩
                  case measure => simp [intOf]; omega
        · by_cases hx1 : x.k = 1
          · rw [hx1] at k0
            clear hx0 hx1
            have hml := mv_len HG.out.1 HG.out.2 hlF
            have hlN := hml.1
            have hl1 := hml.2.1
            have hl2 := hml.2.2
            have CP := Lib.hid (moves_any HG.out.1 HG.out.2 hlF _ HT.out.p)
            have CR := Lib.hid (fun W (hW : MulR W r dp A' a M B' e F) => movesR_any HG.out.1 HG.out.2 hlF W hW)
            generalize mvF HG.out.1 F = N at CP CR hlN
            generalize mvG HG.out.1 F = X1 at CP CR hl1
            generalize mvC HG.out.1 F = X2 at CP CR hl2
            generalize mvE HG.out.1 = E at CP CR
            clear hml
            go_upto_region 23 with (first
              | (go_at_call 12; refine CP.out.mono ?_; rintro e1 w7 ⟨D1, c1, D2, c2, B7, c7, rfl, l1, l2, h7, g7⟩; have L1 := Lib.hid l1; have L2 := Lib.hid l2; have P7 := Lib.hid h7; have Q7 := Lib.hid (HT.out.q.pastG HT.out.p g7); have B7b := Lib.hid (HT.out.bel.trans (add_below g7 HT.out.bel.size HT.out.hg)); have O7 := Lib.hid (HO.out.grown g7 (by simpa using hog)); clear l1 l2 h7 g7)
              | (go_at_call 13; refine (CR.out _ Q7.out).mono ?_; rintro e2 w8 ⟨D3, c3, D4, c4, B8, c8, rfl, l3, l4, h8, g8⟩; have L3 := Lib.hid l3; have L4 := Lib.hid l4; have M1 := Lib.hid (lt_turned L1.out g8 (farR Q7.out.cells L1.out)); have M2' := Lib.hid (lt_turned L2.out g8 (farR Q7.out.cells L2.out)); have T8 : Hid (Two w w8 g dp b B7 c7 r A' a B8 c8 N M) := Lib.hid ⟨P7.out.pastR Q7.out g8, h8, B7b.out.trans (add_below g8 B7b.out.size HT.out.hr), HT.out.hg, HT.out.hb, HT.out.hr⟩; have O8 := Lib.hid (O7.out.grown g8 (by simpa using hor)); clear l3 l4 h8 g8))
            clear CP CR L1 L2 P7 Q7 B7b O7
            have S1 := Lib.hid (same_self D1 D3 c1 c3 X1 (by omega) w8 M1.out L3.out)
            have S2 := Lib.hid (fun W (hb : Below w8.heap.size w8 W) => same_self D2 D4 c2 c4 X2 (by omega) W (M2'.out.below hb) (L4.out.below hb))
            go_upto_region 25 with (go_at_call 14; first
              | (with_reducible refine S1.out.mono ?_; rintro e3 w9 ⟨rfl, b9⟩; have T9 := Lib.hid (T8.out.later b9); have O9 := Lib.hid (O8.out.below b9 O8.out.inside); have B9 := Lib.hid b9; clear b9)
              | (with_reducible refine (S2.out _ B9.out).mono ?_; rintro e4 w10 ⟨rfl, b10⟩; have T10 := Lib.hid (T9.out.later b10); have O10 := Lib.hid (O9.out.below b10 O9.out.inside); clear b10))
            clear S1 S2 M1 M2' L3 L4 T8 O8 T9 O9 B9 HT HO
            go_upto_region 25 with fail
            have HP5 := Lib.hid (fun wq (hb : Below w10.heap.size w10 wq) => ob_t (O10.out.below hb O10.out.inside))
            have C1 := Lib.hid (fun wq (hb : Below w10.heap.size w10 wq) => count_any x.t ix.out HG.out.1 wq ((T10.out.later hb).p))
            have C2 := Lib.hid (fun wq (hb : Below w10.heap.size w10 wq) => countR_any x.t (by have := HG.out.2; omega) wq ((T10.out.later hb).q))
            have C3 := Lib.hid (fun wq (hb : Below w10.heap.size w10 wq) => same7 HG.out.1 HG.out.2 wq ((T10.out.later hb).p) ((T10.out.later hb).q))
            generalize countM M x.t = cnt at C1 C2
            refine region_want 138 [Is (.pointer (some ⟨g, 0, none⟩)), Is (.pointer (some ⟨o, 1, none⟩)), Is (.agg #[.int .u32 x.t.e, .int .i64 x.t.d, .int .u32 x.t.a, .int .u32 x.t.b, .int .u32 x.t.c]), Is (.int .i64 cnt), Is (.pointer (some ⟨r, 0, none⟩)), Is (.pointer (some ⟨o, 1, none⟩)), Is (.agg #[.int .u32 x.t.e, .int .i64 x.t.d, .int .u32 x.t.a, .int .u32 x.t.b, .int .u32 x.t.c]), Is (.int .i64 cnt), Is (.bool false), Is (.bool false), Is (.pointer (some ⟨g, 0, none⟩)), Is (.pointer (some ⟨r, 0, none⟩)), Is (.bool true), Is (.bool false), Is (.bool false)] (by kernel_rfl) rfl (by kernel_rfl) ?_ ?_
            · exact ⟨keeps_is _, keeps_is _, keeps_is _, keeps_is _, keeps_is _, keeps_is _, keeps_is _, keeps_is _, keeps_is _, keeps_is _, keeps_is _, keeps_is _, keeps_is _, keeps_is _, keeps_is _, trivial⟩
            · intro fin hfin
              simp [lexPut, Act.put] at hfin
              refine ⟨⟨?_, ?_, ?_, ?_, ?_, ?_, ?_, ?_, ?_, ?_, ?_, ?_, ?_, ?_, ?_, trivial⟩, ?_⟩
              · intro v w3 hb hd
                exact done_plain rfl (yields_is (tells_move rfl (by rw [hfin]; rfl)) hb)
              · intro v w3 hb hd
                refine done_plain rfl (yields_run (u := .pointer (some ⟨o, 1, none⟩)) (w' := w3) ?_ (Below.refl _ _) rfl)
                rw [hfin]
                unfold execOp
                simp [go_sem, Act.eval]
              · intro v w3 hb hd
                have h1 : v 1 = _ := hd 1 (by kernel_rfl)
                obtain ⟨a0, a1, a2, a3, a4⟩ := HP5.out w3 hb
                refine done_plain rfl (yields_run (u := .agg #[.int .u32 x.t.e, .int .i64 x.t.d, .int .u32 x.t.a, .int .u32 x.t.b, .int .u32 x.t.c]) (w' := w3) ?_ (Below.refl _ _) rfl)
                rw [hfin]
                unfold execOp
                simp [go_sem, Act.eval, h1, a0, a1, a2, a3, a4]
              · intro v w3 hb hd
                have h0 : v 0 = _ := hd 0 (by kernel_rfl)
                have h2 : v 2 = _ := hd 2 (by kernel_rfl)
                refine done_plain rfl (yields_call (f := 17) rfl (vs := #[.pointer (some ⟨g, 0, none⟩), .agg #[.int .u32 x.t.e, .int .i64 x.t.d, .int .u32 x.t.a, .int .u32 x.t.b, .int .u32 x.t.c]]) (by rw [hfin]; simp [Act.eval, h0, h2]) rfl Try.func17 (by kernel_rfl) (by kernel_rfl) ?_)
                exact (C1.out w3 hb).mono fun e w' ⟨he, hb'⟩ => ⟨_, he, hb', rfl⟩
              · intro v w3 hb hd
                exact done_plain rfl (yields_is (tells_move rfl (by rw [hfin]; rfl)) hb)
              · intro v w3 hb hd
                refine done_plain rfl (yields_run (u := .pointer (some ⟨o, 1, none⟩)) (w' := w3) ?_ (Below.refl _ _) rfl)
                rw [hfin]
                unfold execOp
                simp [go_sem, Act.eval]
              · intro v w3 hb hd
                have h5 : v 5 = _ := hd 5 (by kernel_rfl)
                obtain ⟨a0, a1, a2, a3, a4⟩ := HP5.out w3 hb
                refine done_plain rfl (yields_run (u := .agg #[.int .u32 x.t.e, .int .i64 x.t.d, .int .u32 x.t.a, .int .u32 x.t.b, .int .u32 x.t.c]) (w' := w3) ?_ (Below.refl _ _) rfl)
                rw [hfin]
                unfold execOp
                simp [go_sem, Act.eval, h5, a0, a1, a2, a3, a4]
              · intro v w3 hb hd
                have h4 : v 4 = _ := hd 4 (by kernel_rfl)
                have h6 : v 6 = _ := hd 6 (by kernel_rfl)
                refine done_plain rfl (yields_call (f := 18) rfl (vs := #[.pointer (some ⟨r, 0, none⟩), .agg #[.int .u32 x.t.e, .int .i64 x.t.d, .int .u32 x.t.a, .int .u32 x.t.b, .int .u32 x.t.c]]) (by rw [hfin]; simp [Act.eval, h4, h6]) rfl Try.func18 (by kernel_rfl) (by kernel_rfl) ?_)
                exact (C2.out w3 hb).mono fun e w' ⟨he, hb'⟩ => ⟨_, he, hb', rfl⟩
              · intro v w3 hb hd
                have h3 : v 3 = _ := hd 3 (by kernel_rfl)
                have h7 : v 7 = _ := hd 7 (by kernel_rfl)
                refine done_plain rfl (yields_run (u := .bool false) (w' := w3) ?_ (Below.refl _ _) rfl)
                rw [hfin]
                unfold execOp
                simp [go_sem, Act.eval, h3, h7]
              · intro v w3 hb hd
                have h8 : v 8 = _ := hd 8 (by kernel_rfl)
                exact done_plain rfl (yields_is (tells_move rfl (by rw [hfin]; exact h8)) hb)
              · intro v w3 hb hd
                exact done_want 9 false rfl (hd 9 (by kernel_rfl)) (yields_is (tells_move rfl (by rw [hfin]; rfl)) hb)
              · intro v w3 hb hd
                exact done_want 9 false rfl (hd 9 (by kernel_rfl)) (yields_is (tells_move rfl (by rw [hfin]; rfl)) hb)
              · intro v w3 hb hd
                have h10 : v 10 = _ := hd 10 (by kernel_rfl)
                have h11 : v 11 = _ := hd 11 (by kernel_rfl)
                refine done_want 9 false rfl (hd 9 (by kernel_rfl)) (yields_call (f := 19) rfl (vs := #[.pointer (some ⟨g, 0, none⟩), .pointer (some ⟨r, 0, none⟩)]) (by rw [hfin]; simp [Act.eval, h10, h11]) rfl Try.func19 (by kernel_rfl) (by kernel_rfl) ?_)
                exact (C3.out w3 hb).mono fun e w' ⟨he, hb'⟩ => ⟨_, he, hb', rfl⟩
              · intro v w3 hb hd
                have h12 : v 12 = _ := hd 12 (by kernel_rfl)
                refine done_want 9 false rfl (hd 9 (by kernel_rfl)) (yields_run (u := .bool false) (w' := w3) ?_ (Below.refl _ _) rfl)
                rw [hfin]
                unfold execOp
                simp [go_sem, Act.eval, h12]
              · intro v w3 hb hd
                have h9 : v 9 = _ := hd 9 (by kernel_rfl)
                have h13 : v 13 = _ := hd 13 (by kernel_rfl)
                refine done_plain rfl (yields_run (u := .bool false) (w' := w3) ?_ (Below.refl _ _) rfl)
                rw [hfin]
                unfold execOp
                simp [go_sem, Act.eval, h9, h13]
              · intro v w3 hb hv
                have h14 : v 14 = _ := hv 14 (by decide)
                rw [hfin]
                clear hfin hv
                rw [h14]
                clear h14
                have HZ := Lib.hid (T10.out.later hb)
                clear hb C1 C2 C3 HP5
                go_wp2_with fail
                go_roundw
                case rel => exact ⟨k + 1, g, b, B7, c7, r, A', a, B8, c8, N, M, by omega, by omega, rfl, rfl, by go_num, HZ, HG, hlN⟩
                case measure => simp [intOf]; omega
          · have e0 : (x.k == 0) = false := by simpa using hx0
            have e1 : (x.k == 1) = false := by simpa using hx1
            have hml := fun (M' : List TN) (G : GoodM dp M') (h : M'.length ≤ 4096) => mv_len G h hlF
            have C1 := Lib.hid (copy_any hlF _ HT.out.p)
            have AG := add_good (d := dp) HG.out.1 HG.out.2 ix.out 1
            have C2 := Lib.hid (fun W (hW : MulP W g dp b B cB F M) => add_any x.t ix.out 1 HG.out.1 HG.out.2 W hW)
            have C3 := Lib.hid (fun W (hW : MulP W g dp b B cB F (addV dp M x.t 1)) => moves_any AG.1 AG.2 hlF W hW)
            have C4 := Lib.hid (fun W (hW : MulR W r dp A' a M B' e F) => copyR_any HG.out.2 hlF W hW)
            clear hml
            go_upto_region 25 with (first
              | (go_at_call 15; refine C1.out.mono ?_; rintro e1 w4 ⟨g', b', B4, c4, rfl, h4, n1, n2, b4⟩; have P4 := Lib.hid h4; have T4 := Lib.hid (HT.out.later b4); have O4 := Lib.hid (HO.out.below b4 HO.out.inside); have nb : b' ≠ b := (by have := HT.out.inside; omega); have ng : g' ≠ g := (by have := HT.out.inside; omega); have hg' : w.heap.size ≤ g' := Nat.le_trans HT.out.bel.size n1; have hb' : w.heap.size ≤ b' := Nat.le_trans HT.out.bel.size n2; obtain ⟨a0, a1, a2, a3, a4⟩ := ob_t O4.out; clear h4 b4)
              | (go_at_call 10; refine (C2.out _ T4.out.p).mono ?_; rintro e1 w5 ⟨rfl, h5, g5⟩; have E5 := Lib.hid h5; have P5 := Lib.hid (P4.out.pastB T4.out.p nb g5); have Q5 := Lib.hid (T4.out.q.pastB T4.out.p.own g5); have O5 := Lib.hid (O4.out.grown g5 (by simpa using hob)); have B5 := Lib.hid (T4.out.bel.trans (add_below g5 T4.out.bel.size HT.out.hb)); clear h5 g5 a0 a1 a2 a3 a4)
              | (go_at_call 12; refine (C3.out _ E5.out).mono ?_; rintro e1 w6 ⟨D1, c1, D2, c2, B6, c6, rfl, -, -, -, g6⟩; have P6 := Lib.hid (P5.out.pastG E5.out ng g6); have Q6 := Lib.hid (Q5.out.pastG E5.out g6); have O6 := Lib.hid (O5.out.grown g6 (by simpa using hog)); have B6' := Lib.hid (B5.out.trans (add_below g6 B5.out.size HT.out.hg)); clear g6)
              | (go_at_call 16; refine (C4.out _ Q6.out).mono ?_; rintro e1 w7 ⟨r', A7, a7, B7, e7, rfl, h7, n7, b7⟩; have T7 : Hid (Two w w7 g' dp b' B4 c4 r' A7 a7 B7 e7 F M) := Lib.hid ⟨P6.out.below b7, h7, B6'.out.trans (b7.mono B6'.out.size), hg', hb', Nat.le_trans B6'.out.size n7⟩; have O7 := Lib.hid (O6.out.below b7 O6.out.inside); clear h7 b7))
            clear C1 C2 C3 C4 P4 T4 O4 E5 P5 Q5 O5 B5 P6 Q6 O6 B6' HT HO
            go_upto_region 25 with fail
            have HP5 := Lib.hid (fun wq (hb : Below w7.heap.size w7 wq) => ob_t (O7.out.below hb O7.out.inside))
            have C1 := Lib.hid (fun wq (hb : Below w7.heap.size w7 wq) => count_any x.t ix.out HG.out.1 wq ((T7.out.later hb).p))
            have C2 := Lib.hid (fun wq (hb : Below w7.heap.size w7 wq) => countR_any x.t (by have := HG.out.2; omega) wq ((T7.out.later hb).q))
            have C3 := Lib.hid (fun wq (hb : Below w7.heap.size w7 wq) => same7 HG.out.1 HG.out.2 wq ((T7.out.later hb).p) ((T7.out.later hb).q))
            generalize countM M x.t = cnt at C1 C2
            refine region_want 138 [Is (.pointer (some ⟨g', 0, none⟩)), Is (.pointer (some ⟨o, 1, none⟩)), Is (.agg #[.int .u32 x.t.e, .int .i64 x.t.d, .int .u32 x.t.a, .int .u32 x.t.b, .int .u32 x.t.c]), Is (.int .i64 cnt), Is (.pointer (some ⟨r', 0, none⟩)), Is (.pointer (some ⟨o, 1, none⟩)), Is (.agg #[.int .u32 x.t.e, .int .i64 x.t.d, .int .u32 x.t.a, .int .u32 x.t.b, .int .u32 x.t.c]), Is (.int .i64 cnt), Is (.bool false), Is (.bool false), Is (.pointer (some ⟨g', 0, none⟩)), Is (.pointer (some ⟨r', 0, none⟩)), Is (.bool true), Is (.bool false), Is (.bool false)] (by kernel_rfl) rfl (by kernel_rfl) ?_ ?_
            · exact ⟨keeps_is _, keeps_is _, keeps_is _, keeps_is _, keeps_is _, keeps_is _, keeps_is _, keeps_is _, keeps_is _, keeps_is _, keeps_is _, keeps_is _, keeps_is _, keeps_is _, keeps_is _, trivial⟩
            · intro fin hfin
              simp [lexPut, Act.put] at hfin
              refine ⟨⟨?_, ?_, ?_, ?_, ?_, ?_, ?_, ?_, ?_, ?_, ?_, ?_, ?_, ?_, ?_, trivial⟩, ?_⟩
              · intro v w3 hb hd
                exact done_plain rfl (yields_is (tells_move rfl (by rw [hfin]; rfl)) hb)
              · intro v w3 hb hd
                refine done_plain rfl (yields_run (u := .pointer (some ⟨o, 1, none⟩)) (w' := w3) ?_ (Below.refl _ _) rfl)
                rw [hfin]
                unfold execOp
                simp [go_sem, Act.eval]
              · intro v w3 hb hd
                have h1 : v 1 = _ := hd 1 (by kernel_rfl)
                obtain ⟨a0, a1, a2, a3, a4⟩ := HP5.out w3 hb
                refine done_plain rfl (yields_run (u := .agg #[.int .u32 x.t.e, .int .i64 x.t.d, .int .u32 x.t.a, .int .u32 x.t.b, .int .u32 x.t.c]) (w' := w3) ?_ (Below.refl _ _) rfl)
                rw [hfin]
                unfold execOp
                simp [go_sem, Act.eval, h1, a0, a1, a2, a3, a4]
              · intro v w3 hb hd
                have h0 : v 0 = _ := hd 0 (by kernel_rfl)
                have h2 : v 2 = _ := hd 2 (by kernel_rfl)
                refine done_plain rfl (yields_call (f := 17) rfl (vs := #[.pointer (some ⟨g', 0, none⟩), .agg #[.int .u32 x.t.e, .int .i64 x.t.d, .int .u32 x.t.a, .int .u32 x.t.b, .int .u32 x.t.c]]) (by rw [hfin]; simp [Act.eval, h0, h2]) rfl Try.func17 (by kernel_rfl) (by kernel_rfl) ?_)
                exact (C1.out w3 hb).mono fun e w' ⟨he, hb'⟩ => ⟨_, he, hb', rfl⟩
              · intro v w3 hb hd
                exact done_plain rfl (yields_is (tells_move rfl (by rw [hfin]; rfl)) hb)
              · intro v w3 hb hd
                refine done_plain rfl (yields_run (u := .pointer (some ⟨o, 1, none⟩)) (w' := w3) ?_ (Below.refl _ _) rfl)
                rw [hfin]
                unfold execOp
                simp [go_sem, Act.eval]
              · intro v w3 hb hd
                have h5 : v 5 = _ := hd 5 (by kernel_rfl)
                obtain ⟨a0, a1, a2, a3, a4⟩ := HP5.out w3 hb
                refine done_plain rfl (yields_run (u := .agg #[.int .u32 x.t.e, .int .i64 x.t.d, .int .u32 x.t.a, .int .u32 x.t.b, .int .u32 x.t.c]) (w' := w3) ?_ (Below.refl _ _) rfl)
                rw [hfin]
                unfold execOp
                simp [go_sem, Act.eval, h5, a0, a1, a2, a3, a4]
              · intro v w3 hb hd
                have h4 : v 4 = _ := hd 4 (by kernel_rfl)
                have h6 : v 6 = _ := hd 6 (by kernel_rfl)
                refine done_plain rfl (yields_call (f := 18) rfl (vs := #[.pointer (some ⟨r', 0, none⟩), .agg #[.int .u32 x.t.e, .int .i64 x.t.d, .int .u32 x.t.a, .int .u32 x.t.b, .int .u32 x.t.c]]) (by rw [hfin]; simp [Act.eval, h4, h6]) rfl Try.func18 (by kernel_rfl) (by kernel_rfl) ?_)
                exact (C2.out w3 hb).mono fun e w' ⟨he, hb'⟩ => ⟨_, he, hb', rfl⟩
              · intro v w3 hb hd
                have h3 : v 3 = _ := hd 3 (by kernel_rfl)
                have h7 : v 7 = _ := hd 7 (by kernel_rfl)
                refine done_plain rfl (yields_run (u := .bool false) (w' := w3) ?_ (Below.refl _ _) rfl)
                rw [hfin]
                unfold execOp
                simp [go_sem, Act.eval, h3, h7]
              · intro v w3 hb hd
                have h8 : v 8 = _ := hd 8 (by kernel_rfl)
                exact done_plain rfl (yields_is (tells_move rfl (by rw [hfin]; exact h8)) hb)
              · intro v w3 hb hd
                exact done_want 9 false rfl (hd 9 (by kernel_rfl)) (yields_is (tells_move rfl (by rw [hfin]; rfl)) hb)
              · intro v w3 hb hd
                exact done_want 9 false rfl (hd 9 (by kernel_rfl)) (yields_is (tells_move rfl (by rw [hfin]; rfl)) hb)
              · intro v w3 hb hd
                have h10 : v 10 = _ := hd 10 (by kernel_rfl)
                have h11 : v 11 = _ := hd 11 (by kernel_rfl)
                refine done_want 9 false rfl (hd 9 (by kernel_rfl)) (yields_call (f := 19) rfl (vs := #[.pointer (some ⟨g', 0, none⟩), .pointer (some ⟨r', 0, none⟩)]) (by rw [hfin]; simp [Act.eval, h10, h11]) rfl Try.func19 (by kernel_rfl) (by kernel_rfl) ?_)
                exact (C3.out w3 hb).mono fun e w' ⟨he, hb'⟩ => ⟨_, he, hb', rfl⟩
              · intro v w3 hb hd
                have h12 : v 12 = _ := hd 12 (by kernel_rfl)
                refine done_want 9 false rfl (hd 9 (by kernel_rfl)) (yields_run (u := .bool false) (w' := w3) ?_ (Below.refl _ _) rfl)
                rw [hfin]
                unfold execOp
                simp [go_sem, Act.eval, h12]
              · intro v w3 hb hd
                have h9 : v 9 = _ := hd 9 (by kernel_rfl)
                have h13 : v 13 = _ := hd 13 (by kernel_rfl)
                refine done_plain rfl (yields_run (u := .bool false) (w' := w3) ?_ (Below.refl _ _) rfl)
                rw [hfin]
                unfold execOp
                simp [go_sem, Act.eval, h9, h13]
              · intro v w3 hb hv
                have h14 : v 14 = _ := hv 14 (by decide)
                rw [hfin]
                clear hfin hv
                rw [h14]
                clear h14
                have HZ := Lib.hid (T7.out.later hb)
                clear hb C1 C2 C3 HP5
                go_wp2_with fail
                go_roundw
                case rel => exact ⟨k + 1, g', b', B4, c4, r', A7, a7, B7, e7, F, M, by omega, by omega, rfl, rfl, by go_num, HZ, HG, hlF⟩
                case measure => simp [intOf]; omega
      · obtain rfl : k = 60 := by omega
        have BB := HT0.out.bel
        go_wp2_with fail
        go_ret
        exact ⟨rfl, BB⟩
    · obtain rfl : k = L.length := by omega
      have BB := HT0.out.bel
      go_wp2_with fail
      go_ret
      exact ⟨rfl, BB⟩
end Go.Proofs.Ytomekndinopoaaa.multi
