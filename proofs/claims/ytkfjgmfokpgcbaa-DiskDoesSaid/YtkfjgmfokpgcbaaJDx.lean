/-
  The program's disk and the document's, side by side: neither turns what the other lies in, for their blocks are of other types.
  The walk of DiskDoes.
-/
import Derived.Test.YtkfjgmfokpgcbaaJRk4
import Derived.Test.YtkfjgmfokpgcbaaJRk6
import Derived.Test.YtkfjgmfokpgcbaaJRk7
import Derived.Test.YtkfjgmfokpgcbaaJRk8
import Derived.Test.YtkfjgmfokpgcbaaJKpy
import Derived.Test.YtkfjgmfokpgcbaaJKwk
import Derived.Test.YtkfjgmfokpgcbaaJKgr
set_option linter.unusedSimpArgs false
set_option linter.unusedVariables false
namespace Go.Proofs.Ytkfjgmfokpgcbaa.disk
open Go.ChangeShapes Go.WideShapes Go.ChangeAt Go.RowKit Go.Maps Go.WideMaps
open Go.Proofs.Ytkfjgmfokpgcbaa.words Go.Proofs.Ytkfjgmfokpgcbaa.opened Go.Proofs.Ytkfjgmfokpgcbaa.block Go.Proofs.Ytkfjgmfokpgcbaa.data Go.Proofs.Ytkfjgmfokpgcbaa.region

theorem whole_type {w : World} {g : Nat} {T U : TypeId} {a b : Array Value} (h : Whole w g T a) (k : Whole w g U b) : T = U := by
  have := Option.some.inj (h.symm.trans k)
  injection this
theorem blk_type {w : World} {g mb : Nat} {D : Dk} {E : List Fe} (h : DiskE w g mb D E) {k : Nat} (hk : blk g mb E k) {T : TypeId} {cs : Array Value} (hT : Whole w k T cs) : T = 54 ∨ T = 5 := by
  rcases hk with rfl | rfl | ⟨e, he, a, ha, rfl⟩
  · exact .inl (whole_type hT h.cells)
  · obtain ⟨es, -, xs, clock, hm, -⟩ := h.own
    have := hm.symm.trans hT
    simp at this
  · have hr := (h.rows e he).1
    rcases hr.2 with ⟨hv, -⟩ | ⟨b, cap, cur, hv, -, hg, -⟩
    · have : e.A = none := by
        unfold Fe.row at hv
        injection hv
      rw [this] at ha
      cases ha
    · have e1 : e.A = some ⟨b, 0, none⟩ := by
        unfold Fe.row at hv
        injection hv
      rw [e1] at ha
      cases ha
      exact .inr (whole_type hT hg)
theorem ref_type {w : World} {g : Nat} {D : Dk} {V : Value} {n : Int} (h : RefE w g D V n) : (∃ cs, Whole w g 28 cs) ∧ ∀ k, V.ownBlock = some k → ∃ cs, Whole w k 61 cs := by
  refine ⟨⟨_, h.cells⟩, fun k hk => ?_⟩
  rcases h.own.2 with ⟨hv, -⟩ | ⟨b, cap, cur, hv, -, hg, -⟩
  · rw [hv] at hk
    simp [Value.ownBlock] at hk
  · rw [hv] at hk
    obtain rfl : b = k := by simpa [Value.ownBlock] using hk
    exact ⟨cur, hg⟩
theorem t1 : 28 ≠ 54 ∧ 28 ≠ 5 ∧ 61 ≠ 54 ∧ 61 ≠ 5 ∧ 31 ≠ 54 ∧ 31 ≠ 5 ∧ 31 ≠ 28 ∧ 31 ≠ 61 := by decide
def Pr (z g : Nat) (D : Dk) (w : World) : Prop := ∃ mb E, DiskE w g mb D E ∧ ∀ k, blk g mb E k → z ≤ k
def Rf (z g : Nat) (D : Dk) (w : World) : Prop := ∃ V n, RefE w g D V n ∧ z ≤ g ∧ ∀ k, V.ownBlock = some k → z ≤ k
theorem Pr.below {z g : Nat} {D : Dk} {w w' : World} (h : Pr z g D w) (hb : Below w.heap.size w w') : Pr z g D w' := by
  obtain ⟨mb, E, h1, h2⟩ := h
  exact ⟨mb, E, h1.below hb, h2⟩
theorem Rf.below {z g : Nat} {D : Dk} {w w' : World} (h : Rf z g D w) (hb : Below w.heap.size w w') : Rf z g D w' := by
  obtain ⟨V, n, h1, h2, h3⟩ := h
  exact ⟨V, n, h1.below hb, h2, h3⟩
/-- What a call of the program's disk leaves. -/
structure PTurn (z : Nat) (w w' : World) : Prop where
  ref : ∀ g D, Rf z g D w → Rf z g D w'
  op : ∀ g cs, Whole w g 31 cs → Whole w' g 31 cs
  below : Below z w w'
/-- What a call of the document's disk leaves. -/
structure RTurn (z : Nat) (w w' : World) : Prop where
  pr : ∀ g D, Pr z g D w → Pr z g D w'
  op : ∀ g cs, Whole w g 31 cs → Whole w' g 31 cs
  below : Below z w w'
theorem RefE.turned {w w' : World} {g : Nat} {D : Dk} {V : Value} {n : Int} {S : Nat → Prop} (h : RefE w g D V n) (ht : Turn w w' S) (h1 : ¬ S g) (h2 : ∀ k, V.ownBlock = some k → ¬ S k) : RefE w' g D V n := by
  refine ⟨Whole.turn h.cells ht h1, h.left, ⟨h.own.1, ?_⟩, h.far⟩
  rcases h.own.2 with hx | ⟨b, cap, cur, hv, hb, hg, rest⟩
  · exact .inl hx
  · refine .inr ⟨b, cap, cur, hv, hb, ?_, rest⟩
    have hlt : b < w.heap.size := (Array.getElem?_eq_some_iff.1 hg).1
    exact (ht.block b hlt (h2 b (by rw [hv]; rfl))).trans hg
theorem prog_step {z g : Nat} {D D' : Dk} {w : World} {f : FuncId} {args : Array Value} {v : Value} (hz : z ≤ w.heap.size) (h : Pr z g D w)
    (hc : ∀ S, DiskP w S g D → Calls Try.prog f args w fun e w' => e = .returned v ∧ DiskP w' (More w S) g D' ∧ Turn w w' S) : Calls Try.prog f args w fun e w' => e = .returned v ∧ Pr z g D' w' ∧ PTurn z w w' := by
  obtain ⟨mb, E, h1, h2⟩ := h
  refine (hc (blk g mb E) ⟨mb, E, h1, fun k hk => hk⟩).mono fun e w' ⟨e1, ⟨mb2, E2, e2, e3⟩, ht⟩ => ⟨e1, ⟨mb2, E2, e2, fun k hk => ?_⟩, ?_⟩
  · rcases e3 k hk with h | h
    · exact h2 k h
    · omega
  · refine ⟨fun g2 D2 ⟨V, n, k1, k2, k3⟩ => ⟨V, n, ?_, k2, k3⟩, fun gx cs hw => ?_, ht.below hz h2⟩
    · obtain ⟨⟨c1, q1⟩, q2⟩ := ref_type k1
      refine k1.turned ht (fun hS => ?_) (fun k hk hS => ?_)
      · rcases blk_type h1 hS q1 with e | e
        · exact t1.1 e
        · exact t1.2.1 e
      · obtain ⟨c2, q3⟩ := q2 k hk
        rcases blk_type h1 hS q3 with e | e
        · exact t1.2.2.1 e
        · exact t1.2.2.2.1 e
    · refine Whole.turn hw ht (fun hS => ?_)
      rcases blk_type h1 hS hw with e | e
      · exact t1.2.2.2.2.1 e
      · exact t1.2.2.2.2.2.1 e
theorem ref_step {z g : Nat} {D D' : Dk} {w : World} {f : FuncId} {args : Array Value} {v : Value} (hz : z ≤ w.heap.size) (h : Rf z g D w)
    (hc : ∀ S, RefP w S g D → Calls Try.prog f args w fun e w' => e = .returned v ∧ RefP w' (More w S) g D' ∧ Turn w w' S) : Calls Try.prog f args w fun e w' => e = .returned v ∧ Rf z g D' w' ∧ RTurn z w w' := by
  obtain ⟨V, n, h1, h2, h3⟩ := h
  have hS2 : ∀ k, (k = g ∨ V.ownBlock = some k) → z ≤ k := fun k hk => by
    rcases hk with rfl | hk
    · exact h2
    · exact h3 k hk
  refine (hc (fun k => k = g ∨ V.ownBlock = some k) ⟨V, n, h1, .inl rfl, fun k hk => .inr hk⟩).mono fun e w' ⟨e1, ⟨V2, n2, e2, e3, e4⟩, ht⟩ => ⟨e1, ⟨V2, n2, e2, h2, fun k hk => ?_⟩, ?_⟩
  · rcases e4 k hk with h | h
    · exact hS2 k h
    · omega
  · obtain ⟨⟨c1, q1⟩, q2⟩ := ref_type h1
    refine ⟨fun g1 D1 ⟨mb, E, k1, k2⟩ => ⟨mb, E, k1.turn ht (fun k hk hS => ?_), k2⟩, fun gx cs hw => ?_, ht.below hz hS2⟩
    · rcases hS with rfl | hS
      · rcases blk_type k1 hk q1 with e | e
        · exact t1.1 e
        · exact t1.2.1 e
      · obtain ⟨c2, q3⟩ := q2 k hS
        rcases blk_type k1 hk q3 with e | e
        · exact t1.2.2.1 e
        · exact t1.2.2.2.1 e
    · refine Whole.turn hw ht (fun hS => ?_)
      rcases hS with rfl | hS
      · exact t1.2.2.2.2.2.2.1 (whole_type hw q1)
      · obtain ⟨c2, q3⟩ := q2 gx hS
        exact t1.2.2.2.2.2.2.2 (whole_type hw q3)

/-! ### Each call, in this form -/
section
variable {z g : Nat} {D : Dk} {w : World}
theorem appP (G : GoodD D) (hF : D.F.length ≤ 1000) (n s : Bs) (hn : n.length ≤ 100000) (hs : s.length ≤ 100000) (hz : z ≤ w.heap.size) (h : Pr z g D w) : Calls Try.prog 9 #[.pointer (some ⟨g, 0, none⟩), sV n, sV s] w fun e w' => e = .returned (.int .i64 (appE D n s)) ∧ Pr z g (appV D n s) w' ∧ PTurn z w w' :=
  prog_step hz h fun S hS => append_any G hF n s hn hs w hS
theorem synP (G : GoodD D) (hF : D.F.length ≤ 1000) (n : Bs) (hn : n.length ≤ 100000) (hz : z ≤ w.heap.size) (h : Pr z g D w) : Calls Try.prog 11 #[.pointer (some ⟨g, 0, none⟩), sV n] w fun e w' => e = .returned (.int .i64 (onE D n)) ∧ Pr z g (synV D n) w' ∧ PTurn z w w' :=
  prog_step hz h fun S hS => sync_any G hF n hn w hS
theorem remP (G : GoodD D) (n : Bs) (hn : n.length ≤ 100000) (hz : z ≤ w.heap.size) (h : Pr z g D w) : Calls Try.prog 13 #[.pointer (some ⟨g, 0, none⟩), sV n] w fun e w' => e = .returned (.int .i64 (onE D n)) ∧ Pr z g (remV D n) w' ∧ PTurn z w w' :=
  prog_step hz h fun S hS => remove_any G n hn w hS
theorem armP (m : Int) (hz : z ≤ w.heap.size) (h : Pr z g D w) : Calls Try.prog 15 #[.pointer (some ⟨g, 0, none⟩), .int .i64 m] w fun e w' => e = .returned (.tuple #[]) ∧ Pr z g (armV D m) w' ∧ PTurn z w w' :=
  prog_step hz h fun S hS => armS m w hS
theorem appR (G : GoodD D) (hF : D.F.length ≤ 1000) (n s : Bs) (hs : s.length ≤ 100000) (hz : z ≤ w.heap.size) (h : Rf z g D w) : Calls Try.prog 10 #[.pointer (some ⟨g, 0, none⟩), sV n, sV s] w fun e w' => e = .returned (.int .i64 (appE D n s)) ∧ Rf z g (appV D n s) w' ∧ RTurn z w w' :=
  ref_step hz h fun S hS => appendR_any G (by omega) n s hs w hS
theorem synR (G : GoodD D) (hF : D.F.length ≤ 1000) (n : Bs) (hz : z ≤ w.heap.size) (h : Rf z g D w) : Calls Try.prog 12 #[.pointer (some ⟨g, 0, none⟩), sV n] w fun e w' => e = .returned (.int .i64 (onE D n)) ∧ Rf z g (synV D n) w' ∧ RTurn z w w' :=
  ref_step hz h fun S hS => (syncR_any G (by omega) n w hS).mono fun e w' ⟨e1, ⟨V, n0, e2, e3, e4⟩, e5⟩ => ⟨e1, ⟨V, n0, e2, .inl e3, fun k hk => .inl (e4 k hk)⟩, e5⟩
theorem remR (G : GoodD D) (hF : D.F.length ≤ 1000) (n : Bs) (hz : z ≤ w.heap.size) (h : Rf z g D w) : Calls Try.prog 14 #[.pointer (some ⟨g, 0, none⟩), sV n] w fun e w' => e = .returned (.int .i64 (onE D n)) ∧ Rf z g (remV D n) w' ∧ RTurn z w w' :=
  ref_step hz h fun S hS => removeR_any G (by omega) n w hS
theorem armR (m : Int) (hz : z ≤ w.heap.size) (h : Rf z g D w) : Calls Try.prog 16 #[.pointer (some ⟨g, 0, none⟩), .int .i64 m] w fun e w' => e = .returned (.tuple #[]) ∧ Rf z g (armV D m) w' ∧ RTurn z w w' :=
  ref_step hz h fun S ⟨V, n0, h1, h2, h3⟩ => (armR_any m w h1).mono fun e w' ⟨e1, e2, e3, _⟩ => ⟨e1, ⟨V, m, e2, .inl h2, fun k hk => .inl (h3 k hk)⟩, turn_grown e3 (S := S) fun k e => by cases e; exact h2⟩
theorem menR (G : GoodD D) (hF : D.F.length ≤ 1000) (K : Option Addr) (kc : Nat) (keep : List Int) (hk : ∀ x ∈ keep, x ≤ 9223372036854775807) (hkl : keep.length ≤ 100000) (hz : z ≤ w.heap.size) (h : Rf z g D w) (hK : Lies w K (keep.map (Value.int .i64))) : Calls Try.prog 18 #[.pointer (some ⟨g, 0, none⟩), .slice K keep.length kc] w fun e w' => e = .returned (.tuple #[]) ∧ Rf z g (mendV D keep) w' ∧ RTurn z w w' :=
  ref_step hz h fun S hS => mendR_any G (by omega) K kc keep hk hkl w hS hK
theorem copP (G : GoodD D) (hF : D.F.length ≤ 1000) (hz : z ≤ w.heap.size) (h : Pr z g D w) : Calls Try.prog 19 #[.pointer (some ⟨g, 0, none⟩)] w fun e w' => ∃ g', e = .returned (.pointer (some ⟨g', 0, none⟩)) ∧ Pr z g' D w' ∧ Below w.heap.size w w' := by
  obtain ⟨mb, E, h1, h2⟩ := h
  refine (copy_any G hF w h1).mono fun e w' ⟨e1, ⟨mb2, E2, e2, e3⟩, e4⟩ => ⟨_, e1, ⟨mb2, E2, e2, fun k hk => ?_⟩, e4⟩
  have := e3 k hk
  omega
theorem copR (hF : D.F.length ≤ 1000) (hz : z ≤ w.heap.size) (h : Rf z g D w) : Calls Try.prog 20 #[.pointer (some ⟨g, 0, none⟩)] w fun e w' => ∃ g', e = .returned (.pointer (some ⟨g', 0, none⟩)) ∧ Rf z g' D w' ∧ Below w.heap.size w w' := by
  obtain ⟨V, n, h1, h2, h3⟩ := h
  refine (copyR_any (S := fun _ => True) (by omega) w ⟨V, n, h1, trivial, fun _ _ => trivial⟩).mono fun e w' ⟨g', e1, ⟨V2, n2, e2, e3, e4⟩, e5⟩ => ⟨g', e1, ⟨V2, n2, e2, by omega, fun k hk => ?_⟩, e5⟩
  have := e4 k hk
  omega
/-- Mend of the program's disk, by a row that lies below it or in a block of ints. -/
theorem menP (G : GoodD D) (hF : D.F.length ≤ 1000) (K : Option Addr) (kc : Nat) (keep : List Int) (hk : ∀ x ∈ keep, x ≤ 9223372036854775807) (hkl : keep.length ≤ 100000) (hz : z ≤ w.heap.size) (h : Pr z g D w) (hK : Lies w K (keep.map (Value.int .i64))) (hKn : ∀ a, K = some a → ∃ cs, Whole w a.block 3 cs) : Calls Try.prog 17 #[.pointer (some ⟨g, 0, none⟩), .slice K keep.length kc] w fun e w' => e = .returned (.tuple #[]) ∧ Pr z g (mendV D keep) w' ∧ PTurn z w w' := by
  obtain ⟨mb, E, h1, h2⟩ := h
  have hb : ∀ a, K = some a → ¬ blk g mb E a.block := fun a ha hS => by
    obtain ⟨cs, hw⟩ := hKn a ha
    rcases blk_type h1 hS hw with e | e
    · exact absurd e (by decide)
    · exact absurd e (by decide)
  -- the step for the disk's own blocks alone
  have h0 : Pr z g D w := ⟨mb, E, h1, h2⟩
  refine (mend_any G hF K kc keep hk hkl w (S := blk g mb E) ⟨mb, E, h1, fun k hk => hk⟩ hK hb).mono fun e w' ⟨e1, ⟨mb2, E2, e2, e3⟩, ht⟩ => ⟨e1, ⟨mb2, E2, e2, fun k hk => ?_⟩, ?_⟩
  · rcases e3 k hk with h | h
    · exact h2 k h
    · omega
  · refine ⟨fun g2 D2 ⟨V, n, k1, k2, k3⟩ => ⟨V, n, ?_, k2, k3⟩, fun gx cs hw => ?_, ht.below hz h2⟩
    · obtain ⟨⟨c1, q1⟩, q2⟩ := ref_type k1
      refine k1.turned ht (fun hS => ?_) (fun k hk hS => ?_)
      · rcases blk_type h1 hS q1 with e | e
        · exact t1.1 e
        · exact t1.2.1 e
      · obtain ⟨c2, q3⟩ := q2 k hk
        rcases blk_type h1 hS q3 with e | e
        · exact t1.2.2.1 e
        · exact t1.2.2.2.1 e
    · refine Whole.turn hw ht (fun hS => ?_)
      rcases blk_type h1 hS hw with e | e
      · exact t1.2.2.2.2.1 e
      · exact t1.2.2.2.2.2.1 e
end
end Go.Proofs.Ytkfjgmfokpgcbaa.disk
set_option linter.unusedSimpArgs false
set_option linter.unusedVariables false
namespace Go.Proofs.Ytkfjgmfokpgcbaa.disk
open Go.ChangeShapes Go.WideShapes Go.ChangeAt Go.RowKit Go.Maps Go.WideMaps
open Go.Proofs.Ytkfjgmfokpgcbaa.words Go.Proofs.Ytkfjgmfokpgcbaa.opened Go.Proofs.Ytkfjgmfokpgcbaa.block Go.Proofs.Ytkfjgmfokpgcbaa.data Go.Proofs.Ytkfjgmfokpgcbaa.region

abbrev opC (o : Oa) : Array Value := #[.int .i64 o.k, sV o.n, sV o.s, .int .i64 o.m, .slice o.K o.keep.length o.kc]
def AtP (x : Int) (z g : Nat) (D : Dk) : Value → World → Prop := fun u w => u = .int .i64 x ∧ Pr z g D w
theorem keeps_atP (x : Int) (z g : Nat) (D : Dk) : Keeps (AtP x z g D) := fun _ _ _ hb ⟨h1, h2⟩ => ⟨h1, h2.below hb⟩
def AtR (x : Int) (z g : Nat) (D : Dk) : Value → World → Prop := fun u w => u = .int .i64 x ∧ Rf z g D w
theorem keeps_atR (x : Int) (z g : Nat) (D : Dk) : Keeps (AtR x z g D) := fun _ _ _ hb ⟨h1, h2⟩ => ⟨h1, h2.below hb⟩
def OpW (z : Nat) (w3 : World) (gz : Nat) (o : Oa) (w : World) : Prop := Below z w3 w ∧ Whole w gz 31 (opC o)
theorem OpW.below {z gz : Nat} {w3 w w' : World} {o : Oa} (hz : z ≤ w3.heap.size) (h : OpW z w3 gz o w) (hb : Below w.heap.size w w') : OpW z w3 gz o w' := ⟨h.1.trans (hb.mono (Nat.le_trans hz h.1.size)), h.2.below hb h.2.inside⟩
section
variable {z g g2 : Nat} {E : Dk}
theorem read_pr (G : GoodD E) (n : Bs) (hn : n.length ≤ 100000) (W : World) (h : Pr z g E W) : Calls Try.prog 21 #[.pointer (some ⟨g, 0, none⟩), sV n] W fun e w' => e = .returned (.tuple #[sV (readV E n), .int .i64 (readE E n)]) ∧ Below W.heap.size W w' := by
  obtain ⟨mb, F, h1, -⟩ := h
  exact read_any n hn W h1
theorem lasts_pr (G : GoodD E) (n : Bs) (hn : n.length ≤ 100000) (W : World) (h : Pr z g E W) : Calls Try.prog 23 #[.pointer (some ⟨g, 0, none⟩), sV n] W fun e w' => e = .returned (.int .i64 (oldL E.F n : Int)) ∧ Below W.heap.size W w' := by
  obtain ⟨mb, F, h1, -⟩ := h
  exact (lasts_any n hn W h1).mono fun e w' ⟨a, b⟩ => ⟨a, b ▸ Below.refl _ _⟩
theorem read_rf (hF : E.F.length ≤ 100000) (n : Bs) (W : World) (h : Rf z g E W) : Calls Try.prog 22 #[.pointer (some ⟨g, 0, none⟩), sV n] W fun e w' => e = .returned (.tuple #[sV (readV E n), .int .i64 (readE E n)]) ∧ W = w' := by
  obtain ⟨V, m, h1, -, -⟩ := h
  exact readR_any hF n W h1
theorem lasts_rf (hF : E.F.length ≤ 100000) (n : Bs) (W : World) (h : Rf z g E W) : Calls Try.prog 24 #[.pointer (some ⟨g, 0, none⟩), sV n] W fun e w' => e = .returned (.int .i64 (oldL E.F n : Int)) ∧ Below W.heap.size W w' := by
  obtain ⟨V, m, h1, -, -⟩ := h
  exact (lastsR_any hF n W h1).mono fun e w' ⟨a, b⟩ => ⟨a, b ▸ Below.refl _ _⟩
theorem same_pr (G : GoodD E) (hF : E.F.length ≤ 1000) (W : World) (h : Pr z g E W) (k : Rf z g2 E W) : Calls Try.prog 25 #[.pointer (some ⟨g, 0, none⟩), .pointer (some ⟨g2, 0, none⟩)] W fun e w' => e = .returned (.bool true) ∧ Below W.heap.size W w' := by
  obtain ⟨mb, F, h1, -⟩ := h
  obtain ⟨V, m, k1, -, -⟩ := k
  exact sameD_any (S1 := fun _ => True) (S2 := fun _ => True) G hF W ⟨mb, F, h1, fun _ _ => trivial⟩ ⟨V, m, k1, trivial, fun _ _ => trivial⟩
end
theorem start_rf {z : Nat} (w : World) (hz : z ≤ w.heap.size) : Rf z w.heap.size K0 (w.alloc (.cells #[.slice none 0 0, .bool false, .int .i64 0, .bool false] 28)) := by
  refine ⟨.slice none 0 0, 0, ⟨?_, fun h => absurd h (by decide), ownG_nil _ _, by simp [Value.ownBlock]⟩, hz, fun k h => by simp [Value.ownBlock] at h⟩
  show Whole _ _ _ #[.slice none 0 0, .bool (decide ((0 : Int) ≤ -1)), .int .i64 0, .bool false]
  rw [decide_eq_false (by decide)]
  exact Whole.fresh w _ _
section
variable {z g : Nat} {D D' : Dk} {w : World}
/-- Mend of the program's disk, by a row that is newer than w0. -/
theorem menP2 {w0 : World} (G : GoodD D) (hF : D.F.length ≤ 1000) (K : Option Addr) (kc : Nat) (keep : List Int) (hk : ∀ x ∈ keep, x ≤ 9223372036854775807) (hkl : keep.length ≤ 100000) (hz : z ≤ w0.heap.size) (h : Pr z g D w0) (hb : Below w0.heap.size w0 w) (hK : Lies w K (keep.map (Value.int .i64))) (hKn : ∀ a, K = some a → w0.heap.size ≤ a.block) : Calls Try.prog 17 #[.pointer (some ⟨g, 0, none⟩), .slice K keep.length kc] w fun e w' => e = .returned (.tuple #[]) ∧ Pr z g (mendV D keep) w' ∧ PTurn z w w' := by
  obtain ⟨mb, E, h1, h2⟩ := h
  have h0 := h1.below hb
  have hnk : ∀ a, K = some a → ¬ blk g mb E a.block := fun a ha hS => by
    have := hKn a ha
    have := h1.inside hS
    omega
  refine (mend_any G hF K kc keep hk hkl w (S := blk g mb E) ⟨mb, E, h0, fun k hk => hk⟩ hK hnk).mono fun e w' ⟨e1, ⟨mb2, E2, e2, e3⟩, ht⟩ => ⟨e1, ⟨mb2, E2, e2, fun k hk => ?_⟩, ?_⟩
  · rcases e3 k hk with h | h
    · exact h2 k h
    · have := hb.size; omega
  · refine ⟨fun g2 D2 ⟨V, n, k1, k2, k3⟩ => ⟨V, n, ?_, k2, k3⟩, fun gx cs hw => ?_, ht.below (Nat.le_trans hz hb.size) h2⟩
    · obtain ⟨⟨c1, q1⟩, q2⟩ := ref_type k1
      refine k1.turned ht (fun hS => ?_) (fun k hk hS => ?_)
      · rcases blk_type h0 hS q1 with e | e
        · exact t1.1 e
        · exact t1.2.1 e
      · obtain ⟨c2, q3⟩ := q2 k hk
        rcases blk_type h0 hS q3 with e | e
        · exact t1.2.2.1 e
        · exact t1.2.2.2.1 e
    · refine Whole.turn hw ht (fun hS => ?_)
      rcases blk_type h0 hS hw with e | e
      · exact t1.2.2.2.2.1 e
      · exact t1.2.2.2.2.2.1 e
/-- A disk and its copy. -/
def Two (z g g3 : Nat) (D1 D : Dk) (w : World) : Prop := ∃ mb E mb3 E3, DiskE w g mb D1 E ∧ (∀ k, blk g mb E k → z ≤ k) ∧ DiskE w g3 mb3 D E3 ∧ (∀ k, blk g3 mb3 E3 k → z ≤ k) ∧ ∀ k, blk g mb E k → ¬ blk g3 mb3 E3 k
theorem Two.copy {g3 : Nat} {D1 : Dk} (h : Two z g g3 D1 D w) : Pr z g3 D w := by
  obtain ⟨mb, E, mb3, E3, h1, h2, h3, h4, h5⟩ := h
  exact ⟨mb3, E3, h3, h4⟩
theorem copT (G : GoodD D) (hF : D.F.length ≤ 1000) (hz : z ≤ w.heap.size) (h : Pr z g D w) : Calls Try.prog 19 #[.pointer (some ⟨g, 0, none⟩)] w fun e w' => ∃ g3, e = .returned (.pointer (some ⟨g3, 0, none⟩)) ∧ Two z g g3 D D w' ∧ Below w.heap.size w w' := by
  obtain ⟨mb, E, h1, h2⟩ := h
  refine (copy_any G hF w h1).mono fun e w' ⟨e1, ⟨mb2, E2, e2, e3⟩, e4⟩ => ⟨_, e1, ⟨mb, E, mb2, E2, h1.below e4, h2, e2, fun k hk => ?_, fun k hk hk3 => ?_⟩, e4⟩
  · have := e3 k hk; omega
  · have := e3 k hk3
    have := h1.inside hk
    omega
theorem two_step {g3 : Nat} {D1 : Dk} {f : FuncId} {args : Array Value} {v : Value} (hz : z ≤ w.heap.size) (h : Two z g g3 D1 D w)
    (hc : ∀ S, DiskP w S g D1 → Calls Try.prog f args w fun e w' => e = .returned v ∧ DiskP w' (More w S) g D' ∧ Turn w w' S) : Calls Try.prog f args w fun e w' => e = .returned v ∧ Two z g g3 D' D w' ∧ PTurn z w w' := by
  obtain ⟨mb, E, mb3, E3, h1, h2, h3, h4, h5⟩ := h
  refine (hc (blk g mb E) ⟨mb, E, h1, fun k hk => hk⟩).mono fun e w' ⟨e1, ⟨mb2, E2, e2, e3⟩, ht⟩ => ⟨e1, ⟨mb2, E2, mb3, E3, e2, fun k hk => ?_, h3.turn ht (fun k hk hS => h5 k hS hk), h4, fun k hk hk3 => ?_⟩, ?_⟩
  · rcases e3 k hk with h | h
    · exact h2 k h
    · omega
  · rcases e3 k hk with h | h
    · exact h5 k h hk3
    · have := h3.inside hk3; omega
  · refine ⟨fun g2 D2 ⟨V, n, k1, k2, k3⟩ => ⟨V, n, ?_, k2, k3⟩, fun gx cs hw => ?_, ht.below hz h2⟩
    · obtain ⟨⟨c1, q1⟩, q2⟩ := ref_type k1
      refine k1.turned ht (fun hS => ?_) (fun k hk hS => ?_)
      · rcases blk_type h1 hS q1 with e | e
        · exact t1.1 e
        · exact t1.2.1 e
      · obtain ⟨c2, q3⟩ := q2 k hk
        rcases blk_type h1 hS q3 with e | e
        · exact t1.2.2.1 e
        · exact t1.2.2.2.1 e
    · refine Whole.turn hw ht (fun hS => ?_)
      rcases blk_type h1 hS hw with e | e
      · exact t1.2.2.2.2.1 e
      · exact t1.2.2.2.2.2.1 e
theorem appT {g3 : Nat} (G : GoodD D) (hF : D.F.length ≤ 1000) (hz : z ≤ w.heap.size) (h : Two z g g3 D D w) : Calls Try.prog 9 #[.pointer (some ⟨g, 0, none⟩), sV [108, 101, 102, 116], sV [98, 101, 104, 105, 110, 100]] w fun e w' => e = .returned (.int .i64 (appE D [108, 101, 102, 116] [98, 101, 104, 105, 110, 100])) ∧ Two z g g3 (appV D [108, 101, 102, 116] [98, 101, 104, 105, 110, 100]) D w' ∧ PTurn z w w' :=
  two_step hz h fun S hS => append_any G hF _ _ (by decide) (by decide) w hS
theorem menT {g3 : Nat} {D1 : Dk} (G : GoodD D1) (hF : D1.F.length ≤ 1000) (hz : z ≤ w.heap.size) (h : Two z g g3 D1 D w) : Calls Try.prog 17 #[.pointer (some ⟨g, 0, none⟩), .slice none 0 0] w fun e w' => e = .returned (.tuple #[]) ∧ Two z g g3 (mendV D1 []) D w' ∧ PTurn z w w' :=
  two_step hz h fun S hS => mend_any G hF none 0 [] (by simp) (by simp) w hS (.inl rfl) (fun a ha => by cases ha)
end
set_option maxRecDepth 100000 in
set_option maxHeartbeats 8000000 in
theorem walkDoes (A : Option Addr) (c : Nat) (L : List Oa) (_hLl : L.length ≤ 4611686018427387903) (w : World) (hL : Acts w A L) :
    Calls Try.prog 3 #[.slice A L.length c] w fun e w' => e = .returned (.bool true) ∧ Below w.heap.size w w' := by
  have HL := Lib.hid hL
  have HIN : Hid (∀ o ∈ L, o.In) := Lib.hid (fun o ho => (hL.2 o ho).1)
  have HN : Hid (Calls Try.prog 7 #[] w fun e w' => ∃ g1, e = .returned (.pointer (some ⟨g1, 0, none⟩)) ∧ Pr w.heap.size g1 K0 w' ∧ Below w.heap.size w w') := Lib.hid ((newB w w.heap.size (Nat.le_refl _)).mono fun e w' ⟨h1, ⟨mb, E, h2, h3⟩, h4⟩ => ⟨_, h1, ⟨mb, E, h2, h3⟩, h4⟩)
  clear hL
  go_enter Try.func3, Try.ntmps3
  go_upto_region 2 with (go_at_call 7; refine HN.out.mono ?_; rintro e w1 ⟨g1, rfl, p1, b1⟩; have HP1 := Lib.hid p1; have HB1 := Lib.hid b1; clear p1 b1)
  clear HN
  have b2 := fresh0 w1 (.cells #[.slice none 0 0, .bool false, .int .i64 0, .bool false] 28)
  have HP2 := Lib.hid (HP1.out.below b2)
  have HR2 := Lib.hid (start_rf w1 HB1.out.size)
  have HB2 := Lib.hid (HB1.out.trans (b2.mono HB1.out.size))
  clear HP1 HB1 b2
  change Code.wp _ _ _ _ (w1.alloc (.cells #[.slice none 0 0, .bool false, .int .i64 0, .bool false] 28))
  generalize w1.alloc (.cells #[.slice none 0 0, .bool false, .int .i64 0, .bool false] 28) = w2 at HP2 HR2 HB2 ⊢
  generalize w1.heap.size = g2 at HR2 ⊢
  go_wp2_with fail
  go_loopw [3, 4, 5] (fun v3 v4 s wr => ∃ (k g1 g2 : Nat), k ≤ L.length ∧ k ≤ 60 ∧ s = .int .i64 k ∧ v3 = .pointer (some ⟨g1, 0, none⟩) ∧ v4 = .pointer (some ⟨g2, 0, none⟩) ∧ Hid (Pr w.heap.size g1 (runO (L.take k) K0) wr) ∧ Hid (Rf w.heap.size g2 (runO (L.take k) K0) wr) ∧ Hid (Below w.heap.size w wr)) (fun _ _ s _ => L.length - (intOf s).toNat)
  case atStart => exact ⟨0, g1, g2, Nat.zero_le _, by omega, rfl, rfl, rfl, HP2, HR2, HB2⟩
  case round =>
    clear HP2 HR2 HB2
    rename World => wr
    obtain ⟨k, g1, g2, hk, hk60, rfl, rfl, rfl, HP, HR, HB⟩ := hrel
    by_cases hgo : k < L.length ∧ k < 60
    · obtain ⟨hlt, hlt60⟩ := hgo
      obtain ⟨o, ho⟩ : ∃ o, L[k]? = some o := ⟨_, List.getElem?_eq_getElem hlt⟩
      have HLr := HL.out.below HB.out
      obtain ⟨b, off, hA, hb, c0, c1, c2, c3, c4⟩ := HLr.at ho
      obtain ⟨oi, hkl⟩ := HLr.keep ho
      subst hA
      have hnx := run_take ho K0
      have GD := good_run g0 (L := L.take k) (fun x hx => HIN.out x (List.mem_of_mem_take hx))
      have hFk : (runO (L.take k) K0).F.length ≤ 60 := by
        have := run_F K0 (L.take k)
        rw [List.length_take] at this
        have h0 : K0.F.length = 0 := rfl
        omega
      have HKA : Hid (∀ a, o.K = some a → a.block < w.heap.size ∨ o.keep = []) := Lib.hid (fun a ha => by
        rcases (HL.out.keep ho).2 with h | ⟨b', off', e, hb', -⟩
        · exact .inr (by simpa using h)
        · rw [ha] at e; cases e; exact .inl hb')
      generalize runO (L.take k) K0 = D at HP HR GD hFk hnx
      obtain ⟨E, hE⟩ : ∃ E, stepO D o = E := ⟨_, rfl⟩
      have HE : Hid (GoodD E ∧ E.F.length ≤ 61) := Lib.hid ⟨hE ▸ good_step GD oi, by have := step_F D o; rw [hE] at this; omega⟩
      rw [hE] at hnx
      have HGD := Lib.hid GD
      have HO := Lib.hid ho
      have HGR := Lib.hid (great_any o oi)
      have b2 := fresh1' wr (.cells (opC o) 31)
      have HPx := Lib.hid (HP.out.below b2)
      have HRx := Lib.hid (HR.out.below b2)
      have HBx := Lib.hid (HB.out.trans (b2.mono HB.out.size))
      have hk2 := Lib.hid (Lies.below hkl b2)
      have OZ := Lib.hid (Whole.fresh wr 31 (opC o))
      clear HLr ho b2 hkl HP HR HB GD
      go_upto_region 8 with fail
      change Code.wp _ _ _ _ (wr.alloc (.cells (opC o) 31))
      generalize wr.alloc (.cells (opC o) 31) = wx at HPx HRx HBx hk2 OZ ⊢
      generalize wr.heap.size = gz at OZ ⊢
      clear c0 c1 c2 c3 c4 hb
      have z0 : wx.cell? ⟨gz, 0, none⟩ = some (.int .i64 o.k) := OZ.out.read 0
      have z1 : wx.cell? ⟨gz, 1, none⟩ = some (sV o.n) := OZ.out.read 1
      have z2 : wx.cell? ⟨gz, 2, none⟩ = some (sV o.s) := OZ.out.read 2
      have z3 : wx.cell? ⟨gz, 3, none⟩ = some (.int .i64 o.m) := OZ.out.read 3
      have z4 : wx.cell? ⟨gz, 4, none⟩ = some (.slice o.K o.keep.length o.kc) := OZ.out.read 4
      have GR := Lib.hid (HGR.out wx)
      cases hgr : greatB o with
      | true =>
        rw [hgr] at GR
        clear hgr
        go_wp2_with (go_at_call 8; refine GR.out.mono ?_; rintro e w3 ⟨rfl, b3⟩; have B3 := Lib.hid (HBx.out.trans (b3.mono HBx.out.size)); clear b3)
        go_ret
        exact ⟨rfl, B3.out⟩
      | false =>
      rw [hgr] at GR
      have HSM := Lib.hid (great_no hgr)
      clear hgr
      go_upto_region 10 with (go_at_call 8; refine GR.out.mono ?_; rintro e w3 ⟨rfl, b3⟩; have HP3 := Lib.hid (HPx.out.below b3); have HR3 := Lib.hid (HRx.out.below b3); have OZ3 := Lib.hid (OZ.out.below b3 OZ.out.inside); have HB3 := Lib.hid (HBx.out.trans (b3.mono HBx.out.size)); have HK3 := Lib.hid (Lies.below hk2.out b3); clear b3)
      clear GR HGR HPx HRx HBx hk2 OZ z0 z1 z2 z3 z4
      have HZ3 := Lib.hid HB3.out.size
      have z0 : w3.cell? ⟨gz, 0, none⟩ = some (.int .i64 o.k) := OZ3.out.read 0
      by_cases hq : o.k = 0
      · have HNX : Hid (runO (L.take (k + 1)) K0 = E) := Lib.hid hnx
        have HDV : Hid (appV D o.n o.s = E) := Lib.hid (by rw [← hE]; unfold stepO; rw [if_pos hq])
        have HEV : Hid True := Lib.hid trivial
        rw [hq] at z0
        clear hq
        go_upto_region 19 with fail
        clear z0
        refine region_fullZ 144 [] [] [] (fun k => k == 5 || k == 11) (OpW w.heap.size w3 gz o) ?hR ?r0 [pdOne 0 (Is (.pointer (some ⟨g1, 0, none⟩))), pdOne 1 (Is (.pointer (some ⟨gz, 1, none⟩))), pdOne 2 (Is (sV o.n)), pdOne 3 (Is (.pointer (some ⟨gz, 2, none⟩))), pdOne 4 (Is (sV o.s)), pdOne 5 (AtP (appE D o.n o.s) w.heap.size g1 (appV D o.n o.s)), pdOne 6 (Is (.pointer (some ⟨g2, 0, none⟩))), pdOne 7 (Is (.pointer (some ⟨gz, 1, none⟩))), pdOne 8 (Is (sV o.n)), pdOne 9 (Is (.pointer (some ⟨gz, 2, none⟩))), pdOne 10 (Is (sV o.s)), pdOne 11 (AtR (appE D o.n o.s) w.heap.size g2 (appV D o.n o.s)), pdOne 12 (Is (.bool false))] (fun k w7 => (k = 5 → Pr w.heap.size g1 D w7) ∧ (k = 11 → Rf w.heap.size g2 D w7)) (by kernel_rfl) rfl (by kernel_rfl) (by kernel_rfl) (by kernel_rfl) (by kernel_rfl) (by kernel_rfl) ?keep ?hO ?h0 ?tell
        case hR => exact fun wa wb hb h => OpW.below HZ3.out h hb
        case r0 => exact ⟨Below.refl _ _, OZ3.out⟩
        case hO => exact fun _ wa wb hb h => ⟨fun e => (h.1 e).below hb, fun e => (h.2 e).below hb⟩
        case h0 => exact fun _ _ => ⟨fun _ => HP3.out, fun _ => HR3.out⟩
        case keep => exact ⟨keep_one (keeps_is _), keep_one (keeps_is _), keep_one (keeps_is _), keep_one (keeps_is _), keep_one (keeps_is _), keep_one (keeps_atP _ _ _ _), keep_one (keeps_is _), keep_one (keeps_is _), keep_one (keeps_is _), keep_one (keeps_is _), keep_one (keeps_is _), keep_one (keeps_atR _ _ _ _), keep_one (keeps_is _), trivial⟩
        case tell =>
          intro fin hfin
          simp [lexPut, Act.put] at hfin
          simp only [TellZ]
          refine ⟨⟨?_, ?_, ?_, ?_, ?_, ?_, ?_, ?_, ?_, ?_, ?_, ?_, ?_, trivial⟩, ?_⟩
          · intro v2 w7 hr hd
            refine ⟨by intro j b e; simp at e, ?_⟩
            refine yields_run (u := .pointer (some ⟨g1, 0, none⟩)) (w' := w7) ?_ (Below.refl _ _) rfl
            unfold execOp
            simp [go_sem, Act.eval, Act.put]
          · intro v2 w7 hr hd
            refine ⟨by intro j b e; simp at e, ?_⟩
            refine yields_run (u := .pointer (some ⟨gz, 1, none⟩)) (w' := w7) ?_ (Below.refl _ _) rfl
            unfold execOp
            simp [go_sem, Act.eval, Act.put]
          · intro v2 w7 hr hd
            refine ⟨by intro j b e; simp at e, ?_⟩
            have h1 : v2 1 = _ := hd 1 (by kernel_rfl)
            have hc : w7.cell? ⟨gz, 1, none⟩ = _ := Whole.read hr.2 1
            refine yields_run (u := sV o.n) (w' := w7) ?_ (Below.refl _ _) rfl
            unfold execOp
            simp [go_sem, Act.eval, Act.put, h1, hc]
          · intro v2 w7 hr hd
            refine ⟨by intro j b e; simp at e, ?_⟩
            refine yields_run (u := .pointer (some ⟨gz, 2, none⟩)) (w' := w7) ?_ (Below.refl _ _) rfl
            unfold execOp
            simp [go_sem, Act.eval, Act.put]
          · intro v2 w7 hr hd
            refine ⟨by intro j b e; simp at e, ?_⟩
            have h3 : v2 3 = _ := hd 3 (by kernel_rfl)
            have hc : w7.cell? ⟨gz, 2, none⟩ = _ := Whole.read hr.2 2
            refine yields_run (u := sV o.s) (w' := w7) ?_ (Below.refl _ _) rfl
            unfold execOp
            simp [go_sem, Act.eval, Act.put, h3, hc]
          · intro v2 w7 hr ho hd
            refine ⟨by intro j b e; simp at e, ?_⟩
            have h0 : v2 0 = _ := hd 0 (by kernel_rfl)
            have h2 : v2 2 = _ := hd 2 (by kernel_rfl)
            have h4 : v2 4 = _ := hd 4 (by kernel_rfl)
            refine .inl (yieldsW_callR (f := 9) rfl (vs := #[.pointer (some ⟨g1, 0, none⟩), sV o.n, sV o.s]) (by simp [Act.eval, Act.put, h0, h2, h4]) rfl Try.func9 (by kernel_rfl) (by kernel_rfl) ?_)
            refine (appP HGD.out (by omega) o.n o.s (by have := HSM.out; omega) (by have := HSM.out; omega) (Nat.le_trans HZ3.out hr.1.size) (ho.1 (by trivial))).mono fun e w' ⟨he, hp, ht⟩ => ⟨_, he, ⟨hr.1.trans (ht.below.mono (Nat.le_refl _)), ht.op _ _ hr.2⟩, ?_, ?_, rfl, hp⟩
            · intro k2 v' hk2 hc hu
              exact match k2, hk2, hu with
                | 0, _, hu => hu
                | 1, _, hu => hu
                | 2, _, hu => hu
                | 3, _, hu => hu
                | 4, _, hu => hu
                | 5, hk2, _ => absurd rfl hk2
                | 6, _, hu => hu
                | 7, _, hu => hu
                | 8, _, hu => hu
                | 9, _, hu => hu
                | 10, _, hu => hu
                | 11, _, ⟨q1, q2⟩ => ⟨q1, ht.ref _ _ q2⟩
                | 12, _, hu => hu
                | _ + 13, _, _ => trivial
            · intro k2 hk2 hn hc2 h
              exact ⟨fun e => absurd e hk2, fun e => ht.ref _ _ (h.2 e)⟩
          · intro v2 w7 hr hd
            refine ⟨by intro j b e; simp at e, ?_⟩
            refine yields_run (u := .pointer (some ⟨g2, 0, none⟩)) (w' := w7) ?_ (Below.refl _ _) rfl
            unfold execOp
            simp [go_sem, Act.eval, Act.put]
          · intro v2 w7 hr hd
            refine ⟨by intro j b e; simp at e, ?_⟩
            refine yields_run (u := .pointer (some ⟨gz, 1, none⟩)) (w' := w7) ?_ (Below.refl _ _) rfl
            unfold execOp
            simp [go_sem, Act.eval, Act.put]
          · intro v2 w7 hr hd
            refine ⟨by intro j b e; simp at e, ?_⟩
            have h7 : v2 7 = _ := hd 7 (by kernel_rfl)
            have hc : w7.cell? ⟨gz, 1, none⟩ = _ := Whole.read hr.2 1
            refine yields_run (u := sV o.n) (w' := w7) ?_ (Below.refl _ _) rfl
            unfold execOp
            simp [go_sem, Act.eval, Act.put, h7, hc]
          · intro v2 w7 hr hd
            refine ⟨by intro j b e; simp at e, ?_⟩
            refine yields_run (u := .pointer (some ⟨gz, 2, none⟩)) (w' := w7) ?_ (Below.refl _ _) rfl
            unfold execOp
            simp [go_sem, Act.eval, Act.put]
          · intro v2 w7 hr hd
            refine ⟨by intro j b e; simp at e, ?_⟩
            have h9 : v2 9 = _ := hd 9 (by kernel_rfl)
            have hc : w7.cell? ⟨gz, 2, none⟩ = _ := Whole.read hr.2 2
            refine yields_run (u := sV o.s) (w' := w7) ?_ (Below.refl _ _) rfl
            unfold execOp
            simp [go_sem, Act.eval, Act.put, h9, hc]
          · intro v2 w7 hr ho hd
            refine ⟨by intro j b e; simp at e, ?_⟩
            have h6 : v2 6 = _ := hd 6 (by kernel_rfl)
            have h8 : v2 8 = _ := hd 8 (by kernel_rfl)
            have h10 : v2 10 = _ := hd 10 (by kernel_rfl)
            refine .inl (yieldsW_callR (f := 10) rfl (vs := #[.pointer (some ⟨g2, 0, none⟩), sV o.n, sV o.s]) (by simp [Act.eval, Act.put, h6, h8, h10]) rfl Try.func10 (by kernel_rfl) (by kernel_rfl) ?_)
            refine (appR HGD.out (by omega) o.n o.s (by have := HSM.out; omega) (Nat.le_trans HZ3.out hr.1.size) (ho.2 (by trivial))).mono fun e w' ⟨he, hp, ht⟩ => ⟨_, he, ⟨hr.1.trans (ht.below.mono (Nat.le_refl _)), ht.op _ _ hr.2⟩, ?_, ?_, rfl, hp⟩
            · intro k2 v' hk2 hc hu
              exact match k2, hk2, hu with
                | 0, _, hu => hu
                | 1, _, hu => hu
                | 2, _, hu => hu
                | 3, _, hu => hu
                | 4, _, hu => hu
                | 5, _, ⟨q1, q2⟩ => ⟨q1, ht.pr _ _ q2⟩
                | 6, _, hu => hu
                | 7, _, hu => hu
                | 8, _, hu => hu
                | 9, _, hu => hu
                | 10, _, hu => hu
                | 11, hk2, _ => absurd rfl hk2
                | 12, _, hu => hu
                | _ + 13, _, _ => trivial
            · intro k2 hk2 hn hc2 h
              exact ⟨fun e => ht.pr _ _ (h.1 e), fun e => absurd e hk2⟩
          · intro v2 w7 hr hd
            refine ⟨by intro j b e; simp at e, ?_⟩
            obtain ⟨h5, -⟩ : AtP _ _ _ _ (v2 5) w7 := hd 5 (by kernel_rfl)
            obtain ⟨h11, -⟩ : AtR _ _ _ _ (v2 11) w7 := hd 11 (by kernel_rfl)
            refine yields_run (u := .bool false) (w' := w7) ?_ (Below.refl _ _) rfl
            unfold execOp
            simp [go_sem, Act.eval, Act.put, h5, h11]
          · intro v w7 hr hv
            have hl : v 12 = .bool false := hv 12 (by decide) (by kernel_rfl)
            have R7 := Lib.hid hr
            obtain ⟨-, p7⟩ : AtP _ _ _ _ (v 5) w7 := hv 5 (by decide) (by kernel_rfl)
            obtain ⟨-, q7⟩ : AtR _ _ _ _ (v 11) w7 := hv 11 (by decide) (by kernel_rfl)
            rw [HDV.out] at p7 q7
            have HPt := Lib.hid p7
            have HRt := Lib.hid q7
            have OZt := Lib.hid R7.out.2
            have HBt := Lib.hid (HB3.out.trans R7.out.1)
            have z1 : w7.cell? ⟨gz, 1, none⟩ = some (sV o.n) := OZt.out.read 1
            rw [hfin]
            clear hfin hv hr p7 q7 R7 HP3 HR3 OZ3 HB3
            generalize v 12 = vl at hl ⊢
            subst hl
            rename World => wt
            have RP := Lib.hid (read_pr HE.out.1 o.n (by have := HSM.out; omega) wt HPt.out)
            go_upto_region 34 with (go_at_call 21; refine RP.out.mono ?_; rintro e w5 ⟨rfl, b5⟩; have HP5 := Lib.hid (HPt.out.below b5); have HR5 := Lib.hid (HRt.out.below b5); have OZ5 := Lib.hid (OZt.out.below b5 OZt.out.inside); have HB5 := Lib.hid (HBt.out.trans (b5.mono HBt.out.size)); have z1 : w5.cell? ⟨gz, 1, none⟩ = some (sV o.n) := OZ5.out.read 1; clear b5)
            clear RP HPt HRt OZt HBt
            have RR := Lib.hid (read_rf (E := E) (by have := HE.out.2; omega) o.n w5 HR5.out)
            go_upto_region 35 with (go_at_call 22; refine RR.out.mono ?_; rintro e w6 ⟨rfl, rfl⟩)
            clear RR z1
            have LP := Lib.hid (fun W (b : Below w5.heap.size w5 W) => lasts_pr HE.out.1 o.n (by have := HSM.out; omega) W (HP5.out.below b))
            have LR := Lib.hid (fun W (b : Below w5.heap.size w5 W) => lasts_rf (E := E) (by have := HE.out.2; omega) o.n W (HR5.out.below b))
            have SD := Lib.hid (fun W (b : Below w5.heap.size w5 W) => same_pr HE.out.1 (by have := HE.out.2; omega) W (HP5.out.below b) (HR5.out.below b))
            refine region_fullZ 144 [] [] [] (fun _ => false) (fun w7 => Below w5.heap.size w5 w7) ?hR ?r0 [pdOne 0 (Is (sV (readV E o.n))), pdOne 1 (Is (sV (readV E o.n))), pdOne 2 (Is (.bool false)), pdOne 3 (Is (.bool false)), pdOne 4 (Is (.int .i64 (readE E o.n))), pdOne 5 (Is (.int .i64 (readE E o.n))), pdOne 6 (Is (.bool false)), pdOne 7 (Is (.bool false)), pdOne 8 (Is (.bool false)), pdOne 9 (Is (.pointer (some ⟨g1, 0, none⟩))), pdOne 10 (Is (.pointer (some ⟨gz, 1, none⟩))), pdOne 11 (Is (sV o.n)), pdOne 12 (Is (.int .i64 (oldL E.F o.n : Int))), pdOne 13 (Is (.pointer (some ⟨g2, 0, none⟩))), pdOne 14 (Is (.pointer (some ⟨gz, 1, none⟩))), pdOne 15 (Is (sV o.n)), pdOne 16 (Is (.int .i64 (oldL E.F o.n : Int))), pdOne 17 (Is (.bool false)), pdOne 18 (Is (.bool false)), pdOne 19 (Is (.bool false)), pdOne 20 (Is (.pointer (some ⟨g1, 0, none⟩))), pdOne 21 (Is (.pointer (some ⟨g2, 0, none⟩))), pdOne 22 (Is (.bool true)), pdOne 23 (Is (.bool false)), pdOne 24 (Is (.bool false))] (fun _ _ => True) (by kernel_rfl) rfl (by kernel_rfl) (by kernel_rfl) (by kernel_rfl) (by kernel_rfl) (by kernel_rfl) ?keep ?hO ?h0 ?tell
            case hR => exact fun wa wb hb h => h.trans (hb.mono h.size)
            case r0 => exact Below.refl _ _
            case hO => exact fun _ _ _ _ h => h
            case h0 => exact fun _ _ => trivial
            case keep => exact ⟨keep_one (keeps_is _), keep_one (keeps_is _), keep_one (keeps_is _), keep_one (keeps_is _), keep_one (keeps_is _), keep_one (keeps_is _), keep_one (keeps_is _), keep_one (keeps_is _), keep_one (keeps_is _), keep_one (keeps_is _), keep_one (keeps_is _), keep_one (keeps_is _), keep_one (keeps_is _), keep_one (keeps_is _), keep_one (keeps_is _), keep_one (keeps_is _), keep_one (keeps_is _), keep_one (keeps_is _), keep_one (keeps_is _), keep_one (keeps_is _), keep_one (keeps_is _), keep_one (keeps_is _), keep_one (keeps_is _), keep_one (keeps_is _), keep_one (keeps_is _), trivial⟩
            case tell =>
              intro fin hfin
              simp [lexPut, Act.put] at hfin
              simp only [TellZ]
              refine ⟨⟨?_, ?_, ?_, ?_, ?_, ?_, ?_, ?_, ?_, ?_, ?_, ?_, ?_, ?_, ?_, ?_, ?_, ?_, ?_, ?_, ?_, ?_, ?_, ?_, ?_, trivial⟩, ?_⟩
              · intro v2 w7 hr hd
                refine ⟨by intro j b e; simp at e, ?_⟩
                refine yields_run (u := sV (readV E o.n)) (w' := w7) ?_ (Below.refl _ _) rfl
                unfold execOp
                simp [go_sem, Act.eval, Act.put]
              · intro v2 w7 hr hd
                refine ⟨by intro j b e; simp at e, ?_⟩
                refine yields_run (u := sV (readV E o.n)) (w' := w7) ?_ (Below.refl _ _) rfl
                unfold execOp
                simp [go_sem, Act.eval, Act.put]
              · intro v2 w7 hr hd
                refine ⟨by intro j b e; simp at e, ?_⟩
                have h0 : v2 0 = _ := hd 0 (by kernel_rfl)
                have h1 : v2 1 = _ := hd 1 (by kernel_rfl)
                refine yields_run (u := .bool false) (w' := w7) ?_ (Below.refl _ _) rfl
                unfold execOp
                simp [go_sem, Act.eval, Act.put, h0, h1]
              · intro v2 w7 hr hd
                refine ⟨by intro j b e; simp at e, ?_⟩
                have h2 : v2 2 = _ := hd 2 (by kernel_rfl)
                refine yields_run (u := .bool false) (w' := w7) ?_ (Below.refl _ _) rfl
                unfold execOp
                simp [go_sem, Act.eval, Act.put, h2]
              · intro v2 w7 hr hd
                refine ⟨(by
                  intro j b e
                  simp only [Option.some.injEq, Prod.mk.injEq] at e
                  obtain ⟨rfl, rfl⟩ := e
                  exact hd 3 (by kernel_rfl)), ?_⟩
                refine yields_run (u := .int .i64 (readE E o.n)) (w' := w7) ?_ (Below.refl _ _) rfl
                unfold execOp
                simp [go_sem, Act.eval, Act.put]
              · intro v2 w7 hr hd
                refine ⟨(by
                  intro j b e
                  simp only [Option.some.injEq, Prod.mk.injEq] at e
                  obtain ⟨rfl, rfl⟩ := e
                  exact hd 3 (by kernel_rfl)), ?_⟩
                refine yields_run (u := .int .i64 (readE E o.n)) (w' := w7) ?_ (Below.refl _ _) rfl
                unfold execOp
                simp [go_sem, Act.eval, Act.put]
              · intro v2 w7 hr hd
                refine ⟨(by
                  intro j b e
                  simp only [Option.some.injEq, Prod.mk.injEq] at e
                  obtain ⟨rfl, rfl⟩ := e
                  exact hd 3 (by kernel_rfl)), ?_⟩
                have h4 : v2 4 = _ := hd 4 (by kernel_rfl)
                have h5 : v2 5 = _ := hd 5 (by kernel_rfl)
                refine yields_run (u := .bool false) (w' := w7) ?_ (Below.refl _ _) rfl
                unfold execOp
                simp [go_sem, Act.eval, Act.put, h4, h5]
              · intro v2 w7 hr hd
                refine ⟨by intro j b e; simp at e, ?_⟩
                have h3 : v2 3 = _ := hd 3 (by kernel_rfl)
                have h6 : v2 6 = _ := hd 6 (by kernel_rfl)
                refine yields_run (u := .bool false) (w' := w7) ?_ (Below.refl _ _) rfl
                unfold execOp
                simp [go_sem, Act.eval, Act.put, h3, h6]
              · intro v2 w7 hr hd
                refine ⟨by intro j b e; simp at e, ?_⟩
                have h7 : v2 7 = _ := hd 7 (by kernel_rfl)
                refine yields_run (u := .bool false) (w' := w7) ?_ (Below.refl _ _) rfl
                unfold execOp
                simp [go_sem, Act.eval, Act.put, h7]
              · intro v2 w7 hr hd
                refine ⟨(by
                  intro j b e
                  simp only [Option.some.injEq, Prod.mk.injEq] at e
                  obtain ⟨rfl, rfl⟩ := e
                  exact hd 8 (by kernel_rfl)), ?_⟩
                refine yields_run (u := .pointer (some ⟨g1, 0, none⟩)) (w' := w7) ?_ (Below.refl _ _) rfl
                unfold execOp
                simp [go_sem, Act.eval, Act.put]
              · intro v2 w7 hr hd
                refine ⟨(by
                  intro j b e
                  simp only [Option.some.injEq, Prod.mk.injEq] at e
                  obtain ⟨rfl, rfl⟩ := e
                  exact hd 8 (by kernel_rfl)), ?_⟩
                refine yields_run (u := .pointer (some ⟨gz, 1, none⟩)) (w' := w7) ?_ (Below.refl _ _) rfl
                unfold execOp
                simp [go_sem, Act.eval, Act.put]
              · intro v2 w7 hr hd
                refine ⟨(by
                  intro j b e
                  simp only [Option.some.injEq, Prod.mk.injEq] at e
                  obtain ⟨rfl, rfl⟩ := e
                  exact hd 8 (by kernel_rfl)), ?_⟩
                have h10 : v2 10 = _ := hd 10 (by kernel_rfl)
                have hc : w7.cell? ⟨gz, 1, none⟩ = some (sV o.n) := (OZ5.out.below hr OZ5.out.inside).read 1
                refine yields_run (u := sV o.n) (w' := w7) ?_ (Below.refl _ _) rfl
                unfold execOp
                simp [go_sem, Act.eval, Act.put, h10, hc]
              · intro v2 w7 hr hd
                refine ⟨(by
                  intro j b e
                  simp only [Option.some.injEq, Prod.mk.injEq] at e
                  obtain ⟨rfl, rfl⟩ := e
                  exact hd 8 (by kernel_rfl)), ?_⟩
                have h9 : v2 9 = _ := hd 9 (by kernel_rfl)
                have h11 : v2 11 = _ := hd 11 (by kernel_rfl)
                refine yields_call (f := 23) rfl (vs := #[.pointer (some ⟨g1, 0, none⟩), sV o.n]) (by simp [Act.eval, Act.put, h9, h11]) rfl Try.func23 (by kernel_rfl) (by kernel_rfl) ?_
                exact (LP.out w7 hr).mono fun e w' ⟨he, hb'⟩ => ⟨_, he, hb', rfl⟩
              · intro v2 w7 hr hd
                refine ⟨(by
                  intro j b e
                  simp only [Option.some.injEq, Prod.mk.injEq] at e
                  obtain ⟨rfl, rfl⟩ := e
                  exact hd 8 (by kernel_rfl)), ?_⟩
                refine yields_run (u := .pointer (some ⟨g2, 0, none⟩)) (w' := w7) ?_ (Below.refl _ _) rfl
                unfold execOp
                simp [go_sem, Act.eval, Act.put]
              · intro v2 w7 hr hd
                refine ⟨(by
                  intro j b e
                  simp only [Option.some.injEq, Prod.mk.injEq] at e
                  obtain ⟨rfl, rfl⟩ := e
                  exact hd 8 (by kernel_rfl)), ?_⟩
                refine yields_run (u := .pointer (some ⟨gz, 1, none⟩)) (w' := w7) ?_ (Below.refl _ _) rfl
                unfold execOp
                simp [go_sem, Act.eval, Act.put]
              · intro v2 w7 hr hd
                refine ⟨(by
                  intro j b e
                  simp only [Option.some.injEq, Prod.mk.injEq] at e
                  obtain ⟨rfl, rfl⟩ := e
                  exact hd 8 (by kernel_rfl)), ?_⟩
                have h14 : v2 14 = _ := hd 14 (by kernel_rfl)
                have hc : w7.cell? ⟨gz, 1, none⟩ = some (sV o.n) := (OZ5.out.below hr OZ5.out.inside).read 1
                refine yields_run (u := sV o.n) (w' := w7) ?_ (Below.refl _ _) rfl
                unfold execOp
                simp [go_sem, Act.eval, Act.put, h14, hc]
              · intro v2 w7 hr hd
                refine ⟨(by
                  intro j b e
                  simp only [Option.some.injEq, Prod.mk.injEq] at e
                  obtain ⟨rfl, rfl⟩ := e
                  exact hd 8 (by kernel_rfl)), ?_⟩
                have h13 : v2 13 = _ := hd 13 (by kernel_rfl)
                have h15 : v2 15 = _ := hd 15 (by kernel_rfl)
                refine yields_call (f := 24) rfl (vs := #[.pointer (some ⟨g2, 0, none⟩), sV o.n]) (by simp [Act.eval, Act.put, h13, h15]) rfl Try.func24 (by kernel_rfl) (by kernel_rfl) ?_
                exact (LR.out w7 hr).mono fun e w' ⟨he, hb'⟩ => ⟨_, he, hb', rfl⟩
              · intro v2 w7 hr hd
                refine ⟨(by
                  intro j b e
                  simp only [Option.some.injEq, Prod.mk.injEq] at e
                  obtain ⟨rfl, rfl⟩ := e
                  exact hd 8 (by kernel_rfl)), ?_⟩
                have h12 : v2 12 = _ := hd 12 (by kernel_rfl)
                have h16 : v2 16 = _ := hd 16 (by kernel_rfl)
                refine yields_run (u := .bool false) (w' := w7) ?_ (Below.refl _ _) rfl
                unfold execOp
                simp [go_sem, Act.eval, Act.put, h12, h16]
              · intro v2 w7 hr hd
                refine ⟨by intro j b e; simp at e, ?_⟩
                have h8 : v2 8 = _ := hd 8 (by kernel_rfl)
                have h17 : v2 17 = _ := hd 17 (by kernel_rfl)
                refine yields_run (u := .bool false) (w' := w7) ?_ (Below.refl _ _) rfl
                unfold execOp
                simp [go_sem, Act.eval, Act.put, h8, h17]
              · intro v2 w7 hr hd
                refine ⟨by intro j b e; simp at e, ?_⟩
                have h18 : v2 18 = _ := hd 18 (by kernel_rfl)
                refine yields_run (u := .bool false) (w' := w7) ?_ (Below.refl _ _) rfl
                unfold execOp
                simp [go_sem, Act.eval, Act.put, h18]
              · intro v2 w7 hr hd
                refine ⟨(by
                  intro j b e
                  simp only [Option.some.injEq, Prod.mk.injEq] at e
                  obtain ⟨rfl, rfl⟩ := e
                  exact hd 19 (by kernel_rfl)), ?_⟩
                refine yields_run (u := .pointer (some ⟨g1, 0, none⟩)) (w' := w7) ?_ (Below.refl _ _) rfl
                unfold execOp
                simp [go_sem, Act.eval, Act.put]
              · intro v2 w7 hr hd
                refine ⟨(by
                  intro j b e
                  simp only [Option.some.injEq, Prod.mk.injEq] at e
                  obtain ⟨rfl, rfl⟩ := e
                  exact hd 19 (by kernel_rfl)), ?_⟩
                refine yields_run (u := .pointer (some ⟨g2, 0, none⟩)) (w' := w7) ?_ (Below.refl _ _) rfl
                unfold execOp
                simp [go_sem, Act.eval, Act.put]
              · intro v2 w7 hr hd
                refine ⟨(by
                  intro j b e
                  simp only [Option.some.injEq, Prod.mk.injEq] at e
                  obtain ⟨rfl, rfl⟩ := e
                  exact hd 19 (by kernel_rfl)), ?_⟩
                have h20 : v2 20 = _ := hd 20 (by kernel_rfl)
                have h21 : v2 21 = _ := hd 21 (by kernel_rfl)
                refine yields_call (f := 25) rfl (vs := #[.pointer (some ⟨g1, 0, none⟩), .pointer (some ⟨g2, 0, none⟩)]) (by simp [Act.eval, Act.put, h20, h21]) rfl Try.func25 (by kernel_rfl) (by kernel_rfl) ?_
                exact (SD.out w7 hr).mono fun e w' ⟨he, hb'⟩ => ⟨_, he, hb', rfl⟩
              · intro v2 w7 hr hd
                refine ⟨(by
                  intro j b e
                  simp only [Option.some.injEq, Prod.mk.injEq] at e
                  obtain ⟨rfl, rfl⟩ := e
                  exact hd 19 (by kernel_rfl)), ?_⟩
                have h22 : v2 22 = _ := hd 22 (by kernel_rfl)
                refine yields_run (u := .bool false) (w' := w7) ?_ (Below.refl _ _) rfl
                unfold execOp
                simp [go_sem, Act.eval, Act.put, h22]
              · intro v2 w7 hr hd
                refine ⟨by intro j b e; simp at e, ?_⟩
                have h19 : v2 19 = _ := hd 19 (by kernel_rfl)
                have h23 : v2 23 = _ := hd 23 (by kernel_rfl)
                refine yields_run (u := .bool false) (w' := w7) ?_ (Below.refl _ _) rfl
                unfold execOp
                simp [go_sem, Act.eval, Act.put, h19, h23]
              · intro v w7 hr hv
                have hl : v 24 = .bool false := hv 24 (by decide) (by kernel_rfl)
                have R7 := Lib.hid hr
                rw [hfin]
                clear hfin hv hr
                generalize v 24 = vl at hl ⊢
                subst hl
                go_wp2_with fail
                go_roundw
                case rel => exact ⟨k + 1, g1, g2, by omega, by omega, by go_num, rfl, rfl, Lib.hid (by rw [HNX.out]; exact HP5.out.below R7.out), Lib.hid (by rw [HNX.out]; exact HR5.out.below R7.out), Lib.hid (HB5.out.trans (R7.out.mono HB5.out.size))⟩
                case measure => simp [intOf]; omega
      have n0 : (o.k == 0) = false := by rw [beq_eq_false_iff_ne]; exact hq
      by_cases hq1 : o.k = 1
      · have hq := hq1
        have HNX : Hid (runO (L.take (k + 1)) K0 = E) := Lib.hid hnx
        have HDV : Hid (synV D o.n = E) := Lib.hid (by rw [← hE]; unfold stepO; rw [if_neg (by rw [hq]; decide), if_pos hq])
        have HEV : Hid True := Lib.hid trivial
        rw [hq] at z0
        clear hq
        go_upto_region 22 with fail
        clear z0
        refine region_fullZ 144 [] [] [] (fun k => k == 3 || k == 7) (OpW w.heap.size w3 gz o) ?hR ?r0 [pdOne 0 (Is (.pointer (some ⟨g1, 0, none⟩))), pdOne 1 (Is (.pointer (some ⟨gz, 1, none⟩))), pdOne 2 (Is (sV o.n)), pdOne 3 (AtP (onE D o.n) w.heap.size g1 (synV D o.n)), pdOne 4 (Is (.pointer (some ⟨g2, 0, none⟩))), pdOne 5 (Is (.pointer (some ⟨gz, 1, none⟩))), pdOne 6 (Is (sV o.n)), pdOne 7 (AtR (onE D o.n) w.heap.size g2 (synV D o.n)), pdOne 8 (Is (.bool false))] (fun k w7 => (k = 3 → Pr w.heap.size g1 D w7) ∧ (k = 7 → Rf w.heap.size g2 D w7)) (by kernel_rfl) rfl (by kernel_rfl) (by kernel_rfl) (by kernel_rfl) (by kernel_rfl) (by kernel_rfl) ?keep ?hO ?h0 ?tell
        case hR => exact fun wa wb hb h => OpW.below HZ3.out h hb
        case r0 => exact ⟨Below.refl _ _, OZ3.out⟩
        case hO => exact fun _ wa wb hb h => ⟨fun e => (h.1 e).below hb, fun e => (h.2 e).below hb⟩
        case h0 => exact fun _ _ => ⟨fun _ => HP3.out, fun _ => HR3.out⟩
        case keep => exact ⟨keep_one (keeps_is _), keep_one (keeps_is _), keep_one (keeps_is _), keep_one (keeps_atP _ _ _ _), keep_one (keeps_is _), keep_one (keeps_is _), keep_one (keeps_is _), keep_one (keeps_atR _ _ _ _), keep_one (keeps_is _), trivial⟩
        case tell =>
          intro fin hfin
          simp [lexPut, Act.put] at hfin
          simp only [TellZ]
          refine ⟨⟨?_, ?_, ?_, ?_, ?_, ?_, ?_, ?_, ?_, trivial⟩, ?_⟩
          · intro v2 w7 hr hd
            refine ⟨by intro j b e; simp at e, ?_⟩
            refine yields_run (u := .pointer (some ⟨g1, 0, none⟩)) (w' := w7) ?_ (Below.refl _ _) rfl
            unfold execOp
            simp [go_sem, Act.eval, Act.put]
          · intro v2 w7 hr hd
            refine ⟨by intro j b e; simp at e, ?_⟩
            refine yields_run (u := .pointer (some ⟨gz, 1, none⟩)) (w' := w7) ?_ (Below.refl _ _) rfl
            unfold execOp
            simp [go_sem, Act.eval, Act.put]
          · intro v2 w7 hr hd
            refine ⟨by intro j b e; simp at e, ?_⟩
            have h1 : v2 1 = _ := hd 1 (by kernel_rfl)
            have hc : w7.cell? ⟨gz, 1, none⟩ = _ := Whole.read hr.2 1
            refine yields_run (u := sV o.n) (w' := w7) ?_ (Below.refl _ _) rfl
            unfold execOp
            simp [go_sem, Act.eval, Act.put, h1, hc]
          · intro v2 w7 hr ho hd
            refine ⟨by intro j b e; simp at e, ?_⟩
            have h0 : v2 0 = _ := hd 0 (by kernel_rfl)
            have h2 : v2 2 = _ := hd 2 (by kernel_rfl)
            refine .inl (yieldsW_callR (f := 11) rfl (vs := #[.pointer (some ⟨g1, 0, none⟩), sV o.n]) (by simp [Act.eval, Act.put, h0, h2]) rfl Try.func11 (by kernel_rfl) (by kernel_rfl) ?_)
            refine (synP HGD.out (by omega) o.n (by have := HSM.out; omega) (Nat.le_trans HZ3.out hr.1.size) (ho.1 (by trivial))).mono fun e w' ⟨he, hp, ht⟩ => ⟨_, he, ⟨hr.1.trans (ht.below.mono (Nat.le_refl _)), ht.op _ _ hr.2⟩, ?_, ?_, rfl, hp⟩
            · intro k2 v' hk2 hc hu
              exact match k2, hk2, hu with
                | 0, _, hu => hu
                | 1, _, hu => hu
                | 2, _, hu => hu
                | 3, hk2, _ => absurd rfl hk2
                | 4, _, hu => hu
                | 5, _, hu => hu
                | 6, _, hu => hu
                | 7, _, ⟨q1, q2⟩ => ⟨q1, ht.ref _ _ q2⟩
                | 8, _, hu => hu
                | _ + 9, _, _ => trivial
            · intro k2 hk2 hn hc2 h
              exact ⟨fun e => absurd e hk2, fun e => ht.ref _ _ (h.2 e)⟩
          · intro v2 w7 hr hd
            refine ⟨by intro j b e; simp at e, ?_⟩
            refine yields_run (u := .pointer (some ⟨g2, 0, none⟩)) (w' := w7) ?_ (Below.refl _ _) rfl
            unfold execOp
            simp [go_sem, Act.eval, Act.put]
          · intro v2 w7 hr hd
            refine ⟨by intro j b e; simp at e, ?_⟩
            refine yields_run (u := .pointer (some ⟨gz, 1, none⟩)) (w' := w7) ?_ (Below.refl _ _) rfl
            unfold execOp
            simp [go_sem, Act.eval, Act.put]
          · intro v2 w7 hr hd
            refine ⟨by intro j b e; simp at e, ?_⟩
            have h5 : v2 5 = _ := hd 5 (by kernel_rfl)
            have hc : w7.cell? ⟨gz, 1, none⟩ = _ := Whole.read hr.2 1
            refine yields_run (u := sV o.n) (w' := w7) ?_ (Below.refl _ _) rfl
            unfold execOp
            simp [go_sem, Act.eval, Act.put, h5, hc]
          · intro v2 w7 hr ho hd
            refine ⟨by intro j b e; simp at e, ?_⟩
            have h4 : v2 4 = _ := hd 4 (by kernel_rfl)
            have h6 : v2 6 = _ := hd 6 (by kernel_rfl)
            refine .inl (yieldsW_callR (f := 12) rfl (vs := #[.pointer (some ⟨g2, 0, none⟩), sV o.n]) (by simp [Act.eval, Act.put, h4, h6]) rfl Try.func12 (by kernel_rfl) (by kernel_rfl) ?_)
            refine (synR HGD.out (by omega) o.n (Nat.le_trans HZ3.out hr.1.size) (ho.2 (by trivial))).mono fun e w' ⟨he, hp, ht⟩ => ⟨_, he, ⟨hr.1.trans (ht.below.mono (Nat.le_refl _)), ht.op _ _ hr.2⟩, ?_, ?_, rfl, hp⟩
            · intro k2 v' hk2 hc hu
              exact match k2, hk2, hu with
                | 0, _, hu => hu
                | 1, _, hu => hu
                | 2, _, hu => hu
                | 3, _, ⟨q1, q2⟩ => ⟨q1, ht.pr _ _ q2⟩
                | 4, _, hu => hu
                | 5, _, hu => hu
                | 6, _, hu => hu
                | 7, hk2, _ => absurd rfl hk2
                | 8, _, hu => hu
                | _ + 9, _, _ => trivial
            · intro k2 hk2 hn hc2 h
              exact ⟨fun e => ht.pr _ _ (h.1 e), fun e => absurd e hk2⟩
          · intro v2 w7 hr hd
            refine ⟨by intro j b e; simp at e, ?_⟩
            obtain ⟨h3, -⟩ : AtP _ _ _ _ (v2 3) w7 := hd 3 (by kernel_rfl)
            obtain ⟨h7, -⟩ : AtR _ _ _ _ (v2 7) w7 := hd 7 (by kernel_rfl)
            refine yields_run (u := .bool false) (w' := w7) ?_ (Below.refl _ _) rfl
            unfold execOp
            simp [go_sem, Act.eval, Act.put, h3, h7]
          · intro v w7 hr hv
            have hl : v 8 = .bool false := hv 8 (by decide) (by kernel_rfl)
            have R7 := Lib.hid hr
            obtain ⟨-, p7⟩ : AtP _ _ _ _ (v 3) w7 := hv 3 (by decide) (by kernel_rfl)
            obtain ⟨-, q7⟩ : AtR _ _ _ _ (v 7) w7 := hv 7 (by decide) (by kernel_rfl)
            rw [HDV.out] at p7 q7
            have HPt := Lib.hid p7
            have HRt := Lib.hid q7
            have OZt := Lib.hid R7.out.2
            have HBt := Lib.hid (HB3.out.trans R7.out.1)
            have z1 : w7.cell? ⟨gz, 1, none⟩ = some (sV o.n) := OZt.out.read 1
            rw [hfin]
            clear hfin hv hr p7 q7 R7 HP3 HR3 OZ3 HB3
            generalize v 8 = vl at hl ⊢
            subst hl
            rename World => wt
            have RP := Lib.hid (read_pr HE.out.1 o.n (by have := HSM.out; omega) wt HPt.out)
            go_upto_region 34 with (go_at_call 21; refine RP.out.mono ?_; rintro e w5 ⟨rfl, b5⟩; have HP5 := Lib.hid (HPt.out.below b5); have HR5 := Lib.hid (HRt.out.below b5); have OZ5 := Lib.hid (OZt.out.below b5 OZt.out.inside); have HB5 := Lib.hid (HBt.out.trans (b5.mono HBt.out.size)); have z1 : w5.cell? ⟨gz, 1, none⟩ = some (sV o.n) := OZ5.out.read 1; clear b5)
            clear RP HPt HRt OZt HBt
            have RR := Lib.hid (read_rf (E := E) (by have := HE.out.2; omega) o.n w5 HR5.out)
            go_upto_region 35 with (go_at_call 22; refine RR.out.mono ?_; rintro e w6 ⟨rfl, rfl⟩)
            clear RR z1
            have LP := Lib.hid (fun W (b : Below w5.heap.size w5 W) => lasts_pr HE.out.1 o.n (by have := HSM.out; omega) W (HP5.out.below b))
            have LR := Lib.hid (fun W (b : Below w5.heap.size w5 W) => lasts_rf (E := E) (by have := HE.out.2; omega) o.n W (HR5.out.below b))
            have SD := Lib.hid (fun W (b : Below w5.heap.size w5 W) => same_pr HE.out.1 (by have := HE.out.2; omega) W (HP5.out.below b) (HR5.out.below b))
            refine region_fullZ 144 [] [] [] (fun _ => false) (fun w7 => Below w5.heap.size w5 w7) ?hR ?r0 [pdOne 0 (Is (sV (readV E o.n))), pdOne 1 (Is (sV (readV E o.n))), pdOne 2 (Is (.bool false)), pdOne 3 (Is (.bool false)), pdOne 4 (Is (.int .i64 (readE E o.n))), pdOne 5 (Is (.int .i64 (readE E o.n))), pdOne 6 (Is (.bool false)), pdOne 7 (Is (.bool false)), pdOne 8 (Is (.bool false)), pdOne 9 (Is (.pointer (some ⟨g1, 0, none⟩))), pdOne 10 (Is (.pointer (some ⟨gz, 1, none⟩))), pdOne 11 (Is (sV o.n)), pdOne 12 (Is (.int .i64 (oldL E.F o.n : Int))), pdOne 13 (Is (.pointer (some ⟨g2, 0, none⟩))), pdOne 14 (Is (.pointer (some ⟨gz, 1, none⟩))), pdOne 15 (Is (sV o.n)), pdOne 16 (Is (.int .i64 (oldL E.F o.n : Int))), pdOne 17 (Is (.bool false)), pdOne 18 (Is (.bool false)), pdOne 19 (Is (.bool false)), pdOne 20 (Is (.pointer (some ⟨g1, 0, none⟩))), pdOne 21 (Is (.pointer (some ⟨g2, 0, none⟩))), pdOne 22 (Is (.bool true)), pdOne 23 (Is (.bool false)), pdOne 24 (Is (.bool false))] (fun _ _ => True) (by kernel_rfl) rfl (by kernel_rfl) (by kernel_rfl) (by kernel_rfl) (by kernel_rfl) (by kernel_rfl) ?keep ?hO ?h0 ?tell
            case hR => exact fun wa wb hb h => h.trans (hb.mono h.size)
            case r0 => exact Below.refl _ _
            case hO => exact fun _ _ _ _ h => h
            case h0 => exact fun _ _ => trivial
            case keep => exact ⟨keep_one (keeps_is _), keep_one (keeps_is _), keep_one (keeps_is _), keep_one (keeps_is _), keep_one (keeps_is _), keep_one (keeps_is _), keep_one (keeps_is _), keep_one (keeps_is _), keep_one (keeps_is _), keep_one (keeps_is _), keep_one (keeps_is _), keep_one (keeps_is _), keep_one (keeps_is _), keep_one (keeps_is _), keep_one (keeps_is _), keep_one (keeps_is _), keep_one (keeps_is _), keep_one (keeps_is _), keep_one (keeps_is _), keep_one (keeps_is _), keep_one (keeps_is _), keep_one (keeps_is _), keep_one (keeps_is _), keep_one (keeps_is _), keep_one (keeps_is _), trivial⟩
            case tell =>
              intro fin hfin
              simp [lexPut, Act.put] at hfin
              simp only [TellZ]
              refine ⟨⟨?_, ?_, ?_, ?_, ?_, ?_, ?_, ?_, ?_, ?_, ?_, ?_, ?_, ?_, ?_, ?_, ?_, ?_, ?_, ?_, ?_, ?_, ?_, ?_, ?_, trivial⟩, ?_⟩
              · intro v2 w7 hr hd
                refine ⟨by intro j b e; simp at e, ?_⟩
                refine yields_run (u := sV (readV E o.n)) (w' := w7) ?_ (Below.refl _ _) rfl
                unfold execOp
                simp [go_sem, Act.eval, Act.put]
              · intro v2 w7 hr hd
                refine ⟨by intro j b e; simp at e, ?_⟩
                refine yields_run (u := sV (readV E o.n)) (w' := w7) ?_ (Below.refl _ _) rfl
                unfold execOp
                simp [go_sem, Act.eval, Act.put]
              · intro v2 w7 hr hd
                refine ⟨by intro j b e; simp at e, ?_⟩
                have h0 : v2 0 = _ := hd 0 (by kernel_rfl)
                have h1 : v2 1 = _ := hd 1 (by kernel_rfl)
                refine yields_run (u := .bool false) (w' := w7) ?_ (Below.refl _ _) rfl
                unfold execOp
                simp [go_sem, Act.eval, Act.put, h0, h1]
              · intro v2 w7 hr hd
                refine ⟨by intro j b e; simp at e, ?_⟩
                have h2 : v2 2 = _ := hd 2 (by kernel_rfl)
                refine yields_run (u := .bool false) (w' := w7) ?_ (Below.refl _ _) rfl
                unfold execOp
                simp [go_sem, Act.eval, Act.put, h2]
              · intro v2 w7 hr hd
                refine ⟨(by
                  intro j b e
                  simp only [Option.some.injEq, Prod.mk.injEq] at e
                  obtain ⟨rfl, rfl⟩ := e
                  exact hd 3 (by kernel_rfl)), ?_⟩
                refine yields_run (u := .int .i64 (readE E o.n)) (w' := w7) ?_ (Below.refl _ _) rfl
                unfold execOp
                simp [go_sem, Act.eval, Act.put]
              · intro v2 w7 hr hd
                refine ⟨(by
                  intro j b e
                  simp only [Option.some.injEq, Prod.mk.injEq] at e
                  obtain ⟨rfl, rfl⟩ := e
                  exact hd 3 (by kernel_rfl)), ?_⟩
                refine yields_run (u := .int .i64 (readE E o.n)) (w' := w7) ?_ (Below.refl _ _) rfl
                unfold execOp
                simp [go_sem, Act.eval, Act.put]
              · intro v2 w7 hr hd
                refine ⟨(by
                  intro j b e
                  simp only [Option.some.injEq, Prod.mk.injEq] at e
                  obtain ⟨rfl, rfl⟩ := e
                  exact hd 3 (by kernel_rfl)), ?_⟩
                have h4 : v2 4 = _ := hd 4 (by kernel_rfl)
                have h5 : v2 5 = _ := hd 5 (by kernel_rfl)
                refine yields_run (u := .bool false) (w' := w7) ?_ (Below.refl _ _) rfl
                unfold execOp
                simp [go_sem, Act.eval, Act.put, h4, h5]
              · intro v2 w7 hr hd
                refine ⟨by intro j b e; simp at e, ?_⟩
                have h3 : v2 3 = _ := hd 3 (by kernel_rfl)
                have h6 : v2 6 = _ := hd 6 (by kernel_rfl)
                refine yields_run (u := .bool false) (w' := w7) ?_ (Below.refl _ _) rfl
                unfold execOp
                simp [go_sem, Act.eval, Act.put, h3, h6]
              · intro v2 w7 hr hd
                refine ⟨by intro j b e; simp at e, ?_⟩
                have h7 : v2 7 = _ := hd 7 (by kernel_rfl)
                refine yields_run (u := .bool false) (w' := w7) ?_ (Below.refl _ _) rfl
                unfold execOp
                simp [go_sem, Act.eval, Act.put, h7]
              · intro v2 w7 hr hd
                refine ⟨(by
                  intro j b e
                  simp only [Option.some.injEq, Prod.mk.injEq] at e
                  obtain ⟨rfl, rfl⟩ := e
                  exact hd 8 (by kernel_rfl)), ?_⟩
                refine yields_run (u := .pointer (some ⟨g1, 0, none⟩)) (w' := w7) ?_ (Below.refl _ _) rfl
                unfold execOp
                simp [go_sem, Act.eval, Act.put]
              · intro v2 w7 hr hd
                refine ⟨(by
                  intro j b e
                  simp only [Option.some.injEq, Prod.mk.injEq] at e
                  obtain ⟨rfl, rfl⟩ := e
                  exact hd 8 (by kernel_rfl)), ?_⟩
                refine yields_run (u := .pointer (some ⟨gz, 1, none⟩)) (w' := w7) ?_ (Below.refl _ _) rfl
                unfold execOp
                simp [go_sem, Act.eval, Act.put]
              · intro v2 w7 hr hd
                refine ⟨(by
                  intro j b e
                  simp only [Option.some.injEq, Prod.mk.injEq] at e
                  obtain ⟨rfl, rfl⟩ := e
                  exact hd 8 (by kernel_rfl)), ?_⟩
                have h10 : v2 10 = _ := hd 10 (by kernel_rfl)
                have hc : w7.cell? ⟨gz, 1, none⟩ = some (sV o.n) := (OZ5.out.below hr OZ5.out.inside).read 1
                refine yields_run (u := sV o.n) (w' := w7) ?_ (Below.refl _ _) rfl
                unfold execOp
                simp [go_sem, Act.eval, Act.put, h10, hc]
              · intro v2 w7 hr hd
                refine ⟨(by
                  intro j b e
                  simp only [Option.some.injEq, Prod.mk.injEq] at e
                  obtain ⟨rfl, rfl⟩ := e
                  exact hd 8 (by kernel_rfl)), ?_⟩
                have h9 : v2 9 = _ := hd 9 (by kernel_rfl)
                have h11 : v2 11 = _ := hd 11 (by kernel_rfl)
                refine yields_call (f := 23) rfl (vs := #[.pointer (some ⟨g1, 0, none⟩), sV o.n]) (by simp [Act.eval, Act.put, h9, h11]) rfl Try.func23 (by kernel_rfl) (by kernel_rfl) ?_
                exact (LP.out w7 hr).mono fun e w' ⟨he, hb'⟩ => ⟨_, he, hb', rfl⟩
              · intro v2 w7 hr hd
                refine ⟨(by
                  intro j b e
                  simp only [Option.some.injEq, Prod.mk.injEq] at e
                  obtain ⟨rfl, rfl⟩ := e
                  exact hd 8 (by kernel_rfl)), ?_⟩
                refine yields_run (u := .pointer (some ⟨g2, 0, none⟩)) (w' := w7) ?_ (Below.refl _ _) rfl
                unfold execOp
                simp [go_sem, Act.eval, Act.put]
              · intro v2 w7 hr hd
                refine ⟨(by
                  intro j b e
                  simp only [Option.some.injEq, Prod.mk.injEq] at e
                  obtain ⟨rfl, rfl⟩ := e
                  exact hd 8 (by kernel_rfl)), ?_⟩
                refine yields_run (u := .pointer (some ⟨gz, 1, none⟩)) (w' := w7) ?_ (Below.refl _ _) rfl
                unfold execOp
                simp [go_sem, Act.eval, Act.put]
              · intro v2 w7 hr hd
                refine ⟨(by
                  intro j b e
                  simp only [Option.some.injEq, Prod.mk.injEq] at e
                  obtain ⟨rfl, rfl⟩ := e
                  exact hd 8 (by kernel_rfl)), ?_⟩
                have h14 : v2 14 = _ := hd 14 (by kernel_rfl)
                have hc : w7.cell? ⟨gz, 1, none⟩ = some (sV o.n) := (OZ5.out.below hr OZ5.out.inside).read 1
                refine yields_run (u := sV o.n) (w' := w7) ?_ (Below.refl _ _) rfl
                unfold execOp
                simp [go_sem, Act.eval, Act.put, h14, hc]
              · intro v2 w7 hr hd
                refine ⟨(by
                  intro j b e
                  simp only [Option.some.injEq, Prod.mk.injEq] at e
                  obtain ⟨rfl, rfl⟩ := e
                  exact hd 8 (by kernel_rfl)), ?_⟩
                have h13 : v2 13 = _ := hd 13 (by kernel_rfl)
                have h15 : v2 15 = _ := hd 15 (by kernel_rfl)
                refine yields_call (f := 24) rfl (vs := #[.pointer (some ⟨g2, 0, none⟩), sV o.n]) (by simp [Act.eval, Act.put, h13, h15]) rfl Try.func24 (by kernel_rfl) (by kernel_rfl) ?_
                exact (LR.out w7 hr).mono fun e w' ⟨he, hb'⟩ => ⟨_, he, hb', rfl⟩
              · intro v2 w7 hr hd
                refine ⟨(by
                  intro j b e
                  simp only [Option.some.injEq, Prod.mk.injEq] at e
                  obtain ⟨rfl, rfl⟩ := e
                  exact hd 8 (by kernel_rfl)), ?_⟩
                have h12 : v2 12 = _ := hd 12 (by kernel_rfl)
                have h16 : v2 16 = _ := hd 16 (by kernel_rfl)
                refine yields_run (u := .bool false) (w' := w7) ?_ (Below.refl _ _) rfl
                unfold execOp
                simp [go_sem, Act.eval, Act.put, h12, h16]
              · intro v2 w7 hr hd
                refine ⟨by intro j b e; simp at e, ?_⟩
                have h8 : v2 8 = _ := hd 8 (by kernel_rfl)
                have h17 : v2 17 = _ := hd 17 (by kernel_rfl)
                refine yields_run (u := .bool false) (w' := w7) ?_ (Below.refl _ _) rfl
                unfold execOp
                simp [go_sem, Act.eval, Act.put, h8, h17]
              · intro v2 w7 hr hd
                refine ⟨by intro j b e; simp at e, ?_⟩
                have h18 : v2 18 = _ := hd 18 (by kernel_rfl)
                refine yields_run (u := .bool false) (w' := w7) ?_ (Below.refl _ _) rfl
                unfold execOp
                simp [go_sem, Act.eval, Act.put, h18]
              · intro v2 w7 hr hd
                refine ⟨(by
                  intro j b e
                  simp only [Option.some.injEq, Prod.mk.injEq] at e
                  obtain ⟨rfl, rfl⟩ := e
                  exact hd 19 (by kernel_rfl)), ?_⟩
                refine yields_run (u := .pointer (some ⟨g1, 0, none⟩)) (w' := w7) ?_ (Below.refl _ _) rfl
                unfold execOp
                simp [go_sem, Act.eval, Act.put]
              · intro v2 w7 hr hd
                refine ⟨(by
                  intro j b e
                  simp only [Option.some.injEq, Prod.mk.injEq] at e
                  obtain ⟨rfl, rfl⟩ := e
                  exact hd 19 (by kernel_rfl)), ?_⟩
                refine yields_run (u := .pointer (some ⟨g2, 0, none⟩)) (w' := w7) ?_ (Below.refl _ _) rfl
                unfold execOp
                simp [go_sem, Act.eval, Act.put]
              · intro v2 w7 hr hd
                refine ⟨(by
                  intro j b e
                  simp only [Option.some.injEq, Prod.mk.injEq] at e
                  obtain ⟨rfl, rfl⟩ := e
                  exact hd 19 (by kernel_rfl)), ?_⟩
                have h20 : v2 20 = _ := hd 20 (by kernel_rfl)
                have h21 : v2 21 = _ := hd 21 (by kernel_rfl)
                refine yields_call (f := 25) rfl (vs := #[.pointer (some ⟨g1, 0, none⟩), .pointer (some ⟨g2, 0, none⟩)]) (by simp [Act.eval, Act.put, h20, h21]) rfl Try.func25 (by kernel_rfl) (by kernel_rfl) ?_
                exact (SD.out w7 hr).mono fun e w' ⟨he, hb'⟩ => ⟨_, he, hb', rfl⟩
              · intro v2 w7 hr hd
                refine ⟨(by
                  intro j b e
                  simp only [Option.some.injEq, Prod.mk.injEq] at e
                  obtain ⟨rfl, rfl⟩ := e
                  exact hd 19 (by kernel_rfl)), ?_⟩
                have h22 : v2 22 = _ := hd 22 (by kernel_rfl)
                refine yields_run (u := .bool false) (w' := w7) ?_ (Below.refl _ _) rfl
                unfold execOp
                simp [go_sem, Act.eval, Act.put, h22]
              · intro v2 w7 hr hd
                refine ⟨by intro j b e; simp at e, ?_⟩
                have h19 : v2 19 = _ := hd 19 (by kernel_rfl)
                have h23 : v2 23 = _ := hd 23 (by kernel_rfl)
                refine yields_run (u := .bool false) (w' := w7) ?_ (Below.refl _ _) rfl
                unfold execOp
                simp [go_sem, Act.eval, Act.put, h19, h23]
              · intro v w7 hr hv
                have hl : v 24 = .bool false := hv 24 (by decide) (by kernel_rfl)
                have R7 := Lib.hid hr
                rw [hfin]
                clear hfin hv hr
                generalize v 24 = vl at hl ⊢
                subst hl
                go_wp2_with fail
                go_roundw
                case rel => exact ⟨k + 1, g1, g2, by omega, by omega, by go_num, rfl, rfl, Lib.hid (by rw [HNX.out]; exact HP5.out.below R7.out), Lib.hid (by rw [HNX.out]; exact HR5.out.below R7.out), Lib.hid (HB5.out.trans (R7.out.mono HB5.out.size))⟩
                case measure => simp [intOf]; omega
      have n1 : (o.k == 1) = false := by rw [beq_eq_false_iff_ne]; exact hq1
      by_cases hq2 : o.k = 2
      · have hq := hq2
        have HNX : Hid (runO (L.take (k + 1)) K0 = E) := Lib.hid hnx
        have HDV : Hid (remV D o.n = E) := Lib.hid (by rw [← hE]; unfold stepO; rw [if_neg (by rw [hq]; decide), if_neg (by rw [hq]; decide), if_pos hq])
        have HEV : Hid True := Lib.hid trivial
        rw [hq] at z0
        clear hq
        go_upto_region 25 with fail
        clear z0
        refine region_fullZ 144 [] [] [] (fun k => k == 3 || k == 7) (OpW w.heap.size w3 gz o) ?hR ?r0 [pdOne 0 (Is (.pointer (some ⟨g1, 0, none⟩))), pdOne 1 (Is (.pointer (some ⟨gz, 1, none⟩))), pdOne 2 (Is (sV o.n)), pdOne 3 (AtP (onE D o.n) w.heap.size g1 (remV D o.n)), pdOne 4 (Is (.pointer (some ⟨g2, 0, none⟩))), pdOne 5 (Is (.pointer (some ⟨gz, 1, none⟩))), pdOne 6 (Is (sV o.n)), pdOne 7 (AtR (onE D o.n) w.heap.size g2 (remV D o.n)), pdOne 8 (Is (.bool false))] (fun k w7 => (k = 3 → Pr w.heap.size g1 D w7) ∧ (k = 7 → Rf w.heap.size g2 D w7)) (by kernel_rfl) rfl (by kernel_rfl) (by kernel_rfl) (by kernel_rfl) (by kernel_rfl) (by kernel_rfl) ?keep ?hO ?h0 ?tell
        case hR => exact fun wa wb hb h => OpW.below HZ3.out h hb
        case r0 => exact ⟨Below.refl _ _, OZ3.out⟩
        case hO => exact fun _ wa wb hb h => ⟨fun e => (h.1 e).below hb, fun e => (h.2 e).below hb⟩
        case h0 => exact fun _ _ => ⟨fun _ => HP3.out, fun _ => HR3.out⟩
        case keep => exact ⟨keep_one (keeps_is _), keep_one (keeps_is _), keep_one (keeps_is _), keep_one (keeps_atP _ _ _ _), keep_one (keeps_is _), keep_one (keeps_is _), keep_one (keeps_is _), keep_one (keeps_atR _ _ _ _), keep_one (keeps_is _), trivial⟩
        case tell =>
          intro fin hfin
          simp [lexPut, Act.put] at hfin
          simp only [TellZ]
          refine ⟨⟨?_, ?_, ?_, ?_, ?_, ?_, ?_, ?_, ?_, trivial⟩, ?_⟩
          · intro v2 w7 hr hd
            refine ⟨by intro j b e; simp at e, ?_⟩
            refine yields_run (u := .pointer (some ⟨g1, 0, none⟩)) (w' := w7) ?_ (Below.refl _ _) rfl
            unfold execOp
            simp [go_sem, Act.eval, Act.put]
          · intro v2 w7 hr hd
            refine ⟨by intro j b e; simp at e, ?_⟩
            refine yields_run (u := .pointer (some ⟨gz, 1, none⟩)) (w' := w7) ?_ (Below.refl _ _) rfl
            unfold execOp
            simp [go_sem, Act.eval, Act.put]
          · intro v2 w7 hr hd
            refine ⟨by intro j b e; simp at e, ?_⟩
            have h1 : v2 1 = _ := hd 1 (by kernel_rfl)
            have hc : w7.cell? ⟨gz, 1, none⟩ = _ := Whole.read hr.2 1
            refine yields_run (u := sV o.n) (w' := w7) ?_ (Below.refl _ _) rfl
            unfold execOp
            simp [go_sem, Act.eval, Act.put, h1, hc]
          · intro v2 w7 hr ho hd
            refine ⟨by intro j b e; simp at e, ?_⟩
            have h0 : v2 0 = _ := hd 0 (by kernel_rfl)
            have h2 : v2 2 = _ := hd 2 (by kernel_rfl)
            refine .inl (yieldsW_callR (f := 13) rfl (vs := #[.pointer (some ⟨g1, 0, none⟩), sV o.n]) (by simp [Act.eval, Act.put, h0, h2]) rfl Try.func13 (by kernel_rfl) (by kernel_rfl) ?_)
            refine (remP HGD.out o.n (by have := HSM.out; omega) (Nat.le_trans HZ3.out hr.1.size) (ho.1 (by trivial))).mono fun e w' ⟨he, hp, ht⟩ => ⟨_, he, ⟨hr.1.trans (ht.below.mono (Nat.le_refl _)), ht.op _ _ hr.2⟩, ?_, ?_, rfl, hp⟩
            · intro k2 v' hk2 hc hu
              exact match k2, hk2, hu with
                | 0, _, hu => hu
                | 1, _, hu => hu
                | 2, _, hu => hu
                | 3, hk2, _ => absurd rfl hk2
                | 4, _, hu => hu
                | 5, _, hu => hu
                | 6, _, hu => hu
                | 7, _, ⟨q1, q2⟩ => ⟨q1, ht.ref _ _ q2⟩
                | 8, _, hu => hu
                | _ + 9, _, _ => trivial
            · intro k2 hk2 hn hc2 h
              exact ⟨fun e => absurd e hk2, fun e => ht.ref _ _ (h.2 e)⟩
          · intro v2 w7 hr hd
            refine ⟨by intro j b e; simp at e, ?_⟩
            refine yields_run (u := .pointer (some ⟨g2, 0, none⟩)) (w' := w7) ?_ (Below.refl _ _) rfl
            unfold execOp
            simp [go_sem, Act.eval, Act.put]
          · intro v2 w7 hr hd
            refine ⟨by intro j b e; simp at e, ?_⟩
            refine yields_run (u := .pointer (some ⟨gz, 1, none⟩)) (w' := w7) ?_ (Below.refl _ _) rfl
            unfold execOp
            simp [go_sem, Act.eval, Act.put]
          · intro v2 w7 hr hd
            refine ⟨by intro j b e; simp at e, ?_⟩
            have h5 : v2 5 = _ := hd 5 (by kernel_rfl)
            have hc : w7.cell? ⟨gz, 1, none⟩ = _ := Whole.read hr.2 1
            refine yields_run (u := sV o.n) (w' := w7) ?_ (Below.refl _ _) rfl
            unfold execOp
            simp [go_sem, Act.eval, Act.put, h5, hc]
          · intro v2 w7 hr ho hd
            refine ⟨by intro j b e; simp at e, ?_⟩
            have h4 : v2 4 = _ := hd 4 (by kernel_rfl)
            have h6 : v2 6 = _ := hd 6 (by kernel_rfl)
            refine .inl (yieldsW_callR (f := 14) rfl (vs := #[.pointer (some ⟨g2, 0, none⟩), sV o.n]) (by simp [Act.eval, Act.put, h4, h6]) rfl Try.func14 (by kernel_rfl) (by kernel_rfl) ?_)
            refine (remR HGD.out (by omega) o.n (Nat.le_trans HZ3.out hr.1.size) (ho.2 (by trivial))).mono fun e w' ⟨he, hp, ht⟩ => ⟨_, he, ⟨hr.1.trans (ht.below.mono (Nat.le_refl _)), ht.op _ _ hr.2⟩, ?_, ?_, rfl, hp⟩
            · intro k2 v' hk2 hc hu
              exact match k2, hk2, hu with
                | 0, _, hu => hu
                | 1, _, hu => hu
                | 2, _, hu => hu
                | 3, _, ⟨q1, q2⟩ => ⟨q1, ht.pr _ _ q2⟩
                | 4, _, hu => hu
                | 5, _, hu => hu
                | 6, _, hu => hu
                | 7, hk2, _ => absurd rfl hk2
                | 8, _, hu => hu
                | _ + 9, _, _ => trivial
            · intro k2 hk2 hn hc2 h
              exact ⟨fun e => ht.pr _ _ (h.1 e), fun e => absurd e hk2⟩
          · intro v2 w7 hr hd
            refine ⟨by intro j b e; simp at e, ?_⟩
            obtain ⟨h3, -⟩ : AtP _ _ _ _ (v2 3) w7 := hd 3 (by kernel_rfl)
            obtain ⟨h7, -⟩ : AtR _ _ _ _ (v2 7) w7 := hd 7 (by kernel_rfl)
            refine yields_run (u := .bool false) (w' := w7) ?_ (Below.refl _ _) rfl
            unfold execOp
            simp [go_sem, Act.eval, Act.put, h3, h7]
          · intro v w7 hr hv
            have hl : v 8 = .bool false := hv 8 (by decide) (by kernel_rfl)
            have R7 := Lib.hid hr
            obtain ⟨-, p7⟩ : AtP _ _ _ _ (v 3) w7 := hv 3 (by decide) (by kernel_rfl)
            obtain ⟨-, q7⟩ : AtR _ _ _ _ (v 7) w7 := hv 7 (by decide) (by kernel_rfl)
            rw [HDV.out] at p7 q7
            have HPt := Lib.hid p7
            have HRt := Lib.hid q7
            have OZt := Lib.hid R7.out.2
            have HBt := Lib.hid (HB3.out.trans R7.out.1)
            have z1 : w7.cell? ⟨gz, 1, none⟩ = some (sV o.n) := OZt.out.read 1
            rw [hfin]
            clear hfin hv hr p7 q7 R7 HP3 HR3 OZ3 HB3
            generalize v 8 = vl at hl ⊢
            subst hl
            rename World => wt
            have RP := Lib.hid (read_pr HE.out.1 o.n (by have := HSM.out; omega) wt HPt.out)
            go_upto_region 34 with (go_at_call 21; refine RP.out.mono ?_; rintro e w5 ⟨rfl, b5⟩; have HP5 := Lib.hid (HPt.out.below b5); have HR5 := Lib.hid (HRt.out.below b5); have OZ5 := Lib.hid (OZt.out.below b5 OZt.out.inside); have HB5 := Lib.hid (HBt.out.trans (b5.mono HBt.out.size)); have z1 : w5.cell? ⟨gz, 1, none⟩ = some (sV o.n) := OZ5.out.read 1; clear b5)
            clear RP HPt HRt OZt HBt
            have RR := Lib.hid (read_rf (E := E) (by have := HE.out.2; omega) o.n w5 HR5.out)
            go_upto_region 35 with (go_at_call 22; refine RR.out.mono ?_; rintro e w6 ⟨rfl, rfl⟩)
            clear RR z1
            have LP := Lib.hid (fun W (b : Below w5.heap.size w5 W) => lasts_pr HE.out.1 o.n (by have := HSM.out; omega) W (HP5.out.below b))
            have LR := Lib.hid (fun W (b : Below w5.heap.size w5 W) => lasts_rf (E := E) (by have := HE.out.2; omega) o.n W (HR5.out.below b))
            have SD := Lib.hid (fun W (b : Below w5.heap.size w5 W) => same_pr HE.out.1 (by have := HE.out.2; omega) W (HP5.out.below b) (HR5.out.below b))
            refine region_fullZ 144 [] [] [] (fun _ => false) (fun w7 => Below w5.heap.size w5 w7) ?hR ?r0 [pdOne 0 (Is (sV (readV E o.n))), pdOne 1 (Is (sV (readV E o.n))), pdOne 2 (Is (.bool false)), pdOne 3 (Is (.bool false)), pdOne 4 (Is (.int .i64 (readE E o.n))), pdOne 5 (Is (.int .i64 (readE E o.n))), pdOne 6 (Is (.bool false)), pdOne 7 (Is (.bool false)), pdOne 8 (Is (.bool false)), pdOne 9 (Is (.pointer (some ⟨g1, 0, none⟩))), pdOne 10 (Is (.pointer (some ⟨gz, 1, none⟩))), pdOne 11 (Is (sV o.n)), pdOne 12 (Is (.int .i64 (oldL E.F o.n : Int))), pdOne 13 (Is (.pointer (some ⟨g2, 0, none⟩))), pdOne 14 (Is (.pointer (some ⟨gz, 1, none⟩))), pdOne 15 (Is (sV o.n)), pdOne 16 (Is (.int .i64 (oldL E.F o.n : Int))), pdOne 17 (Is (.bool false)), pdOne 18 (Is (.bool false)), pdOne 19 (Is (.bool false)), pdOne 20 (Is (.pointer (some ⟨g1, 0, none⟩))), pdOne 21 (Is (.pointer (some ⟨g2, 0, none⟩))), pdOne 22 (Is (.bool true)), pdOne 23 (Is (.bool false)), pdOne 24 (Is (.bool false))] (fun _ _ => True) (by kernel_rfl) rfl (by kernel_rfl) (by kernel_rfl) (by kernel_rfl) (by kernel_rfl) (by kernel_rfl) ?keep ?hO ?h0 ?tell
            case hR => exact fun wa wb hb h => h.trans (hb.mono h.size)
            case r0 => exact Below.refl _ _
            case hO => exact fun _ _ _ _ h => h
            case h0 => exact fun _ _ => trivial
            case keep => exact ⟨keep_one (keeps_is _), keep_one (keeps_is _), keep_one (keeps_is _), keep_one (keeps_is _), keep_one (keeps_is _), keep_one (keeps_is _), keep_one (keeps_is _), keep_one (keeps_is _), keep_one (keeps_is _), keep_one (keeps_is _), keep_one (keeps_is _), keep_one (keeps_is _), keep_one (keeps_is _), keep_one (keeps_is _), keep_one (keeps_is _), keep_one (keeps_is _), keep_one (keeps_is _), keep_one (keeps_is _), keep_one (keeps_is _), keep_one (keeps_is _), keep_one (keeps_is _), keep_one (keeps_is _), keep_one (keeps_is _), keep_one (keeps_is _), keep_one (keeps_is _), trivial⟩
            case tell =>
              intro fin hfin
              simp [lexPut, Act.put] at hfin
              simp only [TellZ]
              refine ⟨⟨?_, ?_, ?_, ?_, ?_, ?_, ?_, ?_, ?_, ?_, ?_, ?_, ?_, ?_, ?_, ?_, ?_, ?_, ?_, ?_, ?_, ?_, ?_, ?_, ?_, trivial⟩, ?_⟩
              · intro v2 w7 hr hd
                refine ⟨by intro j b e; simp at e, ?_⟩
                refine yields_run (u := sV (readV E o.n)) (w' := w7) ?_ (Below.refl _ _) rfl
                unfold execOp
                simp [go_sem, Act.eval, Act.put]
              · intro v2 w7 hr hd
                refine ⟨by intro j b e; simp at e, ?_⟩
                refine yields_run (u := sV (readV E o.n)) (w' := w7) ?_ (Below.refl _ _) rfl
                unfold execOp
                simp [go_sem, Act.eval, Act.put]
              · intro v2 w7 hr hd
                refine ⟨by intro j b e; simp at e, ?_⟩
                have h0 : v2 0 = _ := hd 0 (by kernel_rfl)
                have h1 : v2 1 = _ := hd 1 (by kernel_rfl)
                refine yields_run (u := .bool false) (w' := w7) ?_ (Below.refl _ _) rfl
                unfold execOp
                simp [go_sem, Act.eval, Act.put, h0, h1]
              · intro v2 w7 hr hd
                refine ⟨by intro j b e; simp at e, ?_⟩
                have h2 : v2 2 = _ := hd 2 (by kernel_rfl)
                refine yields_run (u := .bool false) (w' := w7) ?_ (Below.refl _ _) rfl
                unfold execOp
                simp [go_sem, Act.eval, Act.put, h2]
              · intro v2 w7 hr hd
                refine ⟨(by
                  intro j b e
                  simp only [Option.some.injEq, Prod.mk.injEq] at e
                  obtain ⟨rfl, rfl⟩ := e
                  exact hd 3 (by kernel_rfl)), ?_⟩
                refine yields_run (u := .int .i64 (readE E o.n)) (w' := w7) ?_ (Below.refl _ _) rfl
                unfold execOp
                simp [go_sem, Act.eval, Act.put]
              · intro v2 w7 hr hd
                refine ⟨(by
                  intro j b e
                  simp only [Option.some.injEq, Prod.mk.injEq] at e
                  obtain ⟨rfl, rfl⟩ := e
                  exact hd 3 (by kernel_rfl)), ?_⟩
                refine yields_run (u := .int .i64 (readE E o.n)) (w' := w7) ?_ (Below.refl _ _) rfl
                unfold execOp
                simp [go_sem, Act.eval, Act.put]
              · intro v2 w7 hr hd
                refine ⟨(by
                  intro j b e
                  simp only [Option.some.injEq, Prod.mk.injEq] at e
                  obtain ⟨rfl, rfl⟩ := e
                  exact hd 3 (by kernel_rfl)), ?_⟩
                have h4 : v2 4 = _ := hd 4 (by kernel_rfl)
                have h5 : v2 5 = _ := hd 5 (by kernel_rfl)
                refine yields_run (u := .bool false) (w' := w7) ?_ (Below.refl _ _) rfl
                unfold execOp
                simp [go_sem, Act.eval, Act.put, h4, h5]
              · intro v2 w7 hr hd
                refine ⟨by intro j b e; simp at e, ?_⟩
                have h3 : v2 3 = _ := hd 3 (by kernel_rfl)
                have h6 : v2 6 = _ := hd 6 (by kernel_rfl)
                refine yields_run (u := .bool false) (w' := w7) ?_ (Below.refl _ _) rfl
                unfold execOp
                simp [go_sem, Act.eval, Act.put, h3, h6]
              · intro v2 w7 hr hd
                refine ⟨by intro j b e; simp at e, ?_⟩
                have h7 : v2 7 = _ := hd 7 (by kernel_rfl)
                refine yields_run (u := .bool false) (w' := w7) ?_ (Below.refl _ _) rfl
                unfold execOp
                simp [go_sem, Act.eval, Act.put, h7]
              · intro v2 w7 hr hd
                refine ⟨(by
                  intro j b e
                  simp only [Option.some.injEq, Prod.mk.injEq] at e
                  obtain ⟨rfl, rfl⟩ := e
                  exact hd 8 (by kernel_rfl)), ?_⟩
                refine yields_run (u := .pointer (some ⟨g1, 0, none⟩)) (w' := w7) ?_ (Below.refl _ _) rfl
                unfold execOp
                simp [go_sem, Act.eval, Act.put]
              · intro v2 w7 hr hd
                refine ⟨(by
                  intro j b e
                  simp only [Option.some.injEq, Prod.mk.injEq] at e
                  obtain ⟨rfl, rfl⟩ := e
                  exact hd 8 (by kernel_rfl)), ?_⟩
                refine yields_run (u := .pointer (some ⟨gz, 1, none⟩)) (w' := w7) ?_ (Below.refl _ _) rfl
                unfold execOp
                simp [go_sem, Act.eval, Act.put]
              · intro v2 w7 hr hd
                refine ⟨(by
                  intro j b e
                  simp only [Option.some.injEq, Prod.mk.injEq] at e
                  obtain ⟨rfl, rfl⟩ := e
                  exact hd 8 (by kernel_rfl)), ?_⟩
                have h10 : v2 10 = _ := hd 10 (by kernel_rfl)
                have hc : w7.cell? ⟨gz, 1, none⟩ = some (sV o.n) := (OZ5.out.below hr OZ5.out.inside).read 1
                refine yields_run (u := sV o.n) (w' := w7) ?_ (Below.refl _ _) rfl
                unfold execOp
                simp [go_sem, Act.eval, Act.put, h10, hc]
              · intro v2 w7 hr hd
                refine ⟨(by
                  intro j b e
                  simp only [Option.some.injEq, Prod.mk.injEq] at e
                  obtain ⟨rfl, rfl⟩ := e
                  exact hd 8 (by kernel_rfl)), ?_⟩
                have h9 : v2 9 = _ := hd 9 (by kernel_rfl)
                have h11 : v2 11 = _ := hd 11 (by kernel_rfl)
                refine yields_call (f := 23) rfl (vs := #[.pointer (some ⟨g1, 0, none⟩), sV o.n]) (by simp [Act.eval, Act.put, h9, h11]) rfl Try.func23 (by kernel_rfl) (by kernel_rfl) ?_
                exact (LP.out w7 hr).mono fun e w' ⟨he, hb'⟩ => ⟨_, he, hb', rfl⟩
              · intro v2 w7 hr hd
                refine ⟨(by
                  intro j b e
                  simp only [Option.some.injEq, Prod.mk.injEq] at e
                  obtain ⟨rfl, rfl⟩ := e
                  exact hd 8 (by kernel_rfl)), ?_⟩
                refine yields_run (u := .pointer (some ⟨g2, 0, none⟩)) (w' := w7) ?_ (Below.refl _ _) rfl
                unfold execOp
                simp [go_sem, Act.eval, Act.put]
              · intro v2 w7 hr hd
                refine ⟨(by
                  intro j b e
                  simp only [Option.some.injEq, Prod.mk.injEq] at e
                  obtain ⟨rfl, rfl⟩ := e
                  exact hd 8 (by kernel_rfl)), ?_⟩
                refine yields_run (u := .pointer (some ⟨gz, 1, none⟩)) (w' := w7) ?_ (Below.refl _ _) rfl
                unfold execOp
                simp [go_sem, Act.eval, Act.put]
              · intro v2 w7 hr hd
                refine ⟨(by
                  intro j b e
                  simp only [Option.some.injEq, Prod.mk.injEq] at e
                  obtain ⟨rfl, rfl⟩ := e
                  exact hd 8 (by kernel_rfl)), ?_⟩
                have h14 : v2 14 = _ := hd 14 (by kernel_rfl)
                have hc : w7.cell? ⟨gz, 1, none⟩ = some (sV o.n) := (OZ5.out.below hr OZ5.out.inside).read 1
                refine yields_run (u := sV o.n) (w' := w7) ?_ (Below.refl _ _) rfl
                unfold execOp
                simp [go_sem, Act.eval, Act.put, h14, hc]
              · intro v2 w7 hr hd
                refine ⟨(by
                  intro j b e
                  simp only [Option.some.injEq, Prod.mk.injEq] at e
                  obtain ⟨rfl, rfl⟩ := e
                  exact hd 8 (by kernel_rfl)), ?_⟩
                have h13 : v2 13 = _ := hd 13 (by kernel_rfl)
                have h15 : v2 15 = _ := hd 15 (by kernel_rfl)
                refine yields_call (f := 24) rfl (vs := #[.pointer (some ⟨g2, 0, none⟩), sV o.n]) (by simp [Act.eval, Act.put, h13, h15]) rfl Try.func24 (by kernel_rfl) (by kernel_rfl) ?_
                exact (LR.out w7 hr).mono fun e w' ⟨he, hb'⟩ => ⟨_, he, hb', rfl⟩
              · intro v2 w7 hr hd
                refine ⟨(by
                  intro j b e
                  simp only [Option.some.injEq, Prod.mk.injEq] at e
                  obtain ⟨rfl, rfl⟩ := e
                  exact hd 8 (by kernel_rfl)), ?_⟩
                have h12 : v2 12 = _ := hd 12 (by kernel_rfl)
                have h16 : v2 16 = _ := hd 16 (by kernel_rfl)
                refine yields_run (u := .bool false) (w' := w7) ?_ (Below.refl _ _) rfl
                unfold execOp
                simp [go_sem, Act.eval, Act.put, h12, h16]
              · intro v2 w7 hr hd
                refine ⟨by intro j b e; simp at e, ?_⟩
                have h8 : v2 8 = _ := hd 8 (by kernel_rfl)
                have h17 : v2 17 = _ := hd 17 (by kernel_rfl)
                refine yields_run (u := .bool false) (w' := w7) ?_ (Below.refl _ _) rfl
                unfold execOp
                simp [go_sem, Act.eval, Act.put, h8, h17]
              · intro v2 w7 hr hd
                refine ⟨by intro j b e; simp at e, ?_⟩
                have h18 : v2 18 = _ := hd 18 (by kernel_rfl)
                refine yields_run (u := .bool false) (w' := w7) ?_ (Below.refl _ _) rfl
                unfold execOp
                simp [go_sem, Act.eval, Act.put, h18]
              · intro v2 w7 hr hd
                refine ⟨(by
                  intro j b e
                  simp only [Option.some.injEq, Prod.mk.injEq] at e
                  obtain ⟨rfl, rfl⟩ := e
                  exact hd 19 (by kernel_rfl)), ?_⟩
                refine yields_run (u := .pointer (some ⟨g1, 0, none⟩)) (w' := w7) ?_ (Below.refl _ _) rfl
                unfold execOp
                simp [go_sem, Act.eval, Act.put]
              · intro v2 w7 hr hd
                refine ⟨(by
                  intro j b e
                  simp only [Option.some.injEq, Prod.mk.injEq] at e
                  obtain ⟨rfl, rfl⟩ := e
                  exact hd 19 (by kernel_rfl)), ?_⟩
                refine yields_run (u := .pointer (some ⟨g2, 0, none⟩)) (w' := w7) ?_ (Below.refl _ _) rfl
                unfold execOp
                simp [go_sem, Act.eval, Act.put]
              · intro v2 w7 hr hd
                refine ⟨(by
                  intro j b e
                  simp only [Option.some.injEq, Prod.mk.injEq] at e
                  obtain ⟨rfl, rfl⟩ := e
                  exact hd 19 (by kernel_rfl)), ?_⟩
                have h20 : v2 20 = _ := hd 20 (by kernel_rfl)
                have h21 : v2 21 = _ := hd 21 (by kernel_rfl)
                refine yields_call (f := 25) rfl (vs := #[.pointer (some ⟨g1, 0, none⟩), .pointer (some ⟨g2, 0, none⟩)]) (by simp [Act.eval, Act.put, h20, h21]) rfl Try.func25 (by kernel_rfl) (by kernel_rfl) ?_
                exact (SD.out w7 hr).mono fun e w' ⟨he, hb'⟩ => ⟨_, he, hb', rfl⟩
              · intro v2 w7 hr hd
                refine ⟨(by
                  intro j b e
                  simp only [Option.some.injEq, Prod.mk.injEq] at e
                  obtain ⟨rfl, rfl⟩ := e
                  exact hd 19 (by kernel_rfl)), ?_⟩
                have h22 : v2 22 = _ := hd 22 (by kernel_rfl)
                refine yields_run (u := .bool false) (w' := w7) ?_ (Below.refl _ _) rfl
                unfold execOp
                simp [go_sem, Act.eval, Act.put, h22]
              · intro v2 w7 hr hd
                refine ⟨by intro j b e; simp at e, ?_⟩
                have h19 : v2 19 = _ := hd 19 (by kernel_rfl)
                have h23 : v2 23 = _ := hd 23 (by kernel_rfl)
                refine yields_run (u := .bool false) (w' := w7) ?_ (Below.refl _ _) rfl
                unfold execOp
                simp [go_sem, Act.eval, Act.put, h19, h23]
              · intro v w7 hr hv
                have hl : v 24 = .bool false := hv 24 (by decide) (by kernel_rfl)
                have R7 := Lib.hid hr
                rw [hfin]
                clear hfin hv hr
                generalize v 24 = vl at hl ⊢
                subst hl
                go_wp2_with fail
                go_roundw
                case rel => exact ⟨k + 1, g1, g2, by omega, by omega, by go_num, rfl, rfl, Lib.hid (by rw [HNX.out]; exact HP5.out.below R7.out), Lib.hid (by rw [HNX.out]; exact HR5.out.below R7.out), Lib.hid (HB5.out.trans (R7.out.mono HB5.out.size))⟩
                case measure => simp [intOf]; omega
      have n2 : (o.k == 2) = false := by rw [beq_eq_false_iff_ne]; exact hq2
      by_cases hq3 : o.k = 3
      · have hq := hq3
        have HNX : Hid (runO (L.take (k + 1)) K0 = E) := Lib.hid hnx
        have HDV : Hid (armV D o.m = E) := Lib.hid (by rw [← hE]; unfold stepO; rw [if_neg (by rw [hq]; decide), if_neg (by rw [hq]; decide), if_neg (by rw [hq]; decide), if_pos hq])
        rw [hq] at z0
        clear hq
        have z3 : w3.cell? ⟨gz, 3, none⟩ = some (.int .i64 o.m) := OZ3.out.read 3
        have AP := Lib.hid (armP o.m HZ3.out HP3.out)
        go_upto_region 29 with (go_at_call 15; refine AP.out.mono ?_; rintro e w4 ⟨rfl, p4, t4⟩; have HP4 := Lib.hid p4; have HR4 := Lib.hid (t4.ref _ _ HR3.out); have OZ4 := Lib.hid (t4.op _ _ OZ3.out); have HB4 := Lib.hid (HB3.out.trans t4.below); clear p4 t4)
        clear AP z0 z3 HP3 HR3 OZ3 HB3
        have z3 : w4.cell? ⟨gz, 3, none⟩ = some (.int .i64 o.m) := OZ4.out.read 3
        have AR := Lib.hid (armR o.m HB4.out.size HR4.out)
        go_upto_region 33 with (go_at_call 16; refine AR.out.mono ?_; rintro e wt ⟨rfl, q5, t5⟩; have HPt := Lib.hid (t5.pr _ _ HP4.out); have HRt := Lib.hid q5; have OZt := Lib.hid (t5.op _ _ OZ4.out); have HBt := Lib.hid (HB4.out.trans t5.below); clear q5 t5)
        clear AR z3 HP4 HR4 OZ4 HB4
        rw [HDV.out] at HPt HRt
        have z1 : wt.cell? ⟨gz, 1, none⟩ = some (sV o.n) := OZt.out.read 1
        have RP := Lib.hid (read_pr HE.out.1 o.n (by have := HSM.out; omega) wt HPt.out)
        go_upto_region 34 with (go_at_call 21; refine RP.out.mono ?_; rintro e w5 ⟨rfl, b5⟩; have HP5 := Lib.hid (HPt.out.below b5); have HR5 := Lib.hid (HRt.out.below b5); have OZ5 := Lib.hid (OZt.out.below b5 OZt.out.inside); have HB5 := Lib.hid (HBt.out.trans (b5.mono HBt.out.size)); have z1 : w5.cell? ⟨gz, 1, none⟩ = some (sV o.n) := OZ5.out.read 1; clear b5)
        clear RP HPt HRt OZt HBt
        have RR := Lib.hid (read_rf (E := E) (by have := HE.out.2; omega) o.n w5 HR5.out)
        go_upto_region 35 with (go_at_call 22; refine RR.out.mono ?_; rintro e w6 ⟨rfl, rfl⟩)
        clear RR z1
        have LP := Lib.hid (fun W (b : Below w5.heap.size w5 W) => lasts_pr HE.out.1 o.n (by have := HSM.out; omega) W (HP5.out.below b))
        have LR := Lib.hid (fun W (b : Below w5.heap.size w5 W) => lasts_rf (E := E) (by have := HE.out.2; omega) o.n W (HR5.out.below b))
        have SD := Lib.hid (fun W (b : Below w5.heap.size w5 W) => same_pr HE.out.1 (by have := HE.out.2; omega) W (HP5.out.below b) (HR5.out.below b))
        refine region_fullZ 144 [] [] [] (fun _ => false) (fun w7 => Below w5.heap.size w5 w7) ?hR ?r0 [pdOne 0 (Is (sV (readV E o.n))), pdOne 1 (Is (sV (readV E o.n))), pdOne 2 (Is (.bool false)), pdOne 3 (Is (.bool false)), pdOne 4 (Is (.int .i64 (readE E o.n))), pdOne 5 (Is (.int .i64 (readE E o.n))), pdOne 6 (Is (.bool false)), pdOne 7 (Is (.bool false)), pdOne 8 (Is (.bool false)), pdOne 9 (Is (.pointer (some ⟨g1, 0, none⟩))), pdOne 10 (Is (.pointer (some ⟨gz, 1, none⟩))), pdOne 11 (Is (sV o.n)), pdOne 12 (Is (.int .i64 (oldL E.F o.n : Int))), pdOne 13 (Is (.pointer (some ⟨g2, 0, none⟩))), pdOne 14 (Is (.pointer (some ⟨gz, 1, none⟩))), pdOne 15 (Is (sV o.n)), pdOne 16 (Is (.int .i64 (oldL E.F o.n : Int))), pdOne 17 (Is (.bool false)), pdOne 18 (Is (.bool false)), pdOne 19 (Is (.bool false)), pdOne 20 (Is (.pointer (some ⟨g1, 0, none⟩))), pdOne 21 (Is (.pointer (some ⟨g2, 0, none⟩))), pdOne 22 (Is (.bool true)), pdOne 23 (Is (.bool false)), pdOne 24 (Is (.bool false))] (fun _ _ => True) (by kernel_rfl) rfl (by kernel_rfl) (by kernel_rfl) (by kernel_rfl) (by kernel_rfl) (by kernel_rfl) ?keep ?hO ?h0 ?tell
        case hR => exact fun wa wb hb h => h.trans (hb.mono h.size)
        case r0 => exact Below.refl _ _
        case hO => exact fun _ _ _ _ h => h
        case h0 => exact fun _ _ => trivial
        case keep => exact ⟨keep_one (keeps_is _), keep_one (keeps_is _), keep_one (keeps_is _), keep_one (keeps_is _), keep_one (keeps_is _), keep_one (keeps_is _), keep_one (keeps_is _), keep_one (keeps_is _), keep_one (keeps_is _), keep_one (keeps_is _), keep_one (keeps_is _), keep_one (keeps_is _), keep_one (keeps_is _), keep_one (keeps_is _), keep_one (keeps_is _), keep_one (keeps_is _), keep_one (keeps_is _), keep_one (keeps_is _), keep_one (keeps_is _), keep_one (keeps_is _), keep_one (keeps_is _), keep_one (keeps_is _), keep_one (keeps_is _), keep_one (keeps_is _), keep_one (keeps_is _), trivial⟩
        case tell =>
          intro fin hfin
          simp [lexPut, Act.put] at hfin
          simp only [TellZ]
          refine ⟨⟨?_, ?_, ?_, ?_, ?_, ?_, ?_, ?_, ?_, ?_, ?_, ?_, ?_, ?_, ?_, ?_, ?_, ?_, ?_, ?_, ?_, ?_, ?_, ?_, ?_, trivial⟩, ?_⟩
          · intro v2 w7 hr hd
            refine ⟨by intro j b e; simp at e, ?_⟩
            refine yields_run (u := sV (readV E o.n)) (w' := w7) ?_ (Below.refl _ _) rfl
            unfold execOp
            simp [go_sem, Act.eval, Act.put]
          · intro v2 w7 hr hd
            refine ⟨by intro j b e; simp at e, ?_⟩
            refine yields_run (u := sV (readV E o.n)) (w' := w7) ?_ (Below.refl _ _) rfl
            unfold execOp
            simp [go_sem, Act.eval, Act.put]
          · intro v2 w7 hr hd
            refine ⟨by intro j b e; simp at e, ?_⟩
            have h0 : v2 0 = _ := hd 0 (by kernel_rfl)
            have h1 : v2 1 = _ := hd 1 (by kernel_rfl)
            refine yields_run (u := .bool false) (w' := w7) ?_ (Below.refl _ _) rfl
            unfold execOp
            simp [go_sem, Act.eval, Act.put, h0, h1]
          · intro v2 w7 hr hd
            refine ⟨by intro j b e; simp at e, ?_⟩
            have h2 : v2 2 = _ := hd 2 (by kernel_rfl)
            refine yields_run (u := .bool false) (w' := w7) ?_ (Below.refl _ _) rfl
            unfold execOp
            simp [go_sem, Act.eval, Act.put, h2]
          · intro v2 w7 hr hd
            refine ⟨(by
              intro j b e
              simp only [Option.some.injEq, Prod.mk.injEq] at e
              obtain ⟨rfl, rfl⟩ := e
              exact hd 3 (by kernel_rfl)), ?_⟩
            refine yields_run (u := .int .i64 (readE E o.n)) (w' := w7) ?_ (Below.refl _ _) rfl
            unfold execOp
            simp [go_sem, Act.eval, Act.put]
          · intro v2 w7 hr hd
            refine ⟨(by
              intro j b e
              simp only [Option.some.injEq, Prod.mk.injEq] at e
              obtain ⟨rfl, rfl⟩ := e
              exact hd 3 (by kernel_rfl)), ?_⟩
            refine yields_run (u := .int .i64 (readE E o.n)) (w' := w7) ?_ (Below.refl _ _) rfl
            unfold execOp
            simp [go_sem, Act.eval, Act.put]
          · intro v2 w7 hr hd
            refine ⟨(by
              intro j b e
              simp only [Option.some.injEq, Prod.mk.injEq] at e
              obtain ⟨rfl, rfl⟩ := e
              exact hd 3 (by kernel_rfl)), ?_⟩
            have h4 : v2 4 = _ := hd 4 (by kernel_rfl)
            have h5 : v2 5 = _ := hd 5 (by kernel_rfl)
            refine yields_run (u := .bool false) (w' := w7) ?_ (Below.refl _ _) rfl
            unfold execOp
            simp [go_sem, Act.eval, Act.put, h4, h5]
          · intro v2 w7 hr hd
            refine ⟨by intro j b e; simp at e, ?_⟩
            have h3 : v2 3 = _ := hd 3 (by kernel_rfl)
            have h6 : v2 6 = _ := hd 6 (by kernel_rfl)
            refine yields_run (u := .bool false) (w' := w7) ?_ (Below.refl _ _) rfl
            unfold execOp
            simp [go_sem, Act.eval, Act.put, h3, h6]
          · intro v2 w7 hr hd
            refine ⟨by intro j b e; simp at e, ?_⟩
            have h7 : v2 7 = _ := hd 7 (by kernel_rfl)
            refine yields_run (u := .bool false) (w' := w7) ?_ (Below.refl _ _) rfl
            unfold execOp
            simp [go_sem, Act.eval, Act.put, h7]
          · intro v2 w7 hr hd
            refine ⟨(by
              intro j b e
              simp only [Option.some.injEq, Prod.mk.injEq] at e
              obtain ⟨rfl, rfl⟩ := e
              exact hd 8 (by kernel_rfl)), ?_⟩
            refine yields_run (u := .pointer (some ⟨g1, 0, none⟩)) (w' := w7) ?_ (Below.refl _ _) rfl
            unfold execOp
            simp [go_sem, Act.eval, Act.put]
          · intro v2 w7 hr hd
            refine ⟨(by
              intro j b e
              simp only [Option.some.injEq, Prod.mk.injEq] at e
              obtain ⟨rfl, rfl⟩ := e
              exact hd 8 (by kernel_rfl)), ?_⟩
            refine yields_run (u := .pointer (some ⟨gz, 1, none⟩)) (w' := w7) ?_ (Below.refl _ _) rfl
            unfold execOp
            simp [go_sem, Act.eval, Act.put]
          · intro v2 w7 hr hd
            refine ⟨(by
              intro j b e
              simp only [Option.some.injEq, Prod.mk.injEq] at e
              obtain ⟨rfl, rfl⟩ := e
              exact hd 8 (by kernel_rfl)), ?_⟩
            have h10 : v2 10 = _ := hd 10 (by kernel_rfl)
            have hc : w7.cell? ⟨gz, 1, none⟩ = some (sV o.n) := (OZ5.out.below hr OZ5.out.inside).read 1
            refine yields_run (u := sV o.n) (w' := w7) ?_ (Below.refl _ _) rfl
            unfold execOp
            simp [go_sem, Act.eval, Act.put, h10, hc]
          · intro v2 w7 hr hd
            refine ⟨(by
              intro j b e
              simp only [Option.some.injEq, Prod.mk.injEq] at e
              obtain ⟨rfl, rfl⟩ := e
              exact hd 8 (by kernel_rfl)), ?_⟩
            have h9 : v2 9 = _ := hd 9 (by kernel_rfl)
            have h11 : v2 11 = _ := hd 11 (by kernel_rfl)
            refine yields_call (f := 23) rfl (vs := #[.pointer (some ⟨g1, 0, none⟩), sV o.n]) (by simp [Act.eval, Act.put, h9, h11]) rfl Try.func23 (by kernel_rfl) (by kernel_rfl) ?_
            exact (LP.out w7 hr).mono fun e w' ⟨he, hb'⟩ => ⟨_, he, hb', rfl⟩
          · intro v2 w7 hr hd
            refine ⟨(by
              intro j b e
              simp only [Option.some.injEq, Prod.mk.injEq] at e
              obtain ⟨rfl, rfl⟩ := e
              exact hd 8 (by kernel_rfl)), ?_⟩
            refine yields_run (u := .pointer (some ⟨g2, 0, none⟩)) (w' := w7) ?_ (Below.refl _ _) rfl
            unfold execOp
            simp [go_sem, Act.eval, Act.put]
          · intro v2 w7 hr hd
            refine ⟨(by
              intro j b e
              simp only [Option.some.injEq, Prod.mk.injEq] at e
              obtain ⟨rfl, rfl⟩ := e
              exact hd 8 (by kernel_rfl)), ?_⟩
            refine yields_run (u := .pointer (some ⟨gz, 1, none⟩)) (w' := w7) ?_ (Below.refl _ _) rfl
            unfold execOp
            simp [go_sem, Act.eval, Act.put]
          · intro v2 w7 hr hd
            refine ⟨(by
              intro j b e
              simp only [Option.some.injEq, Prod.mk.injEq] at e
              obtain ⟨rfl, rfl⟩ := e
              exact hd 8 (by kernel_rfl)), ?_⟩
            have h14 : v2 14 = _ := hd 14 (by kernel_rfl)
            have hc : w7.cell? ⟨gz, 1, none⟩ = some (sV o.n) := (OZ5.out.below hr OZ5.out.inside).read 1
            refine yields_run (u := sV o.n) (w' := w7) ?_ (Below.refl _ _) rfl
            unfold execOp
            simp [go_sem, Act.eval, Act.put, h14, hc]
          · intro v2 w7 hr hd
            refine ⟨(by
              intro j b e
              simp only [Option.some.injEq, Prod.mk.injEq] at e
              obtain ⟨rfl, rfl⟩ := e
              exact hd 8 (by kernel_rfl)), ?_⟩
            have h13 : v2 13 = _ := hd 13 (by kernel_rfl)
            have h15 : v2 15 = _ := hd 15 (by kernel_rfl)
            refine yields_call (f := 24) rfl (vs := #[.pointer (some ⟨g2, 0, none⟩), sV o.n]) (by simp [Act.eval, Act.put, h13, h15]) rfl Try.func24 (by kernel_rfl) (by kernel_rfl) ?_
            exact (LR.out w7 hr).mono fun e w' ⟨he, hb'⟩ => ⟨_, he, hb', rfl⟩
          · intro v2 w7 hr hd
            refine ⟨(by
              intro j b e
              simp only [Option.some.injEq, Prod.mk.injEq] at e
              obtain ⟨rfl, rfl⟩ := e
              exact hd 8 (by kernel_rfl)), ?_⟩
            have h12 : v2 12 = _ := hd 12 (by kernel_rfl)
            have h16 : v2 16 = _ := hd 16 (by kernel_rfl)
            refine yields_run (u := .bool false) (w' := w7) ?_ (Below.refl _ _) rfl
            unfold execOp
            simp [go_sem, Act.eval, Act.put, h12, h16]
          · intro v2 w7 hr hd
            refine ⟨by intro j b e; simp at e, ?_⟩
            have h8 : v2 8 = _ := hd 8 (by kernel_rfl)
            have h17 : v2 17 = _ := hd 17 (by kernel_rfl)
            refine yields_run (u := .bool false) (w' := w7) ?_ (Below.refl _ _) rfl
            unfold execOp
            simp [go_sem, Act.eval, Act.put, h8, h17]
          · intro v2 w7 hr hd
            refine ⟨by intro j b e; simp at e, ?_⟩
            have h18 : v2 18 = _ := hd 18 (by kernel_rfl)
            refine yields_run (u := .bool false) (w' := w7) ?_ (Below.refl _ _) rfl
            unfold execOp
            simp [go_sem, Act.eval, Act.put, h18]
          · intro v2 w7 hr hd
            refine ⟨(by
              intro j b e
              simp only [Option.some.injEq, Prod.mk.injEq] at e
              obtain ⟨rfl, rfl⟩ := e
              exact hd 19 (by kernel_rfl)), ?_⟩
            refine yields_run (u := .pointer (some ⟨g1, 0, none⟩)) (w' := w7) ?_ (Below.refl _ _) rfl
            unfold execOp
            simp [go_sem, Act.eval, Act.put]
          · intro v2 w7 hr hd
            refine ⟨(by
              intro j b e
              simp only [Option.some.injEq, Prod.mk.injEq] at e
              obtain ⟨rfl, rfl⟩ := e
              exact hd 19 (by kernel_rfl)), ?_⟩
            refine yields_run (u := .pointer (some ⟨g2, 0, none⟩)) (w' := w7) ?_ (Below.refl _ _) rfl
            unfold execOp
            simp [go_sem, Act.eval, Act.put]
          · intro v2 w7 hr hd
            refine ⟨(by
              intro j b e
              simp only [Option.some.injEq, Prod.mk.injEq] at e
              obtain ⟨rfl, rfl⟩ := e
              exact hd 19 (by kernel_rfl)), ?_⟩
            have h20 : v2 20 = _ := hd 20 (by kernel_rfl)
            have h21 : v2 21 = _ := hd 21 (by kernel_rfl)
            refine yields_call (f := 25) rfl (vs := #[.pointer (some ⟨g1, 0, none⟩), .pointer (some ⟨g2, 0, none⟩)]) (by simp [Act.eval, Act.put, h20, h21]) rfl Try.func25 (by kernel_rfl) (by kernel_rfl) ?_
            exact (SD.out w7 hr).mono fun e w' ⟨he, hb'⟩ => ⟨_, he, hb', rfl⟩
          · intro v2 w7 hr hd
            refine ⟨(by
              intro j b e
              simp only [Option.some.injEq, Prod.mk.injEq] at e
              obtain ⟨rfl, rfl⟩ := e
              exact hd 19 (by kernel_rfl)), ?_⟩
            have h22 : v2 22 = _ := hd 22 (by kernel_rfl)
            refine yields_run (u := .bool false) (w' := w7) ?_ (Below.refl _ _) rfl
            unfold execOp
            simp [go_sem, Act.eval, Act.put, h22]
          · intro v2 w7 hr hd
            refine ⟨by intro j b e; simp at e, ?_⟩
            have h19 : v2 19 = _ := hd 19 (by kernel_rfl)
            have h23 : v2 23 = _ := hd 23 (by kernel_rfl)
            refine yields_run (u := .bool false) (w' := w7) ?_ (Below.refl _ _) rfl
            unfold execOp
            simp [go_sem, Act.eval, Act.put, h19, h23]
          · intro v w7 hr hv
            have hl : v 24 = .bool false := hv 24 (by decide) (by kernel_rfl)
            have R7 := Lib.hid hr
            rw [hfin]
            clear hfin hv hr
            generalize v 24 = vl at hl ⊢
            subst hl
            go_wp2_with fail
            go_roundw
            case rel => exact ⟨k + 1, g1, g2, by omega, by omega, by go_num, rfl, rfl, Lib.hid (by rw [HNX.out]; exact HP5.out.below R7.out), Lib.hid (by rw [HNX.out]; exact HR5.out.below R7.out), Lib.hid (HB5.out.trans (R7.out.mono HB5.out.size))⟩
            case measure => simp [intOf]; omega
      have n3 : (o.k == 3) = false := by rw [beq_eq_false_iff_ne]; exact hq3
      by_cases hq4 : o.k = 4
      · have hq := hq4
        have HNX : Hid (runO (L.take (k + 1)) K0 = E) := Lib.hid hnx
        have HDV : Hid (mendV D o.keep = E) := Lib.hid (by rw [← hE]; unfold stepO; rw [if_neg (by rw [hq]; decide), if_neg (by rw [hq]; decide), if_neg (by rw [hq]; decide), if_neg (by rw [hq]; decide), if_pos hq])
        rw [hq] at z0
        clear hq
        have HKX : Hid ((∀ x ∈ o.keep, x ≤ 9223372036854775807) ∧ o.keep.length ≤ 100000) := Lib.hid ⟨fun x hx => (oi.keep x hx).2, by have := HSM.out; omega⟩
        obtain ⟨A', c', w4, hap, hl4, hn4, b4⟩ := own_ints w3 o.K o.kc o.keep (by have := HKX.out; omega) HK3.out 29
        have z4 : w3.cell? ⟨gz, 4, none⟩ = some (.slice o.K o.keep.length o.kc) := OZ3.out.read 4
        have z5 : (w3.alloc (.cells #[] 3)).cell? ⟨gz, 4, none⟩ = some (.slice o.K o.keep.length o.kc) := (OZ3.out.alloc _).read 4
        have MP := Lib.hid (menP2 HGD.out (by omega) A' c' o.keep HKX.out.1 HKX.out.2 HZ3.out HP3.out b4 hl4 hn4)
        have HR4 := Lib.hid (HR3.out.below b4)
        have OZ4 := Lib.hid (OZ3.out.below b4 OZ3.out.inside)
        have HB4 := Lib.hid (HB3.out.trans (b4.mono HB3.out.size))
        clear hl4 hn4 b4 HK3
        go_upto_region 32 with (first | (at_builtin; refine wpList_append_run rfl _ _ 29 29 rfl rfl rfl hap ?_) | (go_at_call 17; refine MP.out.mono ?_; rintro e w5 ⟨rfl, p5, t5⟩; have HP5 := Lib.hid p5; have HR5 := Lib.hid (t5.ref _ _ HR4.out); have OZ5 := Lib.hid (t5.op _ _ OZ4.out); have HB5 := Lib.hid (HB4.out.trans t5.below); clear p5 t5))
        clear MP z0 z4 z5 hap HP3 HR3 OZ3 HB3 HR4 OZ4 HB4
        have z4 : w5.cell? ⟨gz, 4, none⟩ = some (.slice o.K o.keep.length o.kc) := OZ5.out.read 4
        have MR := Lib.hid (menR HGD.out (by omega) o.K o.kc o.keep HKX.out.1 HKX.out.2 HB5.out.size HR5.out ((HL.out.below HB5.out).keep HO.out).2)
        go_upto_region 33 with (go_at_call 18; refine MR.out.mono ?_; rintro e wt ⟨rfl, q6, t6⟩; have HPt := Lib.hid (t6.pr _ _ HP5.out); have HRt := Lib.hid q6; have OZt := Lib.hid (t6.op _ _ OZ5.out); have HBt := Lib.hid (HB5.out.trans t6.below); clear q6 t6)
        clear MR z4 HP5 HR5 OZ5 HB5
        rw [HDV.out] at HPt HRt
        have z1 : wt.cell? ⟨gz, 1, none⟩ = some (sV o.n) := OZt.out.read 1
        have RP := Lib.hid (read_pr HE.out.1 o.n (by have := HSM.out; omega) wt HPt.out)
        go_upto_region 34 with (go_at_call 21; refine RP.out.mono ?_; rintro e w5 ⟨rfl, b5⟩; have HP5 := Lib.hid (HPt.out.below b5); have HR5 := Lib.hid (HRt.out.below b5); have OZ5 := Lib.hid (OZt.out.below b5 OZt.out.inside); have HB5 := Lib.hid (HBt.out.trans (b5.mono HBt.out.size)); have z1 : w5.cell? ⟨gz, 1, none⟩ = some (sV o.n) := OZ5.out.read 1; clear b5)
        clear RP HPt HRt OZt HBt
        have RR := Lib.hid (read_rf (E := E) (by have := HE.out.2; omega) o.n w5 HR5.out)
        go_upto_region 35 with (go_at_call 22; refine RR.out.mono ?_; rintro e w6 ⟨rfl, rfl⟩)
        clear RR z1
        have LP := Lib.hid (fun W (b : Below w5.heap.size w5 W) => lasts_pr HE.out.1 o.n (by have := HSM.out; omega) W (HP5.out.below b))
        have LR := Lib.hid (fun W (b : Below w5.heap.size w5 W) => lasts_rf (E := E) (by have := HE.out.2; omega) o.n W (HR5.out.below b))
        have SD := Lib.hid (fun W (b : Below w5.heap.size w5 W) => same_pr HE.out.1 (by have := HE.out.2; omega) W (HP5.out.below b) (HR5.out.below b))
        refine region_fullZ 144 [] [] [] (fun _ => false) (fun w7 => Below w5.heap.size w5 w7) ?hR ?r0 [pdOne 0 (Is (sV (readV E o.n))), pdOne 1 (Is (sV (readV E o.n))), pdOne 2 (Is (.bool false)), pdOne 3 (Is (.bool false)), pdOne 4 (Is (.int .i64 (readE E o.n))), pdOne 5 (Is (.int .i64 (readE E o.n))), pdOne 6 (Is (.bool false)), pdOne 7 (Is (.bool false)), pdOne 8 (Is (.bool false)), pdOne 9 (Is (.pointer (some ⟨g1, 0, none⟩))), pdOne 10 (Is (.pointer (some ⟨gz, 1, none⟩))), pdOne 11 (Is (sV o.n)), pdOne 12 (Is (.int .i64 (oldL E.F o.n : Int))), pdOne 13 (Is (.pointer (some ⟨g2, 0, none⟩))), pdOne 14 (Is (.pointer (some ⟨gz, 1, none⟩))), pdOne 15 (Is (sV o.n)), pdOne 16 (Is (.int .i64 (oldL E.F o.n : Int))), pdOne 17 (Is (.bool false)), pdOne 18 (Is (.bool false)), pdOne 19 (Is (.bool false)), pdOne 20 (Is (.pointer (some ⟨g1, 0, none⟩))), pdOne 21 (Is (.pointer (some ⟨g2, 0, none⟩))), pdOne 22 (Is (.bool true)), pdOne 23 (Is (.bool false)), pdOne 24 (Is (.bool false))] (fun _ _ => True) (by kernel_rfl) rfl (by kernel_rfl) (by kernel_rfl) (by kernel_rfl) (by kernel_rfl) (by kernel_rfl) ?keep ?hO ?h0 ?tell
        case hR => exact fun wa wb hb h => h.trans (hb.mono h.size)
        case r0 => exact Below.refl _ _
        case hO => exact fun _ _ _ _ h => h
        case h0 => exact fun _ _ => trivial
        case keep => exact ⟨keep_one (keeps_is _), keep_one (keeps_is _), keep_one (keeps_is _), keep_one (keeps_is _), keep_one (keeps_is _), keep_one (keeps_is _), keep_one (keeps_is _), keep_one (keeps_is _), keep_one (keeps_is _), keep_one (keeps_is _), keep_one (keeps_is _), keep_one (keeps_is _), keep_one (keeps_is _), keep_one (keeps_is _), keep_one (keeps_is _), keep_one (keeps_is _), keep_one (keeps_is _), keep_one (keeps_is _), keep_one (keeps_is _), keep_one (keeps_is _), keep_one (keeps_is _), keep_one (keeps_is _), keep_one (keeps_is _), keep_one (keeps_is _), keep_one (keeps_is _), trivial⟩
        case tell =>
          intro fin hfin
          simp [lexPut, Act.put] at hfin
          simp only [TellZ]
          refine ⟨⟨?_, ?_, ?_, ?_, ?_, ?_, ?_, ?_, ?_, ?_, ?_, ?_, ?_, ?_, ?_, ?_, ?_, ?_, ?_, ?_, ?_, ?_, ?_, ?_, ?_, trivial⟩, ?_⟩
          · intro v2 w7 hr hd
            refine ⟨by intro j b e; simp at e, ?_⟩
            refine yields_run (u := sV (readV E o.n)) (w' := w7) ?_ (Below.refl _ _) rfl
            unfold execOp
            simp [go_sem, Act.eval, Act.put]
          · intro v2 w7 hr hd
            refine ⟨by intro j b e; simp at e, ?_⟩
            refine yields_run (u := sV (readV E o.n)) (w' := w7) ?_ (Below.refl _ _) rfl
            unfold execOp
            simp [go_sem, Act.eval, Act.put]
          · intro v2 w7 hr hd
            refine ⟨by intro j b e; simp at e, ?_⟩
            have h0 : v2 0 = _ := hd 0 (by kernel_rfl)
            have h1 : v2 1 = _ := hd 1 (by kernel_rfl)
            refine yields_run (u := .bool false) (w' := w7) ?_ (Below.refl _ _) rfl
            unfold execOp
            simp [go_sem, Act.eval, Act.put, h0, h1]
          · intro v2 w7 hr hd
            refine ⟨by intro j b e; simp at e, ?_⟩
            have h2 : v2 2 = _ := hd 2 (by kernel_rfl)
            refine yields_run (u := .bool false) (w' := w7) ?_ (Below.refl _ _) rfl
            unfold execOp
            simp [go_sem, Act.eval, Act.put, h2]
          · intro v2 w7 hr hd
            refine ⟨(by
              intro j b e
              simp only [Option.some.injEq, Prod.mk.injEq] at e
              obtain ⟨rfl, rfl⟩ := e
              exact hd 3 (by kernel_rfl)), ?_⟩
            refine yields_run (u := .int .i64 (readE E o.n)) (w' := w7) ?_ (Below.refl _ _) rfl
            unfold execOp
            simp [go_sem, Act.eval, Act.put]
          · intro v2 w7 hr hd
            refine ⟨(by
              intro j b e
              simp only [Option.some.injEq, Prod.mk.injEq] at e
              obtain ⟨rfl, rfl⟩ := e
              exact hd 3 (by kernel_rfl)), ?_⟩
            refine yields_run (u := .int .i64 (readE E o.n)) (w' := w7) ?_ (Below.refl _ _) rfl
            unfold execOp
            simp [go_sem, Act.eval, Act.put]
          · intro v2 w7 hr hd
            refine ⟨(by
              intro j b e
              simp only [Option.some.injEq, Prod.mk.injEq] at e
              obtain ⟨rfl, rfl⟩ := e
              exact hd 3 (by kernel_rfl)), ?_⟩
            have h4 : v2 4 = _ := hd 4 (by kernel_rfl)
            have h5 : v2 5 = _ := hd 5 (by kernel_rfl)
            refine yields_run (u := .bool false) (w' := w7) ?_ (Below.refl _ _) rfl
            unfold execOp
            simp [go_sem, Act.eval, Act.put, h4, h5]
          · intro v2 w7 hr hd
            refine ⟨by intro j b e; simp at e, ?_⟩
            have h3 : v2 3 = _ := hd 3 (by kernel_rfl)
            have h6 : v2 6 = _ := hd 6 (by kernel_rfl)
            refine yields_run (u := .bool false) (w' := w7) ?_ (Below.refl _ _) rfl
            unfold execOp
            simp [go_sem, Act.eval, Act.put, h3, h6]
          · intro v2 w7 hr hd
            refine ⟨by intro j b e; simp at e, ?_⟩
            have h7 : v2 7 = _ := hd 7 (by kernel_rfl)
            refine yields_run (u := .bool false) (w' := w7) ?_ (Below.refl _ _) rfl
            unfold execOp
            simp [go_sem, Act.eval, Act.put, h7]
          · intro v2 w7 hr hd
            refine ⟨(by
              intro j b e
              simp only [Option.some.injEq, Prod.mk.injEq] at e
              obtain ⟨rfl, rfl⟩ := e
              exact hd 8 (by kernel_rfl)), ?_⟩
            refine yields_run (u := .pointer (some ⟨g1, 0, none⟩)) (w' := w7) ?_ (Below.refl _ _) rfl
            unfold execOp
            simp [go_sem, Act.eval, Act.put]
          · intro v2 w7 hr hd
            refine ⟨(by
              intro j b e
              simp only [Option.some.injEq, Prod.mk.injEq] at e
              obtain ⟨rfl, rfl⟩ := e
              exact hd 8 (by kernel_rfl)), ?_⟩
            refine yields_run (u := .pointer (some ⟨gz, 1, none⟩)) (w' := w7) ?_ (Below.refl _ _) rfl
            unfold execOp
            simp [go_sem, Act.eval, Act.put]
          · intro v2 w7 hr hd
            refine ⟨(by
              intro j b e
              simp only [Option.some.injEq, Prod.mk.injEq] at e
              obtain ⟨rfl, rfl⟩ := e
              exact hd 8 (by kernel_rfl)), ?_⟩
            have h10 : v2 10 = _ := hd 10 (by kernel_rfl)
            have hc : w7.cell? ⟨gz, 1, none⟩ = some (sV o.n) := (OZ5.out.below hr OZ5.out.inside).read 1
            refine yields_run (u := sV o.n) (w' := w7) ?_ (Below.refl _ _) rfl
            unfold execOp
            simp [go_sem, Act.eval, Act.put, h10, hc]
          · intro v2 w7 hr hd
            refine ⟨(by
              intro j b e
              simp only [Option.some.injEq, Prod.mk.injEq] at e
              obtain ⟨rfl, rfl⟩ := e
              exact hd 8 (by kernel_rfl)), ?_⟩
            have h9 : v2 9 = _ := hd 9 (by kernel_rfl)
            have h11 : v2 11 = _ := hd 11 (by kernel_rfl)
            refine yields_call (f := 23) rfl (vs := #[.pointer (some ⟨g1, 0, none⟩), sV o.n]) (by simp [Act.eval, Act.put, h9, h11]) rfl Try.func23 (by kernel_rfl) (by kernel_rfl) ?_
            exact (LP.out w7 hr).mono fun e w' ⟨he, hb'⟩ => ⟨_, he, hb', rfl⟩
          · intro v2 w7 hr hd
            refine ⟨(by
              intro j b e
              simp only [Option.some.injEq, Prod.mk.injEq] at e
              obtain ⟨rfl, rfl⟩ := e
              exact hd 8 (by kernel_rfl)), ?_⟩
            refine yields_run (u := .pointer (some ⟨g2, 0, none⟩)) (w' := w7) ?_ (Below.refl _ _) rfl
            unfold execOp
            simp [go_sem, Act.eval, Act.put]
          · intro v2 w7 hr hd
            refine ⟨(by
              intro j b e
              simp only [Option.some.injEq, Prod.mk.injEq] at e
              obtain ⟨rfl, rfl⟩ := e
              exact hd 8 (by kernel_rfl)), ?_⟩
            refine yields_run (u := .pointer (some ⟨gz, 1, none⟩)) (w' := w7) ?_ (Below.refl _ _) rfl
            unfold execOp
            simp [go_sem, Act.eval, Act.put]
          · intro v2 w7 hr hd
            refine ⟨(by
              intro j b e
              simp only [Option.some.injEq, Prod.mk.injEq] at e
              obtain ⟨rfl, rfl⟩ := e
              exact hd 8 (by kernel_rfl)), ?_⟩
            have h14 : v2 14 = _ := hd 14 (by kernel_rfl)
            have hc : w7.cell? ⟨gz, 1, none⟩ = some (sV o.n) := (OZ5.out.below hr OZ5.out.inside).read 1
            refine yields_run (u := sV o.n) (w' := w7) ?_ (Below.refl _ _) rfl
            unfold execOp
            simp [go_sem, Act.eval, Act.put, h14, hc]
          · intro v2 w7 hr hd
            refine ⟨(by
              intro j b e
              simp only [Option.some.injEq, Prod.mk.injEq] at e
              obtain ⟨rfl, rfl⟩ := e
              exact hd 8 (by kernel_rfl)), ?_⟩
            have h13 : v2 13 = _ := hd 13 (by kernel_rfl)
            have h15 : v2 15 = _ := hd 15 (by kernel_rfl)
            refine yields_call (f := 24) rfl (vs := #[.pointer (some ⟨g2, 0, none⟩), sV o.n]) (by simp [Act.eval, Act.put, h13, h15]) rfl Try.func24 (by kernel_rfl) (by kernel_rfl) ?_
            exact (LR.out w7 hr).mono fun e w' ⟨he, hb'⟩ => ⟨_, he, hb', rfl⟩
          · intro v2 w7 hr hd
            refine ⟨(by
              intro j b e
              simp only [Option.some.injEq, Prod.mk.injEq] at e
              obtain ⟨rfl, rfl⟩ := e
              exact hd 8 (by kernel_rfl)), ?_⟩
            have h12 : v2 12 = _ := hd 12 (by kernel_rfl)
            have h16 : v2 16 = _ := hd 16 (by kernel_rfl)
            refine yields_run (u := .bool false) (w' := w7) ?_ (Below.refl _ _) rfl
            unfold execOp
            simp [go_sem, Act.eval, Act.put, h12, h16]
          · intro v2 w7 hr hd
            refine ⟨by intro j b e; simp at e, ?_⟩
            have h8 : v2 8 = _ := hd 8 (by kernel_rfl)
            have h17 : v2 17 = _ := hd 17 (by kernel_rfl)
            refine yields_run (u := .bool false) (w' := w7) ?_ (Below.refl _ _) rfl
            unfold execOp
            simp [go_sem, Act.eval, Act.put, h8, h17]
          · intro v2 w7 hr hd
            refine ⟨by intro j b e; simp at e, ?_⟩
            have h18 : v2 18 = _ := hd 18 (by kernel_rfl)
            refine yields_run (u := .bool false) (w' := w7) ?_ (Below.refl _ _) rfl
            unfold execOp
            simp [go_sem, Act.eval, Act.put, h18]
          · intro v2 w7 hr hd
            refine ⟨(by
              intro j b e
              simp only [Option.some.injEq, Prod.mk.injEq] at e
              obtain ⟨rfl, rfl⟩ := e
              exact hd 19 (by kernel_rfl)), ?_⟩
            refine yields_run (u := .pointer (some ⟨g1, 0, none⟩)) (w' := w7) ?_ (Below.refl _ _) rfl
            unfold execOp
            simp [go_sem, Act.eval, Act.put]
          · intro v2 w7 hr hd
            refine ⟨(by
              intro j b e
              simp only [Option.some.injEq, Prod.mk.injEq] at e
              obtain ⟨rfl, rfl⟩ := e
              exact hd 19 (by kernel_rfl)), ?_⟩
            refine yields_run (u := .pointer (some ⟨g2, 0, none⟩)) (w' := w7) ?_ (Below.refl _ _) rfl
            unfold execOp
            simp [go_sem, Act.eval, Act.put]
          · intro v2 w7 hr hd
            refine ⟨(by
              intro j b e
              simp only [Option.some.injEq, Prod.mk.injEq] at e
              obtain ⟨rfl, rfl⟩ := e
              exact hd 19 (by kernel_rfl)), ?_⟩
            have h20 : v2 20 = _ := hd 20 (by kernel_rfl)
            have h21 : v2 21 = _ := hd 21 (by kernel_rfl)
            refine yields_call (f := 25) rfl (vs := #[.pointer (some ⟨g1, 0, none⟩), .pointer (some ⟨g2, 0, none⟩)]) (by simp [Act.eval, Act.put, h20, h21]) rfl Try.func25 (by kernel_rfl) (by kernel_rfl) ?_
            exact (SD.out w7 hr).mono fun e w' ⟨he, hb'⟩ => ⟨_, he, hb', rfl⟩
          · intro v2 w7 hr hd
            refine ⟨(by
              intro j b e
              simp only [Option.some.injEq, Prod.mk.injEq] at e
              obtain ⟨rfl, rfl⟩ := e
              exact hd 19 (by kernel_rfl)), ?_⟩
            have h22 : v2 22 = _ := hd 22 (by kernel_rfl)
            refine yields_run (u := .bool false) (w' := w7) ?_ (Below.refl _ _) rfl
            unfold execOp
            simp [go_sem, Act.eval, Act.put, h22]
          · intro v2 w7 hr hd
            refine ⟨by intro j b e; simp at e, ?_⟩
            have h19 : v2 19 = _ := hd 19 (by kernel_rfl)
            have h23 : v2 23 = _ := hd 23 (by kernel_rfl)
            refine yields_run (u := .bool false) (w' := w7) ?_ (Below.refl _ _) rfl
            unfold execOp
            simp [go_sem, Act.eval, Act.put, h19, h23]
          · intro v w7 hr hv
            have hl : v 24 = .bool false := hv 24 (by decide) (by kernel_rfl)
            have R7 := Lib.hid hr
            rw [hfin]
            clear hfin hv hr
            generalize v 24 = vl at hl ⊢
            subst hl
            go_wp2_with fail
            go_roundw
            case rel => exact ⟨k + 1, g1, g2, by omega, by omega, by go_num, rfl, rfl, Lib.hid (by rw [HNX.out]; exact HP5.out.below R7.out), Lib.hid (by rw [HNX.out]; exact HR5.out.below R7.out), Lib.hid (HB5.out.trans (R7.out.mono HB5.out.size))⟩
            case measure => simp [intOf]; omega
      have n4 : (o.k == 4) = false := by rw [beq_eq_false_iff_ne]; exact hq4
      have HNX : Hid (runO (L.take (k + 1)) K0 = E) := Lib.hid hnx
      have HDV : Hid (D = E) := Lib.hid (by rw [← hE]; unfold stepO; rw [if_neg hq, if_neg hq1, if_neg hq2, if_neg hq3, if_neg hq4])
      clear hq hq1 hq2 hq3 hq4
      have CP := Lib.hid (copT HGD.out (by omega) HZ3.out HP3.out)
      go_upto_region 14 with (go_at_call 19; refine CP.out.mono ?_; rintro e w4 ⟨g3, rfl, p4, b4⟩; have HT4 := Lib.hid p4; have HR4 := Lib.hid (HR3.out.below b4); have OZ4 := Lib.hid (OZ3.out.below b4 OZ3.out.inside); have HB4 := Lib.hid (HB3.out.trans (b4.mono HB3.out.size)); clear p4 b4)
      clear CP z0 n0 n1 n2 n3 n4 HP3 HR3 OZ3 HB3 HZ3
      have AP := Lib.hid (appT HGD.out (by omega) HB4.out.size HT4.out)
      go_upto_region 15 with (go_at_call 9; refine AP.out.mono ?_; rintro e w5 ⟨rfl, p5, t5⟩; have HT5 := Lib.hid p5; have HR5 := Lib.hid (t5.ref _ _ HR4.out); have OZ5 := Lib.hid (t5.op _ _ OZ4.out); have HB5 := Lib.hid (HB4.out.trans t5.below); clear p5 t5)
      clear AP HT4 HR4 OZ4 HB4
      have MP := Lib.hid (menT (good_app HGD.out _ _) (by have := app_F (D := D) [108, 101, 102, 116] [98, 101, 104, 105, 110, 100]; omega) HB5.out.size HT5.out)
      go_upto_region 17 with (go_at_call 17; refine MP.out.mono ?_; rintro e w6 ⟨rfl, p6, t6⟩; have HP6 := Lib.hid p6.copy; have HR6 := Lib.hid (t6.ref _ _ HR5.out); have OZ6 := Lib.hid (t6.op _ _ OZ5.out); have HB6 := Lib.hid (HB5.out.trans t6.below); clear p6 t6)
      clear MP HT5 HR5 OZ5 HB5
      have CR := Lib.hid (copR (by omega) HB6.out.size HR6.out)
      go_upto_region 33 with (go_at_call 20; refine CR.out.mono ?_; rintro e wt ⟨g4, rfl, q7, b7⟩; have HPt := Lib.hid (HP6.out.below b7); have HRt := Lib.hid q7; have OZt := Lib.hid (OZ6.out.below b7 OZ6.out.inside); have HBt := Lib.hid (HB6.out.trans (b7.mono HB6.out.size)); clear q7 b7)
      clear CR HP6 HR6 OZ6 HB6
      rw [HDV.out] at HPt HRt
      have z1 : wt.cell? ⟨gz, 1, none⟩ = some (sV o.n) := OZt.out.read 1
      have RP := Lib.hid (read_pr HE.out.1 o.n (by have := HSM.out; omega) wt HPt.out)
      go_upto_region 34 with (go_at_call 21; refine RP.out.mono ?_; rintro e w5 ⟨rfl, b5⟩; have HP5 := Lib.hid (HPt.out.below b5); have HR5 := Lib.hid (HRt.out.below b5); have OZ5 := Lib.hid (OZt.out.below b5 OZt.out.inside); have HB5 := Lib.hid (HBt.out.trans (b5.mono HBt.out.size)); have z1 : w5.cell? ⟨gz, 1, none⟩ = some (sV o.n) := OZ5.out.read 1; clear b5)
      clear RP HPt HRt OZt HBt
      have RR := Lib.hid (read_rf (E := E) (by have := HE.out.2; omega) o.n w5 HR5.out)
      go_upto_region 35 with (go_at_call 22; refine RR.out.mono ?_; rintro e w6 ⟨rfl, rfl⟩)
      clear RR z1
      have LP := Lib.hid (fun W (b : Below w5.heap.size w5 W) => lasts_pr HE.out.1 o.n (by have := HSM.out; omega) W (HP5.out.below b))
      have LR := Lib.hid (fun W (b : Below w5.heap.size w5 W) => lasts_rf (E := E) (by have := HE.out.2; omega) o.n W (HR5.out.below b))
      have SD := Lib.hid (fun W (b : Below w5.heap.size w5 W) => same_pr HE.out.1 (by have := HE.out.2; omega) W (HP5.out.below b) (HR5.out.below b))
      refine region_fullZ 144 [] [] [] (fun _ => false) (fun w7 => Below w5.heap.size w5 w7) ?hR ?r0 [pdOne 0 (Is (sV (readV E o.n))), pdOne 1 (Is (sV (readV E o.n))), pdOne 2 (Is (.bool false)), pdOne 3 (Is (.bool false)), pdOne 4 (Is (.int .i64 (readE E o.n))), pdOne 5 (Is (.int .i64 (readE E o.n))), pdOne 6 (Is (.bool false)), pdOne 7 (Is (.bool false)), pdOne 8 (Is (.bool false)), pdOne 9 (Is (.pointer (some ⟨g3, 0, none⟩))), pdOne 10 (Is (.pointer (some ⟨gz, 1, none⟩))), pdOne 11 (Is (sV o.n)), pdOne 12 (Is (.int .i64 (oldL E.F o.n : Int))), pdOne 13 (Is (.pointer (some ⟨g4, 0, none⟩))), pdOne 14 (Is (.pointer (some ⟨gz, 1, none⟩))), pdOne 15 (Is (sV o.n)), pdOne 16 (Is (.int .i64 (oldL E.F o.n : Int))), pdOne 17 (Is (.bool false)), pdOne 18 (Is (.bool false)), pdOne 19 (Is (.bool false)), pdOne 20 (Is (.pointer (some ⟨g3, 0, none⟩))), pdOne 21 (Is (.pointer (some ⟨g4, 0, none⟩))), pdOne 22 (Is (.bool true)), pdOne 23 (Is (.bool false)), pdOne 24 (Is (.bool false))] (fun _ _ => True) (by kernel_rfl) rfl (by kernel_rfl) (by kernel_rfl) (by kernel_rfl) (by kernel_rfl) (by kernel_rfl) ?keep ?hO ?h0 ?tell
      case hR => exact fun wa wb hb h => h.trans (hb.mono h.size)
      case r0 => exact Below.refl _ _
      case hO => exact fun _ _ _ _ h => h
      case h0 => exact fun _ _ => trivial
      case keep => exact ⟨keep_one (keeps_is _), keep_one (keeps_is _), keep_one (keeps_is _), keep_one (keeps_is _), keep_one (keeps_is _), keep_one (keeps_is _), keep_one (keeps_is _), keep_one (keeps_is _), keep_one (keeps_is _), keep_one (keeps_is _), keep_one (keeps_is _), keep_one (keeps_is _), keep_one (keeps_is _), keep_one (keeps_is _), keep_one (keeps_is _), keep_one (keeps_is _), keep_one (keeps_is _), keep_one (keeps_is _), keep_one (keeps_is _), keep_one (keeps_is _), keep_one (keeps_is _), keep_one (keeps_is _), keep_one (keeps_is _), keep_one (keeps_is _), keep_one (keeps_is _), trivial⟩
      case tell =>
        intro fin hfin
        simp [lexPut, Act.put] at hfin
        simp only [TellZ]
        refine ⟨⟨?_, ?_, ?_, ?_, ?_, ?_, ?_, ?_, ?_, ?_, ?_, ?_, ?_, ?_, ?_, ?_, ?_, ?_, ?_, ?_, ?_, ?_, ?_, ?_, ?_, trivial⟩, ?_⟩
        · intro v2 w7 hr hd
          refine ⟨by intro j b e; simp at e, ?_⟩
          refine yields_run (u := sV (readV E o.n)) (w' := w7) ?_ (Below.refl _ _) rfl
          unfold execOp
          simp [go_sem, Act.eval, Act.put]
        · intro v2 w7 hr hd
          refine ⟨by intro j b e; simp at e, ?_⟩
          refine yields_run (u := sV (readV E o.n)) (w' := w7) ?_ (Below.refl _ _) rfl
          unfold execOp
          simp [go_sem, Act.eval, Act.put]
        · intro v2 w7 hr hd
          refine ⟨by intro j b e; simp at e, ?_⟩
          have h0 : v2 0 = _ := hd 0 (by kernel_rfl)
          have h1 : v2 1 = _ := hd 1 (by kernel_rfl)
          refine yields_run (u := .bool false) (w' := w7) ?_ (Below.refl _ _) rfl
          unfold execOp
          simp [go_sem, Act.eval, Act.put, h0, h1]
        · intro v2 w7 hr hd
          refine ⟨by intro j b e; simp at e, ?_⟩
          have h2 : v2 2 = _ := hd 2 (by kernel_rfl)
          refine yields_run (u := .bool false) (w' := w7) ?_ (Below.refl _ _) rfl
          unfold execOp
          simp [go_sem, Act.eval, Act.put, h2]
        · intro v2 w7 hr hd
          refine ⟨(by
            intro j b e
            simp only [Option.some.injEq, Prod.mk.injEq] at e
            obtain ⟨rfl, rfl⟩ := e
            exact hd 3 (by kernel_rfl)), ?_⟩
          refine yields_run (u := .int .i64 (readE E o.n)) (w' := w7) ?_ (Below.refl _ _) rfl
          unfold execOp
          simp [go_sem, Act.eval, Act.put]
        · intro v2 w7 hr hd
          refine ⟨(by
            intro j b e
            simp only [Option.some.injEq, Prod.mk.injEq] at e
            obtain ⟨rfl, rfl⟩ := e
            exact hd 3 (by kernel_rfl)), ?_⟩
          refine yields_run (u := .int .i64 (readE E o.n)) (w' := w7) ?_ (Below.refl _ _) rfl
          unfold execOp
          simp [go_sem, Act.eval, Act.put]
        · intro v2 w7 hr hd
          refine ⟨(by
            intro j b e
            simp only [Option.some.injEq, Prod.mk.injEq] at e
            obtain ⟨rfl, rfl⟩ := e
            exact hd 3 (by kernel_rfl)), ?_⟩
          have h4 : v2 4 = _ := hd 4 (by kernel_rfl)
          have h5 : v2 5 = _ := hd 5 (by kernel_rfl)
          refine yields_run (u := .bool false) (w' := w7) ?_ (Below.refl _ _) rfl
          unfold execOp
          simp [go_sem, Act.eval, Act.put, h4, h5]
        · intro v2 w7 hr hd
          refine ⟨by intro j b e; simp at e, ?_⟩
          have h3 : v2 3 = _ := hd 3 (by kernel_rfl)
          have h6 : v2 6 = _ := hd 6 (by kernel_rfl)
          refine yields_run (u := .bool false) (w' := w7) ?_ (Below.refl _ _) rfl
          unfold execOp
          simp [go_sem, Act.eval, Act.put, h3, h6]
        · intro v2 w7 hr hd
          refine ⟨by intro j b e; simp at e, ?_⟩
          have h7 : v2 7 = _ := hd 7 (by kernel_rfl)
          refine yields_run (u := .bool false) (w' := w7) ?_ (Below.refl _ _) rfl
          unfold execOp
          simp [go_sem, Act.eval, Act.put, h7]
        · intro v2 w7 hr hd
          refine ⟨(by
            intro j b e
            simp only [Option.some.injEq, Prod.mk.injEq] at e
            obtain ⟨rfl, rfl⟩ := e
            exact hd 8 (by kernel_rfl)), ?_⟩
          refine yields_run (u := .pointer (some ⟨g3, 0, none⟩)) (w' := w7) ?_ (Below.refl _ _) rfl
          unfold execOp
          simp [go_sem, Act.eval, Act.put]
        · intro v2 w7 hr hd
          refine ⟨(by
            intro j b e
            simp only [Option.some.injEq, Prod.mk.injEq] at e
            obtain ⟨rfl, rfl⟩ := e
            exact hd 8 (by kernel_rfl)), ?_⟩
          refine yields_run (u := .pointer (some ⟨gz, 1, none⟩)) (w' := w7) ?_ (Below.refl _ _) rfl
          unfold execOp
          simp [go_sem, Act.eval, Act.put]
        · intro v2 w7 hr hd
          refine ⟨(by
            intro j b e
            simp only [Option.some.injEq, Prod.mk.injEq] at e
            obtain ⟨rfl, rfl⟩ := e
            exact hd 8 (by kernel_rfl)), ?_⟩
          have h10 : v2 10 = _ := hd 10 (by kernel_rfl)
          have hc : w7.cell? ⟨gz, 1, none⟩ = some (sV o.n) := (OZ5.out.below hr OZ5.out.inside).read 1
          refine yields_run (u := sV o.n) (w' := w7) ?_ (Below.refl _ _) rfl
          unfold execOp
          simp [go_sem, Act.eval, Act.put, h10, hc]
        · intro v2 w7 hr hd
          refine ⟨(by
            intro j b e
            simp only [Option.some.injEq, Prod.mk.injEq] at e
            obtain ⟨rfl, rfl⟩ := e
            exact hd 8 (by kernel_rfl)), ?_⟩
          have h9 : v2 9 = _ := hd 9 (by kernel_rfl)
          have h11 : v2 11 = _ := hd 11 (by kernel_rfl)
          refine yields_call (f := 23) rfl (vs := #[.pointer (some ⟨g3, 0, none⟩), sV o.n]) (by simp [Act.eval, Act.put, h9, h11]) rfl Try.func23 (by kernel_rfl) (by kernel_rfl) ?_
          exact (LP.out w7 hr).mono fun e w' ⟨he, hb'⟩ => ⟨_, he, hb', rfl⟩
        · intro v2 w7 hr hd
          refine ⟨(by
            intro j b e
            simp only [Option.some.injEq, Prod.mk.injEq] at e
            obtain ⟨rfl, rfl⟩ := e
            exact hd 8 (by kernel_rfl)), ?_⟩
          refine yields_run (u := .pointer (some ⟨g4, 0, none⟩)) (w' := w7) ?_ (Below.refl _ _) rfl
          unfold execOp
          simp [go_sem, Act.eval, Act.put]
        · intro v2 w7 hr hd
          refine ⟨(by
            intro j b e
            simp only [Option.some.injEq, Prod.mk.injEq] at e
            obtain ⟨rfl, rfl⟩ := e
            exact hd 8 (by kernel_rfl)), ?_⟩
          refine yields_run (u := .pointer (some ⟨gz, 1, none⟩)) (w' := w7) ?_ (Below.refl _ _) rfl
          unfold execOp
          simp [go_sem, Act.eval, Act.put]
        · intro v2 w7 hr hd
          refine ⟨(by
            intro j b e
            simp only [Option.some.injEq, Prod.mk.injEq] at e
            obtain ⟨rfl, rfl⟩ := e
            exact hd 8 (by kernel_rfl)), ?_⟩
          have h14 : v2 14 = _ := hd 14 (by kernel_rfl)
          have hc : w7.cell? ⟨gz, 1, none⟩ = some (sV o.n) := (OZ5.out.below hr OZ5.out.inside).read 1
          refine yields_run (u := sV o.n) (w' := w7) ?_ (Below.refl _ _) rfl
          unfold execOp
          simp [go_sem, Act.eval, Act.put, h14, hc]
        · intro v2 w7 hr hd
          refine ⟨(by
            intro j b e
            simp only [Option.some.injEq, Prod.mk.injEq] at e
            obtain ⟨rfl, rfl⟩ := e
            exact hd 8 (by kernel_rfl)), ?_⟩
          have h13 : v2 13 = _ := hd 13 (by kernel_rfl)
          have h15 : v2 15 = _ := hd 15 (by kernel_rfl)
          refine yields_call (f := 24) rfl (vs := #[.pointer (some ⟨g4, 0, none⟩), sV o.n]) (by simp [Act.eval, Act.put, h13, h15]) rfl Try.func24 (by kernel_rfl) (by kernel_rfl) ?_
          exact (LR.out w7 hr).mono fun e w' ⟨he, hb'⟩ => ⟨_, he, hb', rfl⟩
        · intro v2 w7 hr hd
          refine ⟨(by
            intro j b e
            simp only [Option.some.injEq, Prod.mk.injEq] at e
            obtain ⟨rfl, rfl⟩ := e
            exact hd 8 (by kernel_rfl)), ?_⟩
          have h12 : v2 12 = _ := hd 12 (by kernel_rfl)
          have h16 : v2 16 = _ := hd 16 (by kernel_rfl)
          refine yields_run (u := .bool false) (w' := w7) ?_ (Below.refl _ _) rfl
          unfold execOp
          simp [go_sem, Act.eval, Act.put, h12, h16]
        · intro v2 w7 hr hd
          refine ⟨by intro j b e; simp at e, ?_⟩
          have h8 : v2 8 = _ := hd 8 (by kernel_rfl)
          have h17 : v2 17 = _ := hd 17 (by kernel_rfl)
          refine yields_run (u := .bool false) (w' := w7) ?_ (Below.refl _ _) rfl
          unfold execOp
          simp [go_sem, Act.eval, Act.put, h8, h17]
        · intro v2 w7 hr hd
          refine ⟨by intro j b e; simp at e, ?_⟩
          have h18 : v2 18 = _ := hd 18 (by kernel_rfl)
          refine yields_run (u := .bool false) (w' := w7) ?_ (Below.refl _ _) rfl
          unfold execOp
          simp [go_sem, Act.eval, Act.put, h18]
        · intro v2 w7 hr hd
          refine ⟨(by
            intro j b e
            simp only [Option.some.injEq, Prod.mk.injEq] at e
            obtain ⟨rfl, rfl⟩ := e
            exact hd 19 (by kernel_rfl)), ?_⟩
          refine yields_run (u := .pointer (some ⟨g3, 0, none⟩)) (w' := w7) ?_ (Below.refl _ _) rfl
          unfold execOp
          simp [go_sem, Act.eval, Act.put]
        · intro v2 w7 hr hd
          refine ⟨(by
            intro j b e
            simp only [Option.some.injEq, Prod.mk.injEq] at e
            obtain ⟨rfl, rfl⟩ := e
            exact hd 19 (by kernel_rfl)), ?_⟩
          refine yields_run (u := .pointer (some ⟨g4, 0, none⟩)) (w' := w7) ?_ (Below.refl _ _) rfl
          unfold execOp
          simp [go_sem, Act.eval, Act.put]
        · intro v2 w7 hr hd
          refine ⟨(by
            intro j b e
            simp only [Option.some.injEq, Prod.mk.injEq] at e
            obtain ⟨rfl, rfl⟩ := e
            exact hd 19 (by kernel_rfl)), ?_⟩
          have h20 : v2 20 = _ := hd 20 (by kernel_rfl)
          have h21 : v2 21 = _ := hd 21 (by kernel_rfl)
          refine yields_call (f := 25) rfl (vs := #[.pointer (some ⟨g3, 0, none⟩), .pointer (some ⟨g4, 0, none⟩)]) (by simp [Act.eval, Act.put, h20, h21]) rfl Try.func25 (by kernel_rfl) (by kernel_rfl) ?_
          exact (SD.out w7 hr).mono fun e w' ⟨he, hb'⟩ => ⟨_, he, hb', rfl⟩
        · intro v2 w7 hr hd
          refine ⟨(by
            intro j b e
            simp only [Option.some.injEq, Prod.mk.injEq] at e
            obtain ⟨rfl, rfl⟩ := e
            exact hd 19 (by kernel_rfl)), ?_⟩
          have h22 : v2 22 = _ := hd 22 (by kernel_rfl)
          refine yields_run (u := .bool false) (w' := w7) ?_ (Below.refl _ _) rfl
          unfold execOp
          simp [go_sem, Act.eval, Act.put, h22]
        · intro v2 w7 hr hd
          refine ⟨by intro j b e; simp at e, ?_⟩
          have h19 : v2 19 = _ := hd 19 (by kernel_rfl)
          have h23 : v2 23 = _ := hd 23 (by kernel_rfl)
          refine yields_run (u := .bool false) (w' := w7) ?_ (Below.refl _ _) rfl
          unfold execOp
          simp [go_sem, Act.eval, Act.put, h19, h23]
        · intro v w7 hr hv
          have hl : v 24 = .bool false := hv 24 (by decide) (by kernel_rfl)
          have R7 := Lib.hid hr
          rw [hfin]
          clear hfin hv hr
          generalize v 24 = vl at hl ⊢
          subst hl
          go_wp2_with fail
          go_roundw
          case rel => exact ⟨k + 1, g3, g4, by omega, by omega, by go_num, rfl, rfl, Lib.hid (by rw [HNX.out]; exact HP5.out.below R7.out), Lib.hid (by rw [HNX.out]; exact HR5.out.below R7.out), Lib.hid (HB5.out.trans (R7.out.mono HB5.out.size))⟩
          case measure => simp [intOf]; omega
    · by_cases hlt : k < L.length
      · have h60 : ¬ (k : Int) < 60 := by omega
        clear hgo
        go_wp2_with fail
        go_ret
        exact ⟨rfl, HB.out⟩
      · clear hgo
        go_wp2_with fail
        go_ret
        exact ⟨rfl, HB.out⟩
end Go.Proofs.Ytkfjgmfokpgcbaa.disk
