/-
  The contract of multi.Read.
  MultiBack: what was added is read of its bytes as it was, whatever follows.
-/
import Derived.Test.YtomekndinopoaaaJMath
import Derived.Test.YtomekndinopoaaaJRt4
import Derived.Test.YtomekndinopoaaaJCp
import Derived.Test.YtomekndinopoaaaJMuN
import Derived.Test.YtomekndinopoaaaJMuZ
import Derived.Test.YtomekndinopoaaaJSmQ
import Derived.Test.YtomekndinopoaaaJRt3
namespace Go.Proofs.Ytomekndinopoaaa.region
open Go.RowKit Go.Proofs.Ytomekndinopoaaa.block
theorem yieldsW_callR {P : Program} {w : World} {o : Oper} {ρ : Operand → Value} {f : FuncId} {xs : Array Operand} {ts : Array TypeId} {T : Value → World → Prop} (ho : o.op = .call { callee := .value (.func f), args := xs, argTypes := ts }) {vs : Array Value} (hx : xs.map ρ = vs) (hf : ρ (.func f) = .func (.func f) #[] #[]) {fn : Func} (hfn : P.funcs[f]? = some fn) (hname : (fn.name == "runtime.NumGoroutine") = false) (hbody : fn.body.isNone = false)
    (h : Calls P f vs w fun e w' => ∃ u, e = .returned u ∧ T u w') : YieldsW P o ρ w T := by
  have h1 : ¬ fn.name = "runtime.NumGoroutine" := by simpa using hname
  have h2 : ¬ fn.body = none := by
    intro e
    rw [e] at hbody
    cases hbody
  refine .inr ⟨f, vs, ?_, h⟩
  unfold execOp
  simp [ho, hx, hf, resolve, go_sem, callFunc, hfn, h1, h2]
end Go.Proofs.Ytomekndinopoaaa.region
namespace Go.Proofs.Ytomekndinopoaaa.multi
open Go.ChangeShapes Go.WideShapes Go.ChangeAt Go.RowKit Go.Maps Go.WideMaps
open Go.Proofs.Ytomekndinopoaaa.region
open Go.Proofs.Ytomekndinopoaaa.tm Go.Proofs.Ytomekndinopoaaa.opened Go.Proofs.Ytomekndinopoaaa.block Go.Proofs.Ytomekndinopoaaa.stamp Go.Proofs.Ytomekndinopoaaa.chain Go.Proofs.Ytomekndinopoaaa.code Go.Proofs.Ytomekndinopoaaa.enc

theorem grown_below {a b : World} {row : Option Nat} (h : Below a.heap.size a b) : a.grownBy b row := ⟨h.os, h.tape, h.output, h.size, fun k hk _ => h.block k hk⟩
theorem grown_own {a b c : World} {g : Nat} {row : Option Nat} (h : a.grownBy b (some g)) (k : b.grownBy c row) (hr : ∀ j, row = some j → a.heap.size ≤ j) : a.grownBy c (some g) :=
  ⟨k.os.trans h.os, k.tape.trans h.tape, k.output.trans h.output, Nat.le_trans h.size k.size, fun j hj hne => (k.block j (Nat.lt_of_lt_of_le hj h.size) (fun e => by have := hr j e.symm; omega)).trans (h.block j hj hne)⟩
theorem OwnP.keptG {T : TypeId} {w w' : World} {base g : Nat} {v : Value} {N : List TN} (h : OwnP T w base v N) (hg : w.grownBy w' (some g)) (hb : g < base) : OwnP T w' base v N := by
  refine ⟨h.1, ?_⟩
  rcases h.2 with hn | ⟨g', cap, cur, hv, hg0, hh, rest⟩
  · exact .inl hn
  · exact .inr ⟨g', cap, cur, hv, hg0, (hg.block g' (Array.getElem?_eq_some_iff.1 hh).1 (fun e => by have := Option.some.inj e; omega)).trans hh, rest⟩
/-- A Multi that remembers nothing stays as another block turns. -/
theorem MulP.aside {w w' : World} {gm b g : Nat} {d : Int} {M : List TN} (h : MulP w gm d b none 0 [] M) (hg : w.grownBy w' (some g)) (h1 : gm ≠ g) (h2 : b ≠ g) : MulP w' gm d b none 0 [] M :=
  ⟨h.cells.grown hg (by simpa using h1), h.own.kept hg (by simpa using h2), .inl rfl, h.ne, h.far⟩
theorem mul_made (w : World) (d : Int) : MulP ((w.alloc (.map #[] 0)).alloc (.cells #[.int .i64 d, .map (some w.heap.size), .slice none 0 0] 74)) (w.heap.size + 1) d w.heap.size none 0 [] [] := by
  have m := own_made w
  have W := Whole.fresh (w.alloc (.map #[] 0)) 74 #[.int .i64 d, .map (some w.heap.size), .slice none 0 0]
  rw [size_alloc] at W
  exact mul_of W (m.below (fresh1 _ _) m.lt) (.inl rfl)
theorem good_take {d : Int} {L : List TN} (G : GoodM d L) (k : Nat) : GoodM d (L.take k) :=
  ⟨fun p hp => G.key p (List.mem_of_mem_take hp), fun p hp => G.num p (List.mem_of_mem_take hp), G.srt.sublist (List.take_sublist _ _)⟩
theorem put_take {d : Int} {L : List TN} (G : GoodM d L) {k : Nat} {p : TN} (h : L[k]? = some p) : putM (L.take k) p.1 p.2 = L.take (k + 1) := by
  have hp := G.num p (List.mem_of_getElem? h)
  have hlt : ∀ x ∈ L.take k, numT x.1 < numT p.1 := by
    intro x hx
    obtain ⟨j, hj⟩ := List.getElem?_of_mem hx
    have hjk : j < k := by
      have := (List.getElem?_eq_some_iff.1 hj).1
      rw [List.length_take] at this
      omega
    rw [List.getElem?_take, if_pos hjk] at hj
    have h1 := (List.getElem?_eq_some_iff.1 hj).1
    have h2 := (List.getElem?_eq_some_iff.1 h).1
    have := List.pairwise_iff_getElem.1 G.srt j k h1 h2 hjk
    rwa [(List.getElem?_eq_some_iff.1 hj).2, (List.getElem?_eq_some_iff.1 h).2] at this
  unfold putM
  rw [if_neg hp.1, List.filter_eq_self.2 (fun x hx => decide_eq_true (hlt x hx)), List.filter_eq_nil_iff.2 (fun x hx => by have := hlt x hx; simp; omega), List.take_add_one, h]
  simp
def SgT (g : Nat) (v : Int) (q : Rq) : Value → World → Prop := fun u w => u = .int .i64 v ∧ QA w g q
theorem keeps_sg (g : Nat) (v : Int) (q : Rq) : Keeps (SgT g v q) := fun _ _ _ hb ⟨h1, h2⟩ => ⟨h1, h2.below hb h2.inside⟩
/-- A row of one pair, newer than a place. -/
def LoneB (z : Nat) (p : TN) : Value → World → Prop := fun u w => ∃ gx, u = .slice (some ⟨gx, 0, none⟩) 1 1 ∧ z ≤ gx ∧ Whole w gx 86 (cP p).toArray
theorem keeps_loneB (z : Nat) (p : TN) : Keeps (LoneB z p) := fun _ _ _ hb ⟨gx, h1, h2, h3⟩ => ⟨gx, h1, h2, h3.below hb h3.inside⟩
def NewB (base : Nat) (N : List TN) : Value → World → Prop := fun u w => ∃ g' c', u = .slice (some ⟨g', 0, none⟩) N.length c' ∧ OwnP 86 w base u N
theorem keeps_newB (base : Nat) (N : List TN) : Keeps (NewB base N) := fun _ _ _ hb ⟨g', c', h1, h2⟩ => ⟨g', c', h1, h2.below hb⟩
set_option maxRecDepth 100000 in
set_option maxHeartbeats 16000000 in
theorem readP_any (g : Nat) (q : Rq) (hl : q.1.length ≤ 9223372036854775807) (w : World) (h : QA w g q) :
    Calls Try.prog 23 #[.pointer (some ⟨g, 0, none⟩)] w fun e w' => QA w' g (muR q) ∧ w.grownBy w' (some g) ∧
      (muB q = true → ∃ gm b, e = .returned (.pointer (some ⟨gm, 0, none⟩)) ∧ MulP w' gm (muD q) b none 0 [] (muL q) ∧ w.heap.size ≤ gm ∧ w.heap.size ≤ b) ∧ (muB q = false → e = .returned (.pointer none)) := by
  obtain ⟨n0, n1, nl⟩ := nx_bd q (m := 3) (by omega)
  obtain ⟨m0, m1, ml⟩ := nx_bd (nx q 3).2 (m := 4096) (by omega)
  have ST := Lib.hid (stepA g q 3 hl (by omega) (by omega) w h)
  have hmN : (nx (nx q 3).2 4096).1 = (muN q : Int) := by unfold muN; omega
  have ST2 := Lib.hid (fun W (hW : QA W g (nx q 3).2) => stepA g (nx q 3).2 4096 (Nat.le_trans nl hl) (by omega) (by omega) W hW)
  rw [hmN] at ST2
  have hN := muN_le q
  have hgw := h.inside
  have hlq := Lib.hid (fun k => Nat.le_trans (rdP_left (nx (nx q 3).2 4096).2 k) (Nat.le_trans ml (Nat.le_trans nl hl)))
  have HIN := Lib.hid (rdP_in (nx (nx q 3).2 4096).2 (muN q))
  have HL : Hid ((rdP (nx (nx q 3).2 4096).2 (muN q)).1 = muL q) := Lib.hid rfl
  have HQ : Hid ((rdP (nx (nx q 3).2 4096).2 (muN q)).2 = muQ q) := Lib.hid rfl
  have HLen := Lib.hid (muL_len q)
  have HG := Lib.hid (fun h => mu_good (q := q) h)
  have HB1 : Hid ((muQ q).2 ≠ 0 → muB q = false ∧ muR q = muQ q) := Lib.hid (fun h => ⟨by unfold muB; rw [decide_eq_false h]; rfl, by unfold muR; rw [if_neg h]⟩)
  have HB2 : Hid ((muQ q).2 = 0 → allB (muD q) (muL q) (muL q).length = true → muB q = true ∧ muR q = muQ q) := Lib.hid (fun h k => ⟨by unfold muB; rw [decide_eq_true h, k]; rfl, by unfold muR; rw [if_pos h, if_pos k]⟩)
  have HB3 : Hid ((muQ q).2 = 0 → allB (muD q) (muL q) (muL q).length = false → muB q = false ∧ muR q = ((muQ q).1, 6)) := Lib.hid (fun h k => ⟨by unfold muB; rw [k, Bool.and_false], by unfold muR; rw [if_pos h, if_neg (by rw [k]; decide)]⟩)
  have HDd : Hid ((nx q 3).1 = muD q) := Lib.hid rfl
  rw [HDd.out] at ST
  rw [HL.out] at HIN
  generalize (nx q 3).2 = q1 at ST ST2 hlq HL HQ ml nl
  generalize (nx q1 4096).2 = q2 at ST2 hlq HL HQ ml
  generalize muN q = n at ST2 hN HL HQ HLen hmN
  generalize muL q = LL at HL HLen HG HB2 HB3 HIN ⊢
  generalize muD q = d at ST HG HB2 HB3 HDd ⊢
  generalize muQ q = qf at HQ HB1 HB2 HB3
  generalize muR q = qr at HB1 HB2 HB3 ⊢
  generalize muB q = mb at HG HB1 HB2 HB3 ⊢
  have hmm := @run_makeMap Try.prog
  obtain ⟨i0, hi, hz0, hz1, hz2⟩ := infoP _ infoP2
  clear h n0 n1 m0 m1 hmN nl ml HDd
  go_enter Try.func23, Try.ntmps23
  go_upto_region 2 with (go_at_call 51; refine ST.out.mono ?_; rintro e w1 ⟨rfl, h1, g1⟩; have Q1 := Lib.hid h1; have G1 := Lib.hid g1; clear h1 g1)
  have P2 := Lib.hid (mul_made w1 d)
  have hb2 := Lib.hid ((fresh1 w1 (.map #[] 0)).trans ((fresh1 (w1.alloc (.map #[] 0)) (.cells #[.int .i64 d, .map (some w1.heap.size), .slice none 0 0] 74)).mono (by rw [size_alloc]; omega)))
  have Q2 := Lib.hid (Whole.below (show Whole w1 g _ _ from Q1.out) hb2.out Q1.out.inside)
  have G2 := Lib.hid (grown_own G1.out (grown_below hb2.out (row := none)) (fun j e => by cases e))
  have hs1 := G1.out.size
  change Code.wp _ _ _ _ ((w1.alloc (.map #[] 0)).alloc (.cells #[.int .i64 d, .map (some w1.heap.size), .slice none 0 0] 74))
  generalize (w1.alloc (.map #[] 0)).alloc (.cells #[.int .i64 d, .map (some w1.heap.size), .slice none 0 0] 74) = w2 at P2 hb2 Q2 G2 ⊢
  obtain ⟨gm, hgm⟩ : ∃ gm, gm = w1.heap.size + 1 := ⟨_, rfl⟩
  obtain ⟨b, hbb⟩ : ∃ b, b = w1.heap.size := ⟨_, rfl⟩
  rw [← hgm] at P2 ⊢
  rw [← hbb] at P2
  have n1 : gm ≠ g := by omega
  have n2 : b ≠ g := by omega
  have n3 : w.heap.size ≤ gm := by omega
  have n4 : w.heap.size ≤ b := by omega
  clear hb2 hgm hbb Q1 G1 hs1 ST
  go_wp2_with (go_at_call 51; refine (ST2.out _ Q2.out).mono ?_; rintro e w3 ⟨rfl, h3, g3⟩; have Q3 := Lib.hid h3; have P3 := Lib.hid (P2.out.aside g3 n1 n2); have G3 := Lib.hid (G2.out.trans g3); clear h3 g3)
  clear P2 Q2 G2 ST2
  have hs3 := G3.out.size
  have hg3 : g < w3.heap.size := Nat.lt_of_lt_of_le hgw hs3
  go_loopw [4, 15] (fun v s wr => ∃ (k : Nat) (N : List TN) (D : Option Addr) (c' : Nat), k ≤ n ∧ Hid (N.length = k) ∧ v = .slice D N.length c' ∧ s = .int .i64 k ∧ Hid (N = (rdP q2 k).1) ∧ Hid (OwnP 86 wr w3.heap.size (.slice D N.length c') N) ∧ Hid (QA wr g (rdP q2 k).2) ∧ Hid (w3.grownBy wr (some g))) (fun _ s _ => n - (intOf s).toNat)
  case atStart => exact ⟨0, [], none, 0, Nat.zero_le _, Lib.hid rfl, rfl, rfl, Lib.hid rfl, Lib.hid (ownP_nil _ _), Q3, Lib.hid ⟨rfl, rfl, rfl, Nat.le_refl _, fun _ _ _ => rfl⟩⟩
  case round =>
    obtain ⟨k, N, D, c', hk, HNk, rfl, rfl, HN, HO, HR, HB⟩ := hrel
    have hNle : N.length ≤ 4096 := by have := HNk.out; omega
    by_cases hlt : k < n
    · have RA := Lib.hid (readA g (rdP q2 k).2 (hlq.out k) wr HR.out)
      have SA := Lib.hid (fun W (hW : QA W g (rdS (rdP q2 k).2).2) => signedA g (rdS (rdP q2 k).2).2.1 (rdS (rdP q2 k).2).2.2 (Nat.le_trans (stt_len _ _) (hlq.out k)) W hW)
      have EN : Hid ((rdP q2 (k + 1)).1 = N ++ [(rdT (rdP q2 k).2, (sg (rdS (rdP q2 k).2).2).1)]) := Lib.hid (by rw [HN.out]; rfl)
      have EQ : Hid ((rdP q2 (k + 1)).2 = (sg (rdS (rdP q2 k).2).2).2) := Lib.hid rfl
      change Hid (∀ W, QA W g (rdS (rdP q2 k).2).2 → Calls Try.prog 53 #[.pointer (some ⟨g, 0, none⟩)] W fun r w' => r = .returned (.int .i64 (sg (rdS (rdP q2 k).2).2).1) ∧ QA w' g (sg (rdS (rdP q2 k).2).2).2 ∧ W.grownBy w' (some g)) at SA
      generalize (sg (rdS (rdP q2 k).2).2).1 = v at SA EN
      generalize (sg (rdS (rdP q2 k).2).2).2 = qn at SA EQ
      generalize rdT (rdP q2 k).2 = t at RA EN
      generalize (rdS (rdP q2 k).2).2 = qm at RA SA
      have hsr := HB.out.size
      go_upto_region 6 with (go_at_call 52; refine RA.out.mono ?_; rintro e w5 ⟨rfl, h5, g5⟩; have Q5 := Lib.hid h5; have O5 := Lib.hid (HO.out.keptG g5 hg3); have B5 := Lib.hid (HB.out.trans g5); clear h5 g5)
      change Code.wp _ _ _ _ (w5.alloc (.cells (#[.int .u32 t.e, .int .i64 t.d, .int .u32 t.a, .int .u32 t.b, .int .u32 t.c]) 33))
      have bb := fresh1 w5 (.cells (#[.int .u32 t.e, .int .i64 t.d, .int .u32 t.a, .int .u32 t.b, .int .u32 t.c]) 33)
      have Q6 := Lib.hid (Q5.out.alloc (.cells (#[.int .u32 t.e, .int .i64 t.d, .int .u32 t.a, .int .u32 t.b, .int .u32 t.c]) 33))
      have O6 := Lib.hid (O5.out.below bb)
      have B6 := Lib.hid (grown_own B5.out (grown_below bb (row := none)) (fun j e => by cases e))
      have OX := Whole.fresh w5 33 (#[.int .u32 t.e, .int .i64 t.d, .int .u32 t.a, .int .u32 t.b, .int .u32 t.c])
      have hgz : g < w5.heap.size := Q5.out.inside
      generalize w5.alloc (.cells (#[.int .u32 t.e, .int .i64 t.d, .int .u32 t.a, .int .u32 t.b, .int .u32 t.c]) 33) = w6 at Q6 O6 B6 OX ⊢
      have hz5 : w3.heap.size ≤ w5.heap.size := B5.out.size
      have HAW := Lib.hid (O5.out.away (Nat.le_refl _))
      generalize w5.heap.size = gz at OX hgz hz5 HAW ⊢
      have HX := Lib.hid OX
      have hs6 := B6.out.size
      clear bb OX RA HO HR HB Q5 O5 B5
      refine region_pairs 55 [(6, 7)] (fun k => k == 3 || k == 6) (fun w7 => w3.grownBy w7 (some g) ∧ w6.heap.size ≤ w7.heap.size ∧ Whole w7 gz 33 #[.int .u32 t.e, .int .i64 t.d, .int .u32 t.a, .int .u32 t.b, .int .u32 t.c]) ?hR ?r0 [Is (.slice D N.length c'), Is (.agg #[.int .u32 t.e, .int .i64 t.d, .int .u32 t.a, .int .u32 t.b, .int .u32 t.c]), Is (.pointer (some ⟨g, 0, none⟩)), SgT g v qn, Is (.agg (cP (t, v)).toArray), LoneB w6.heap.size (t, v), NewB w3.heap.size (N ++ [(t, v)]), NewB w3.heap.size (N ++ [(t, v)])] (fun k w7 => (k = 3 → QA w7 g qm) ∧ (k = 6 → OwnP 86 w7 w3.heap.size (.slice D N.length c') N)) (by kernel_rfl) rfl (by kernel_rfl) (by kernel_rfl) ?keep ?hO ?h0 ?tell
      case hR => exact fun w7 w8 hb ⟨h1, h2, h3⟩ => ⟨grown_own h1 (grown_below hb (row := none)) (fun j e => by cases e), Nat.le_trans h2 hb.size, h3.below hb h3.inside⟩
      case r0 => exact ⟨B6.out, Nat.le_refl _, HX.out⟩
      case keep => exact ⟨keeps_is _, keeps_is _, keeps_is _, keeps_sg _ _ _, keeps_is _, keeps_loneB _ _, keeps_newB _ _, keeps_newB _ _, trivial⟩
      case hO => exact fun k w7 w8 hb ⟨h1, h2⟩ => ⟨fun e => Whole.below (show Whole w7 g _ _ from h1 e) hb (h1 e).inside, fun e => (h2 e).below hb⟩
      case h0 => exact fun k _ => ⟨fun _ => Q6.out, fun _ => O6.out⟩
      case tell =>
        intro fin hfin
        simp [lexPut, Act.put] at hfin
        simp only [TellPairs]
        refine ⟨⟨?_, ?_, ?_, ?_, ?_, ?_, ?_, ?_, trivial⟩, ?_⟩
        · intro v2 w7 hr hd
          exact yields_move rfl (by rfl)
        · intro v2 w7 hr hd
          exact yields_is (W0 := w7) (tells_load rfl (by rfl) hr.2.2 Try.underlying33 rfl (by kernel_rfl)) (Below.refl _ _)
        · intro v2 w7 hr hd
          exact yields_move rfl (by rfl)
        · intro v2 w7 hr ho hd
          have h2 : v2 2 = _ := hd 2 (by kernel_rfl)
          refine yieldsW_callR (f := 53) rfl (vs := #[.pointer (some ⟨g, 0, none⟩)]) (by simp [Act.eval, Act.put, h2]) rfl Try.func53 (by kernel_rfl) (by kernel_rfl) ?_
          refine (SA.out w7 (ho.1 trivial)).mono fun e1 w8 ⟨he, hq, hg⟩ => ⟨_, he, ⟨hr.1.trans hg, Nat.le_trans hr.2.1 hg.size, hr.2.2.grown hg (by simp; omega)⟩, ?_, ?_, rfl, hq⟩
          · intro k2 u hk hc hu
            exact match k2, hk, hc, hu with
              | 0, _, _, hu => hu
              | 1, _, _, hu => hu
              | 2, _, _, hu => hu
              | 3, hk, _, _ => absurd rfl hk
              | 4, _, _, hu => hu
              | 5, _, _, ⟨gx, h1, h2, h3⟩ => ⟨gx, h1, h2, h3.grown hg (by simp; omega)⟩
              | 6, _, _, ⟨g', c', h1, h2⟩ => ⟨g', c', h1, h2.keptG hg hg3⟩
              | 7, _, _, ⟨g', c', h1, h2⟩ => ⟨g', c', h1, h2.keptG hg hg3⟩
              | _ + 8, _, _, _ => trivial
          · intro k2 hk _ ⟨h1, h2⟩
            exact ⟨fun e => absurd e hk, fun e => (h2 e).keptG hg hg3⟩
        · intro v2 w7 hr hd
          have h1 : v2 1 = _ := hd 1 (by kernel_rfl)
          have h3 : v2 3 = _ := (hd 3 (by kernel_rfl)).1
          refine yields_run (u := .agg (cP (t, v)).toArray) (w' := w7) ?_ (Below.refl _ _) rfl
          unfold execOp
          simp [go_sem, Act.eval, Act.put, h1, h3]
          rfl
        · intro v2 w7 hr hd
          have h4 : v2 4 = _ := hd 4 (by kernel_rfl)
          refine yields_run (u := .slice (some ⟨w7.heap.size, 0, none⟩) 1 1) (w' := w7.alloc (.cells (cP (t, v)).toArray 86)) ?_ (fresh1 w7 _) ⟨w7.heap.size, rfl, hr.2.1, Whole.fresh w7 _ _⟩
          unfold execOp
          simp [go_sem, Act.eval, Act.put, h4, cP]
        · intro v2 w7 hr ho hd
          have h0 : v2 0 = _ := hd 0 (by kernel_rfl)
          obtain ⟨gy, hz, hyl, hw⟩ : LoneB w6.heap.size (t, v) (v2 5) w7 := hd 5 (by kernel_rfl)
          have ho6 := ho.2 trivial
          refine yields_append (.tmp 19) (.tmp 24) 63 rfl w3.heap.size 86 i0 (.agg (cP P0).toArray) 6 40 Try.underlying63 hi hz0 hz1 hz2 rfl (by decide) (.slice D N.length c') N.length (N.flatMap cP) (by simp [Act.eval, Act.put, h0]) ho6 ⟨gy, 0, none⟩ 1 1 (cP (t, v)) (by simp [Act.eval, Act.put, hz]) rfl (whole_cells hw) (one_cP (t, v)) (by decide) (by unfold maxLen; omega) (by omega) (by have := hr.1.size; omega) ?_
          intro g8 cap8 w8 hown hgrow
          have hab : ∀ j, (Value.slice D N.length c').ownBlock = some j → w3.heap.size ≤ j := fun j e => OwnP.above ho6 e
          have hgn : some g ≠ (Value.slice D N.length c').ownBlock := fun e => by have := hab g e.symm; omega
          refine ⟨⟨grown_own hr.1 hgrow hab, Nat.le_trans hr.2.1 hgrow.size, hr.2.2.grown hgrow HAW.out⟩, ?_, ?_, g8, cap8, by simp, by unfold OwnP; simpa using hown⟩
          · intro k2 u hk hc hu
            exact match k2, hk, hc, hu with
              | 0, _, _, hu => hu
              | 1, _, _, hu => hu
              | 2, _, _, hu => hu
              | 3, _, _, ⟨h1, h2⟩ => ⟨h1, Whole.grown (show Whole w7 g _ _ from h2) hgrow hgn⟩
              | 4, _, _, hu => hu
              | 5, _, _, ⟨gx, h1, h2, h3⟩ => ⟨gx, h1, h2, h3.grown hgrow (O6.out.away h2)⟩
              | 6, hk, _, _ => absurd rfl hk
              | 7, _, hc, _ => absurd hc (by decide)
              | _ + 8, _, _, _ => trivial
          · intro k2 hk _ ⟨h1, h2⟩
            exact ⟨fun e => Whole.grown (show Whole w7 g _ _ from h1 e) hgrow hgn, fun e => absurd e hk⟩
        · intro v2 w7 hr hd
          have h6 : NewB w3.heap.size (N ++ [(t, v)]) (v2 6) w7 := hd 6 (by kernel_rfl)
          refine yields_assign rfl ?_
          change NewB w3.heap.size (N ++ [(t, v)]) _ w7
          simpa [Act.eval, Act.put] using h6
        · intro v2 w7 hr hv
          have h7 : NewB w3.heap.size (N ++ [(t, v)]) (v2 7) w7 := hv 7 (by decide)
          obtain ⟨h3, q7⟩ : SgT g v qn (v2 3) w7 := hv 3 (by decide)
          rw [hfin]
          clear hfin hv
          generalize v2 7 = v7 at h7 ⊢
          obtain ⟨g8, cap8, rfl, ho⟩ := h7
          have HO8 := Lib.hid ho
          have HB8 := Lib.hid hr.1
          have Q8 := Lib.hid q7
          clear ho hr q7 h3
          go_wp2_with fail
          go_roundw
          case rel => exact ⟨k + 1, N ++ [(t, v)], some ⟨g8, 0, none⟩, cap8, by omega, Lib.hid (by have := HNk.out; simp; omega), rfl, by go_num, by rw [EN.out]; exact Lib.hid rfl, HO8, by rw [EQ.out]; exact Q8, HB8⟩
          case measure => simp [intOf]; omega
    · have hkk : k = n := by omega
      subst hkk
      rw [HQ.out] at HR
      have hNL : N = LL := HN.out.trans HL.out
      subst hNL
      have P4 := Lib.hid (P3.out.aside HB.out n1 n2)
      have G4 := Lib.hid (G3.out.trans HB.out)
      have ER := Lib.hid (errQA g qf wr HR.out)
      have LP := Lib.hid HO.out.lies
      clear HL HQ HN hlq P3 G3 HB HO
      by_cases he : qf.2 = 0
      · rw [he] at ER
        have IA := Lib.hid (isAll_any D c' d N HIN.out (by omega) wr LP.out)
        have k0 : wr.cell? ⟨gm, 0, none⟩ = some (.int .i64 d) := P4.out.cells.read 0
        obtain ⟨z, hzz⟩ : ∃ z, allB d N N.length = z := ⟨_, rfl⟩
        rw [hzz] at IA HB2 HB3
        clear hzz
        cases z with
        | false =>
          obtain ⟨hm1, hr1⟩ := HB3.out he rfl
          subst hm1 hr1
          have FA := Lib.hid (fun W (hW : QA W g qf) => failA g qf.1 qf.2 6 W hW)
          rw [he] at FA
          clear HB1 HB2 HB3 HG
          go_wp2_with (first
            | (go_at_call 25; refine ER.out.mono ?_; rintro e w4 ⟨rfl, rfl⟩)
            | (go_at_call 54; refine IA.out.mono ?_; rintro e w5 ⟨rfl, b5⟩; have Q5 := Lib.hid (Whole.below (show Whole _ g _ _ from HR.out) b5 HR.out.inside); have G5 := Lib.hid (grown_own G4.out (grown_below b5 (row := none)) (fun j e => by cases e)); clear b5)
            | (go_at_call 55; refine (FA.out _ Q5.out).mono ?_; rintro e w6 ⟨rfl, h6, g6⟩; have Q6 := Lib.hid h6; have G6 := Lib.hid (G5.out.trans g6); clear h6 g6))
          go_ret
          exact ⟨Q6.out, G6.out, rfl⟩
        | true =>
          obtain ⟨hm1, hr1⟩ := HB2.out he rfl
          subst hm1 hr1
          have G := Lib.hid (HG.out rfl)
          clear HB1 HB2 HB3 HG
          go_upto_region 13 with (first
            | (go_at_call 25; refine ER.out.mono ?_; rintro e w4 ⟨rfl, rfl⟩)
            | (go_at_call 54; refine IA.out.mono ?_; rintro e w5 ⟨rfl, b5⟩; have Q5 := Lib.hid (Whole.below (show Whole _ g _ _ from HR.out) b5 HR.out.inside); have G5 := Lib.hid (grown_own G4.out (grown_below b5 (row := none)) (fun j e => by cases e)); have P5 := Lib.hid (P4.out.below b5); have L5 := Lib.hid (LP.out.below b5); clear b5))
          clear ER IA HR G4 P4 LP k0
          go_wp2_with fail
          go_loopw [41] (fun s wx => ∃ j : Nat, j ≤ N.length ∧ s = .int .i64 j ∧ Hid (MulP wx gm d b none 0 [] (N.take j)) ∧ Hid (QA wx g qr) ∧ Hid (Lp wx D N) ∧ Hid (w.grownBy wx (some g))) (fun s _ => N.length - (intOf s).toNat)
          case atStart => exact ⟨0, Nat.zero_le _, rfl, P5, Q5, L5, G5⟩
          case round =>
            obtain ⟨j, hj, rfl, PJ, QJ, LJ, GJ⟩ := hrel
            clear P5 Q5 L5 G5
            by_cases hjl : j < N.length
            · obtain ⟨p, hp, hpm⟩ := pair_lt hjl
              obtain ⟨ip, kp, -⟩ := G.out.key p hpm
              obtain ⟨m0, m1, m2⟩ := G.out.num p hpm
              have HPT := Lib.hid (put_take G.out hp)
              obtain ⟨b1, o1, hA, hb1, c0, c1, c2, c3, c4, c5⟩ := LJ.out.at hp
              subst hA
              clear hp hpm
              have bb : Below wr.heap.size wr (wr.alloc (.cells (cP p).toArray 86)).drew := (fresh1 wr (.cells (cP p).toArray 86)).drew
              have hlj : (N.take j).length ≤ 4096 := by rw [List.length_take]; omega
              have PK := PJ.out.below bb
              obtain ⟨w9, hput, ho9, hg9⟩ := put_run PK.own hlj (good_take G.out j) p.1 ip m0 (by omega) (by omega)
              rw [HPT.out] at ho9
              have k1 : (wr.alloc (.cells (cP p).toArray 86)).drew.cell? ⟨gm, 1, none⟩ = some (.map (some b)) := PK.cells.read 1
              have f1 : (wr.alloc (.cells (cP p).toArray 86)).drew.frozen? ⟨gm, 1, none⟩ = false := PK.cells.soft 1
              have P9 := Lib.hid (PK.turned hg9 ho9)
              have Q9 := Lib.hid (Whole.grown (Whole.below (show Whole _ g _ _ from QJ.out) bb QJ.out.inside) hg9 (by simpa using fun e => n2 e.symm))
              have L9 := Lib.hid (lp_turned (LJ.out.below bb) hg9 (far_mapP PK.own (LJ.out.below bb)))
              have G9 := Lib.hid (grown_own (grown_own GJ.out (grown_below bb (row := none)) (fun j e => by cases e)) hg9 (fun j e => by cases e; exact n4))
              clear ho9 hg9 PK bb ip kp m0 m1 m2
              obtain ⟨t, v⟩ := p
              simp only at c0 c1 c2 c3 c4 c5
              have hput2 : (Instr.mapUpdate 72 (.map (some b)) (.agg #[.int .u32 t.e, .int .i64 t.d, .int .u32 t.a, .int .u32 t.b, .int .u32 t.c]) (.int .i64 v)).run Try.prog (wr.alloc (.cells #[.int .u32 t.e, .int .i64 t.d, .int .u32 t.a, .int .u32 t.b, .int .u32 t.c, .int .i64 v] 86)).drew = .ok () w9 := hput
              have k2 : (wr.alloc (.cells #[.int .u32 t.e, .int .i64 t.d, .int .u32 t.a, .int .u32 t.b, .int .u32 t.c, .int .i64 v] 86)).drew.cell? ⟨gm, 1, none⟩ = some (.map (some b)) := k1
              have f2 : (wr.alloc (.cells #[.int .u32 t.e, .int .i64 t.d, .int .u32 t.a, .int .u32 t.b, .int .u32 t.c, .int .i64 v] 86)).drew.frozen? ⟨gm, 1, none⟩ = false := f1
              clear hput k1 f1
              go_upto_region 16 with fail
              go_region
              go_wp2_with fail
              go_roundw
              case rel => exact ⟨j + 1, by omega, by go_num, P9, Q9, L9, G9⟩
              case measure => simp [intOf]; omega
            · obtain rfl : j = N.length := by omega
              rw [List.take_length] at PJ
              go_wp2_with fail
              go_ret
              exact ⟨QJ.out, GJ.out, gm, rfl, b, PJ.out, n3, n4⟩
      · obtain ⟨hm1, hr1⟩ := HB1.out he
        have e1 : (qf.2 != 0) = true := by simpa using he
        subst hm1 hr1
        clear HB1 HB2 HB3 HG
        go_wp2_with (go_at_call 25; refine ER.out.mono ?_; rintro e w4 ⟨rfl, rfl⟩)
        go_ret
        exact ⟨HR.out, G4.out, rfl⟩
end Go.Proofs.Ytomekndinopoaaa.multi
namespace Go.Proofs.Ytomekndinopoaaa.multi
open Go.ChangeShapes Go.WideShapes Go.ChangeAt Go.RowKit Go.Maps Go.WideMaps
open Go.Proofs.Ytomekndinopoaaa.region
open Go.Proofs.Ytomekndinopoaaa.tm Go.Proofs.Ytomekndinopoaaa.opened Go.Proofs.Ytomekndinopoaaa.block Go.Proofs.Ytomekndinopoaaa.stamp Go.Proofs.Ytomekndinopoaaa.chain Go.Proofs.Ytomekndinopoaaa.code Go.Proofs.Ytomekndinopoaaa.enc

theorem belowQ {w w' : World} {g : Nat} {q : Rq} (h : QA w g q) (hb : Below w.heap.size w w') : QA w' g q := Whole.below (show Whole w g _ _ from h) hb (QA.inside h)
theorem bytM_len {d : Int} {M : List TN} (G : GoodM d M) (hm : M.length ≤ 4096) : (bytM d M).length ≤ 500000 := by
  have := flat_len2 _ 50 (parts_small G M.length)
  rw [parts_len d M _ (Nat.le_refl _)] at this
  unfold bytM
  omega
theorem newQ (x : ByteArray) (l : List UInt8) (hx : x = ⟨l.toArray⟩) (w : World) :
    Calls Try.prog 22 #[.string x] w fun e w' => e = .returned (.pointer (some ⟨w.heap.size, 0, none⟩)) ∧ QA w' w.heap.size (l, 0) ∧ Below w.heap.size w w' := by
  subst hx
  refine (new_any _ w).mono fun e w' ⟨he, hw⟩ => ⟨he, ?_, ?_⟩
  · subst hw
    exact Whole.fresh w _ _
  · subst hw
    exact fresh1 w _
theorem leftQ (g : Nat) (q : Rq) (w : World) (h : QA w g q) : Calls Try.prog 26 #[.pointer (some ⟨g, 0, none⟩)] w fun r w' => r = .returned (.int .i64 q.1.length) ∧ w = w' := leftA g q.1 q.2 w h
set_option maxRecDepth 100000 in
set_option maxHeartbeats 16000000 in
theorem walkBk (A : Option Addr) (c : Nat) (L : List Ac) (iL : ∀ a ∈ L, a.In) (mL : L.length ≤ 4611686018427387903) (l : List UInt8) (w : World) (h : La w A L) :
    Calls Try.prog 7 #[.slice A L.length c, .string ⟨l.toArray⟩] w fun e w' => e = .returned (.bool true) ∧ Below w.heap.size w w' := by
  have H := Lib.hid h
  have W0 := Lib.hid (works_any w)
  have MD := Lib.hid (fun W hW => made_any A c L iL mL W hW)
  have hd := depA_le L
  obtain ⟨G0, hm⟩ := sumA_good (d := depA L) (L := L.take 60) (fun y hy => iL y (List.mem_of_mem_take hy))
  generalize sumA (depA L) (L.take 60) = M at MD G0 hm
  generalize depA L = d at MD G0 hd
  clear h
  have hsz : (⟨l.toArray⟩ : ByteArray).size = l.length := by simp [ByteArray.size]
  by_cases hl : 1000 < l.length
  · go_enter Try.func7, Try.ntmps7
    go_wp2_with (go_at_call 28; refine W0.out.mono ?_; rintro e w1 ⟨rfl, b1⟩; have B1 := Lib.hid b1; clear b1)
    go_ret
    exact ⟨rfl, B1.out⟩
  · obtain ⟨u1, u2, u3, u4⟩ := mu_wrt G0 hd.1 hd.2 hm l
    have hbl := bytM_len G0 hm
    have YY := Lib.hid (fun W g b (hW : MulP W g d b none 0 [] M) => bytes_any G0 hd.1 hd.2 hm W hW)
    have AA := Lib.hid (fun W g b (hW : MulP W g d b none 0 [] M) => all_any G0 hm W hW)
    have RP := Lib.hid (fun W g (hW : QA W g (bytM d M ++ l, 0)) => readP_any g (bytM d M ++ l, 0) (by simp; omega) W hW)
    rw [u1, u2, u3, u4] at RP
    generalize bytM d M = X at YY RP hbl
    have NQ := Lib.hid (fun W => newQ (⟨X.toArray⟩ ++ ⟨l.toArray⟩) (X ++ l) (ByteArray.ext (by simp)) W)
    have FF := Lib.hid (fun W B1 e1 (hW : Lp W B1 M) => from_any B1 e1 M hm W hW)
    have SS := Lib.hid (fun W B1 B2 e1 e2 (h1 : Lp W B1 M) (h2 : Lp W B2 M) => sameQ_any B1 B2 e1 e2 M M (by omega) (by omega) W h1 h2)
    rw [decide_eq_true (p := M = M) rfl] at SS
    clear u1 u2 u3 u4 hd iL
    go_enter Try.func7, Try.ntmps7
    go_upto_region 8 with (first
      | (go_at_call 28; refine W0.out.mono ?_; rintro e w1 ⟨rfl, b1⟩; have H1 := Lib.hid (H.out.below b1); have B1 := Lib.hid b1; clear b1)
      | (go_at_call 29; refine (MD.out _ H1.out).mono ?_; rintro e w2 ⟨g, b, rfl, h2, b2⟩; have P2 := Lib.hid h2; have B2 := Lib.hid (B1.out.trans (b2.mono B1.out.size)); clear h2 b2)
      | (go_at_call 20; refine (YY.out _ _ _ P2.out).mono ?_; rintro e w3 ⟨rfl, b3⟩; have P3 := Lib.hid (P2.out.below b3); have B3 := Lib.hid (B2.out.trans (b3.mono B2.out.size)); clear b3)
      | (go_at_call 22; refine (NQ.out _).mono ?_; rintro e w4 ⟨rfl, q4, b4⟩; have Q4 := Lib.hid q4; have P4 := Lib.hid (P3.out.below b4); have B4 := Lib.hid (B3.out.trans (b4.mono B3.out.size)); clear q4 b4)
      | (go_at_call 23; refine (RP.out _ _ Q4.out).mono ?_; rintro e w5 ⟨q5, g5, hh, -⟩; obtain ⟨gm, bm, rfl, p5, i5, j5⟩ := hh trivial; have Q5 := Lib.hid q5; have N5 := Lib.hid p5; have P5 := Lib.hid (P4.out.aside g5 (by have := P3.out.cells.inside; omega) (by have := P3.out.own.lt; omega)); have B5 := Lib.hid (B4.out.trans (add_below g5 B4.out.size B3.out.size)); clear q5 g5 hh p5 i5 j5))
    clear W0 MD YY RP NQ H H1 B1 P2 B2 P3 B3 P4 B4 Q4
    have LQ := Lib.hid (fun W (hW : QA W w3.heap.size (l, 0)) => leftQ w3.heap.size (l, 0) W hW)
    have EQ := Lib.hid (fun W (hW : QA W w3.heap.size (l, 0)) => errQA w3.heap.size (l, 0) W hW)
    generalize w3.heap.size = rg at Q5 LQ EQ ⊢
    go_wp2_with (first
      | (go_at_call 32; first
        | (with_reducible refine (AA.out _ _ _ P5.out).mono ?_; rintro e w6 ⟨C6, e6, rfl, l6, bb6⟩; have L6 := Lib.hid l6; have N6 := Lib.hid (N5.out.below bb6); have Q6 := Lib.hid (belowQ Q5.out bb6); have B6 := Lib.hid (B5.out.trans (bb6.mono B5.out.size)); clear l6 bb6)
        | (with_reducible refine (AA.out _ _ _ N7.out).mono ?_; rintro e w8 ⟨C8, e8, rfl, l8, bb8⟩; have L8 := Lib.hid l8; have L7' := Lib.hid (L7.out.below bb8); have Q8 := Lib.hid (belowQ Q7.out bb8); have B8 := Lib.hid (B7.out.trans (bb8.mono B7.out.size)); clear l8 bb8))
      | (go_at_call 31; first
        | (with_reducible refine (FF.out _ _ _ L6.out).mono ?_; rintro e w7 ⟨C7, e7, rfl, l7, bb7⟩; have L7 := Lib.hid l7; have N7 := Lib.hid (N6.out.below bb7); have Q7 := Lib.hid (belowQ Q6.out bb7); have B7 := Lib.hid (B6.out.trans (bb7.mono B6.out.size)); clear l7 bb7)
        | (with_reducible refine (FF.out _ _ _ L8.out).mono ?_; rintro e w9 ⟨C9, e9, rfl, l9, bb9⟩; have L9 := Lib.hid l9; have L10 := Lib.hid (L7'.out.below bb9); have Q9 := Lib.hid (belowQ Q8.out bb9); have B9 := Lib.hid (B8.out.trans (bb9.mono B8.out.size)); clear l9 bb9))
      | (go_at_call 30; refine (SS.out _ _ _ _ _ L10.out L9.out).mono ?_; rintro e w10 ⟨rfl, bb10⟩; have Q10 := Lib.hid (belowQ Q9.out bb10); have B10 := Lib.hid (B9.out.trans (bb10.mono B9.out.size)); clear bb10)
      | (go_at_call 26; refine (LQ.out _ Q10.out).mono ?_; rintro e w11 ⟨rfl, rfl⟩)
      | (go_at_call 25; refine (EQ.out _ Q10.out).mono ?_; rintro e w12 ⟨rfl, rfl⟩))
    go_ret
    exact ⟨rfl, B10.out⟩
end Go.Proofs.Ytomekndinopoaaa.multi
