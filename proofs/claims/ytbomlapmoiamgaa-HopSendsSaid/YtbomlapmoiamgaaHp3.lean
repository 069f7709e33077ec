/-
  A sender in the world; the contracts of next, State, NewSender, Tick.
-/
import Derived.Test.YtbomlapmoiamgaaHp1
set_option linter.unusedSimpArgs false
set_option linter.unusedVariables false
namespace Go.Proofs.Ytbomlapmoiamgaa.hop
open Go.ChangeShapes Go.WideShapes Go.ChangeAt Go.RowKit
open Go.Proofs.Ytbomlapmoiamgaa.opened Go.Proofs.Ytbomlapmoiamgaa.block Go.Proofs.Ytbomlapmoiamgaa.words Go.Proofs.Ytbomlapmoiamgaa.region
theorem since_callW {P : Program} {f : FuncId} {args : Array Value} {v : Value} {w0 : World} (h : ∀ w, Below w0.heap.size w0 w → Calls P f args w fun e w' => e = .returned v ∧ Below w.heap.size w w') (x : Since w0) :
    Calls P f args x.1 fun e w' => e = .returned v ∧ ∃ y : Since w0, w' = y.1 :=
  (h x.1 x.2).mono fun _ w' ⟨he, hb⟩ => ⟨he, ⟨w', then_below x.2 hb⟩, rfl⟩
abbrev snC (S : Sn) (v : Value) : Array Value := #[.int .i64 S.e, .int .i64 S.wd, .int .i64 S.wt, .int .i64 S.a, .int .i64 S.s, .int .i64 S.k, v]
theorem cellsI : Cells 2 cI := ⟨fun _ => rfl, fun x v hv => by
  simp only [cI, List.mem_cons, List.mem_singleton, List.not_mem_nil, or_false] at hv
  rcases hv with rfl | rfl <;> rfl⟩
/-- A sender at a place: its block and its row. -/
structure SnE (B : Nat) (w : World) (g : Nat) (S : Sn) (A : Option Addr) (c : Nat) : Prop where
  cell : Whole w g 99 (snC S (.slice A S.L.length c))
  row : OwnG 85 2 cI w B (.slice A S.L.length c) S.L
  low : B ≤ g
/-- The blocks of a sender. -/
def SnS (g : Nat) (A : Option Addr) (k : Nat) : Prop := k = g ∨ ∃ a, A = some a ∧ k = a.block
theorem own_sns {A : Option Addr} {n c g k : Nat} (e : (Value.slice A n c).ownBlock = some k) : SnS g A k := by
  cases A with
  | none => simp [Value.ownBlock] at e
  | some a => exact .inr ⟨a, rfl, by simpa [Value.ownBlock] using e.symm⟩
section
variable {B g : Nat} {S : Sn} {A : Option Addr} {c : Nat} {w w' : World}
theorem SnE.turn (h : SnE B w g S A c) {T : Nat → Prop} (k : TurnS w w' T) (hn : ∀ j, SnS g A j → ¬ T j) : SnE B w' g S A c := by
  refine ⟨whole_turn h.cell k (hn g (.inl rfl)), ⟨h.row.1, ?_⟩, h.low⟩
  rcases h.row.2 with hx | ⟨b, cap, cur, hv, hb, hh, rest⟩
  · exact .inl hx
  · refine .inr ⟨b, cap, cur, hv, hb, (k.block b (Array.getElem?_eq_some_iff.1 hh).1 (hn b ?_)).trans hh, rest⟩
    injection hv with h1 h2 h3
    exact .inr ⟨_, h1, rfl⟩
theorem SnE.below (h : SnE B w g S A c) (hb : Below w.heap.size w w') : SnE B w' g S A c := ⟨h.cell.below hb h.cell.inside, h.row.below hb, h.low⟩
theorem SnE.sns (h : SnE B w g S A c) {k : Nat} (hk : SnS g A k) : B ≤ k ∧ k < w.heap.size := by
  rcases hk with rfl | ⟨a, rfl, rfl⟩
  · exact ⟨h.low, h.cell.inside⟩
  · rcases h.row.2 with ⟨hv, -⟩ | ⟨b, cap, cur, hv, hb, hh, rest⟩
    · cases hv
    · injection hv with h1 h2 h3
      injection h1 with h1
      subst h1
      exact ⟨hb, (Array.getElem?_eq_some_iff.1 hh).1⟩
theorem SnE.le (h : SnE B w g S A c) : B ≤ w.heap.size := Nat.le_trans h.low (Nat.le_of_lt h.cell.inside)
theorem SnE.ty (h : SnE B w g S A c) {k : Nat} (hk : SnS g A k) : ∃ cs, w.heap[k]? = some (.cells cs 99 (0, 0)) ∨ w.heap[k]? = some (.cells cs 85 (0, 0)) := by
  rcases hk with rfl | ⟨a, rfl, rfl⟩
  · exact ⟨_, .inl h.cell⟩
  · rcases h.row.2 with ⟨hv, -⟩ | ⟨b, cap, cur, hv, hb, hh, rest⟩
    · cases hv
    · injection hv with h1 h2 h3
      injection h1 with h1
      subst h1
      exact ⟨cur, .inr hh⟩
/-- Only the sender's own block has turned, and it holds the same row. -/
theorem SnE.only (h : SnE B w g S A c) (hg : w.grownBy w' (some g)) {V : Sn} (hv : V.L = S.L) (hc : Whole w' g 99 (snC V (.slice A V.L.length c))) : SnE B w' g V A c ∧ TurnS w w' (SnS g A) := by
  refine ⟨⟨hc, ?_, h.low⟩, turnS_grown hg fun k e => .inl (Option.some.inj e).symm⟩
  rw [hv]
  refine h.row.past hg fun k e he => ?_
  cases e
  obtain ⟨cur, hx⟩ := OwnG.shapeT h.row he.symm
  exact obj_ne hx h.cell (ty_ne (by decide)) rfl
theorem next_any (h : SnE B w g S A c) (G : GoodS S) : Calls Try.prog 50 #[.pointer (some ⟨g, 0, none⟩)] w fun e w' => e = .returned (.int .i64 (nextV S)) ∧ Below w.heap.size w w' := by
  have c3 : w.cell? ⟨g, 3, none⟩ = some (.int .i64 S.a) := h.cell.read 3
  have c6 : w.cell? ⟨g, 6, none⟩ = some (.slice A S.L.length c) := h.cell.read 6
  have ha0 := G.a0
  have ha1 : S.a ≤ 1099511627776 := by have := G.m; omega
  have hl : S.L.length ≤ 64 := G.l
  unfold nextV
  generalize S.L.length = n at c6 hl ⊢
  generalize S.a = a at c3 ha0 ha1 ⊢
  clear h G
  go_enter Try.func50, Try.ntmps50
  go_upto_region 1 with fail
  go_quiet (fail)
  go_wp2_with fail
  go_ret
  exact ⟨rfl, below_more w nq⟩
theorem state_any (h : SnE B w g S A c) (G : GoodS S) : Calls Try.prog 37 #[.pointer (some ⟨g, 0, none⟩)] w fun e w' => e = .returned (.tuple #[.int .i64 S.a, .int .i64 (nextV S), .int .i64 S.L.length]) ∧ Below w.heap.size w w' := by
  have HN := Lib.hid (fun (w1 : World) (b : Below w.heap.size w w1) => next_any (h.below b) G)
  have c3 : ∀ y : Since w, y.1.cell? ⟨g, 3, none⟩ = some (.int .i64 S.a) := fun y => (h.below y.2).cell.read 3
  have c6 : ∀ y : Since w, y.1.cell? ⟨g, 6, none⟩ = some (.slice A S.L.length c) := fun y => (h.below y.2).cell.read 6
  clear h G
  generalize nextV S = nv at HN ⊢
  go_enter Try.func37, Try.ntmps37
  go_upto_region 1 with fail
  refine region_since w (by kernel_rfl) (by kernel_rfl) (Below.refl _ _) ?_
  repeat (go_big_quiet_step ((go_at_call 50; with_reducible exact since_callW HN.out _)))
  refine wpQuiet_nil ?_
  rintro w4 ⟨z, rfl⟩
  have hz := Lib.hid z.2
  clear c3 c6
  go_wp2_with fail
  go_ret3
  exact ⟨rfl, hz.out⟩
theorem newS_good {e a wd wt : Int} (h : NewOk e a wd wt) : Calls Try.prog 25 #[.int .i64 e, .int .i64 a, .int .i64 wd, .int .i64 wt] w fun x w' => ∃ g, x = .returned (.tuple #[.pointer (some ⟨g, 0, none⟩), .int .i64 0]) ∧ Below w.heap.size w w' ∧ SnE w.heap.size w' g (newV e a wd wt) none 0 := by
  have HE := Lib.hid (fun (w1 : World) => within_any (w := w1) e 1 1073741824)
  have HA := Lib.hid (fun (w1 : World) => within_any (w := w1) a 0 1099511627776)
  have HD := Lib.hid (fun (w1 : World) => within_any (w := w1) wd 1 16)
  have HT := Lib.hid (fun (w1 : World) => within_any (w := w1) wt 1 100)
  obtain ⟨h1, h2, h3, h4⟩ := h
  rw [decide_eq_true h1] at HE
  rw [decide_eq_true h2] at HA
  rw [decide_eq_true h3] at HD
  rw [decide_eq_true h4] at HT
  clear h1 h2 h3 h4
  go_enter Try.func25, Try.ntmps25
  go_wp2_with (first
    | (go_at_call 48; (with_reducible refine (HT.out w3).mono ?_); rintro x w4 ⟨rfl, b4⟩; have B4 := Lib.hid (then_below B3.out b4); clear b4)
    | (go_at_call 48; (with_reducible refine (HD.out w2).mono ?_); rintro x w3 ⟨rfl, b3⟩; have B3 := Lib.hid (then_below B2.out b3); clear b3)
    | (go_at_call 48; (with_reducible refine (HA.out w1).mono ?_); rintro x w2 ⟨rfl, b2⟩; have B2 := Lib.hid (then_below B1.out b2); clear b2)
    | (go_at_call 48; (with_reducible refine (HE.out w).mono ?_); rintro x w1 ⟨rfl, b1⟩; have B1 := Lib.hid b1; clear b1))
  go_ret2
  exact ⟨_, rfl, then_below B4.out (fresh1 w4 _), Whole.fresh w4 99 (snC (newV e a wd wt) (.slice none 0 0)), ownG_nil _ _, B4.out.size⟩
theorem newS_bad {e a wd wt : Int} (h : ¬ NewOk e a wd wt) : Calls Try.prog 25 #[.int .i64 e, .int .i64 a, .int .i64 wd, .int .i64 wt] w fun x w' => x = .returned (.tuple #[.pointer none, .int .i64 1]) ∧ Below w.heap.size w w' := by
  have HE := Lib.hid (fun (w1 : World) => within_any (w := w1) e 1 1073741824)
  have HA := Lib.hid (fun (w1 : World) => within_any (w := w1) a 0 1099511627776)
  have HD := Lib.hid (fun (w1 : World) => within_any (w := w1) wd 1 16)
  have HT := Lib.hid (fun (w1 : World) => within_any (w := w1) wt 1 100)
  unfold NewOk at h
  by_cases h1 : 1 ≤ e ∧ e ≤ 1073741824
  · rw [decide_eq_true h1] at HE
    by_cases h2 : 0 ≤ a ∧ a ≤ 1099511627776
    · rw [decide_eq_true h2] at HA
      by_cases h3 : 1 ≤ wd ∧ wd ≤ 16
      · rw [decide_eq_true h3] at HD
        rw [decide_eq_false (fun h4 => h ⟨h1, h2, h3, h4⟩)] at HT
        clear h h1 h2 h3
        go_enter Try.func25, Try.ntmps25
        go_wp2_with (first
          | (go_at_call 48; (with_reducible refine (HT.out w3).mono ?_); rintro x w4 ⟨rfl, b4⟩; have B4 := Lib.hid (then_below B3.out b4); clear b4)
          | (go_at_call 48; (with_reducible refine (HD.out w2).mono ?_); rintro x w3 ⟨rfl, b3⟩; have B3 := Lib.hid (then_below B2.out b3); clear b3)
          | (go_at_call 48; (with_reducible refine (HA.out w1).mono ?_); rintro x w2 ⟨rfl, b2⟩; have B2 := Lib.hid (then_below B1.out b2); clear b2)
          | (go_at_call 48; (with_reducible refine (HE.out w).mono ?_); rintro x w1 ⟨rfl, b1⟩; have B1 := Lib.hid b1; clear b1))
        go_ret2
        exact ⟨rfl, B4.out⟩
      · rw [decide_eq_false h3] at HD
        clear h h1 h2 h3
        go_enter Try.func25, Try.ntmps25
        go_wp2_with (first
          | (go_at_call 48; (with_reducible refine (HD.out w2).mono ?_); rintro x w3 ⟨rfl, b3⟩; have B3 := Lib.hid (then_below B2.out b3); clear b3)
          | (go_at_call 48; (with_reducible refine (HA.out w1).mono ?_); rintro x w2 ⟨rfl, b2⟩; have B2 := Lib.hid (then_below B1.out b2); clear b2)
          | (go_at_call 48; (with_reducible refine (HE.out w).mono ?_); rintro x w1 ⟨rfl, b1⟩; have B1 := Lib.hid b1; clear b1))
        go_ret2
        exact ⟨rfl, B3.out⟩
    · rw [decide_eq_false h2] at HA
      clear h h1 h2
      go_enter Try.func25, Try.ntmps25
      go_wp2_with (first
        | (go_at_call 48; (with_reducible refine (HA.out w1).mono ?_); rintro x w2 ⟨rfl, b2⟩; have B2 := Lib.hid (then_below B1.out b2); clear b2)
        | (go_at_call 48; (with_reducible refine (HE.out w).mono ?_); rintro x w1 ⟨rfl, b1⟩; have B1 := Lib.hid b1; clear b1))
      go_ret2
      exact ⟨rfl, B2.out⟩
  · rw [decide_eq_false h1] at HE
    clear h h1
    go_enter Try.func25, Try.ntmps25
    go_wp2_with (go_at_call 48; (with_reducible refine (HE.out w).mono ?_); rintro x w1 ⟨rfl, b1⟩; have B1 := Lib.hid b1; clear b1)
    go_ret2
    exact ⟨rfl, B1.out⟩
theorem tick_any (h : SnE B w g S A c) (G : GoodS S) : Calls Try.prog 31 #[.pointer (some ⟨g, 0, none⟩)] w fun e w' => e = .returned (.tuple #[]) ∧ SnE B w' g (tickV S) A c ∧ TurnS w w' (SnS g A) := by
  have c4 : w.cell? ⟨g, 4, none⟩ = some (.int .i64 S.s) := h.cell.read 4
  have c3 : w.cell? ⟨g, 3, none⟩ = some (.int .i64 S.a) := h.cell.read 3
  have H := Lib.hid h
  unfold tickV
  by_cases h0 : S.s = S.a
  · rw [if_pos h0]
    have h1 : (S.s == S.a) = true := by simpa using h0
    clear h G h0
    go_enter Try.func31, Try.ntmps31
    go_upto_region 0 with fail
    go_quiet (fail)
    go_wp2_with fail
    refine bodyPost_ret (results_none rfl _ _ _) rfl ?_
    exact ⟨rfl, H.out.below (below_more w nq), TurnS.of (below_more w nq)⟩
  · rw [if_neg h0]
    have h1 : (S.s == S.a) = false := by simpa using h0
    have hk0 := G.k0
    have hk1 : S.k < 100 := by have := G.k1; have := G.t1; omega
    have c5 : ∀ q, (w.drewN q).cell? ⟨g, 5, none⟩ = some (.int .i64 S.k) := fun q => (h.below (below_more w q)).cell.read 5
    have f5 : ∀ q, (w.drewN q).frozen? ⟨g, 5, none⟩ = false := fun q => (h.below (below_more w q)).cell.soft 5
    have hS : ∀ q, SnE B ((w.drewN q).setCell ⟨g, 5, none⟩ (.int .i64 (S.k + 1))) g { S with k := S.k + 1 } A c ∧ TurnS w ((w.drewN q).setCell ⟨g, 5, none⟩ (.int .i64 (S.k + 1))) (SnS g A) := fun q => by
      have hb := h.below (below_more w q)
      have := SnE.only hb (V := { S with k := S.k + 1 }) (only_store (only_of_below (Below.refl _ (w.drewN q)) (some g)) (.int .i64 (S.k + 1))) rfl (hb.cell.store 5 (.int .i64 (S.k + 1)))
      exact ⟨this.1, (TurnS.of (below_more w q)).trans this.2⟩
    have HS := Lib.hid hS
    have hg := h.cell.inside
    clear h G h0 hS
    by_cases h2 : S.wt ≤ S.k + 1
    · rw [if_pos h2]
      go_enter Try.func31, Try.ntmps31
      go_upto_region 0 with fail
      go_quiet (fail)
      have c5 := c5 nq
      have f5 := f5 nq
      obtain ⟨h5, t5⟩ := HS.out nq
      have H5 := Lib.hid h5
      have T5 := Lib.hid t5
      clear h5 t5 HS c3 c4
      go_upto_region 2 with fail
      generalize (w.drewN nq).setCell ⟨g, 5, none⟩ (.int .i64 (S.k + 1)) = w1 at H5 T5 ⊢
      clear c5 f5
      have d5 : w1.cell? ⟨g, 5, none⟩ = some (.int .i64 (S.k + 1)) := H5.out.cell.read 5
      have d2 : w1.cell? ⟨g, 2, none⟩ = some (.int .i64 S.wt) := H5.out.cell.read 2
      go_quiet (fail)
      have H6 := Lib.hid (H5.out.below (below_more w1 nq))
      have T6 := Lib.hid (T5.out.trans (TurnS.of (below_more w1 nq)))
      generalize w1.drewN nq = w2 at H6 T6 ⊢
      have e3 : w2.cell? ⟨g, 3, none⟩ = some (.int .i64 S.a) := H6.out.cell.read 3
      have e4 : w2.cell? ⟨g, 4, none⟩ = some (.int .i64 S.s) := H6.out.cell.read 4
      have g4 : w2.frozen? ⟨g, 4, none⟩ = false := H6.out.cell.soft 4
      have s1 := SnE.only H6.out (V := { S with k := S.k + 1, s := S.a }) (only_store (only_of_below (Below.refl _ w2) (some g)) (.int .i64 S.a)) rfl (H6.out.cell.store 4 (.int .i64 S.a))
      have H7 := Lib.hid s1.1
      have T7 := Lib.hid (T6.out.trans s1.2)
      have e5 : (w2.setCell ⟨g, 4, none⟩ (.int .i64 S.a)).cell? ⟨g, 5, none⟩ = some (.int .i64 (S.k + 1)) := H7.out.cell.read 5
      have g5 : (w2.setCell ⟨g, 4, none⟩ (.int .i64 S.a)).frozen? ⟨g, 5, none⟩ = false := H7.out.cell.soft 5
      clear s1 d5 d2
      go_wp2_with fail
      go_end0
      have s2 := SnE.only H7.out (V := { S with k := 0, s := S.a }) (only_store (only_of_below (Below.refl _ _) (some g)) (.int .i64 0)) rfl (H7.out.cell.store 5 (.int .i64 0))
      exact ⟨rfl, s2.1, T7.out.trans s2.2⟩
    · rw [if_neg h2]
      go_enter Try.func31, Try.ntmps31
      go_upto_region 0 with fail
      go_quiet (fail)
      have c5 := c5 nq
      have f5 := f5 nq
      obtain ⟨h5, t5⟩ := HS.out nq
      have H5 := Lib.hid h5
      have T5 := Lib.hid t5
      clear h5 t5 HS c3 c4
      go_upto_region 2 with fail
      generalize (w.drewN nq).setCell ⟨g, 5, none⟩ (.int .i64 (S.k + 1)) = w1 at H5 T5 ⊢
      clear c5 f5
      have d5 : w1.cell? ⟨g, 5, none⟩ = some (.int .i64 (S.k + 1)) := H5.out.cell.read 5
      have d2 : w1.cell? ⟨g, 2, none⟩ = some (.int .i64 S.wt) := H5.out.cell.read 2
      go_quiet (fail)
      go_wp2_with fail
      go_end0
      exact ⟨rfl, H5.out.below (below_more w1 nq), T5.out.trans (TurnS.of (below_more w1 nq))⟩
end
end Go.Proofs.Ytbomlapmoiamgaa.hop
