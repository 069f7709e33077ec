/-
  watershedlaw07.From: the document's pairs of the program's.
  '!=' of two of the document's pairs; watershedref07.Same.
-/
import Derived.Test.YtomekndinopoaaaJMuV
import Derived.Test.YtomekndinopoaaaJMuP
import Derived.Test.YtomekndinopoaaaJRt3
import Derived.Test.YtomekndinopoaaaJEqP
namespace Go.Proofs.Ytomekndinopoaaa.multi
open Go.ChangeShapes Go.WideShapes Go.ChangeAt Go.RowKit Go.Maps Go.WideMaps
open Go.Proofs.Ytomekndinopoaaa.region
open Go.Proofs.Ytomekndinopoaaa.tm Go.Proofs.Ytomekndinopoaaa.opened Go.Proofs.Ytomekndinopoaaa.block Go.Proofs.Ytomekndinopoaaa.stamp Go.Proofs.Ytomekndinopoaaa.chain

/-- A row of one pair, apart from another row. -/
def LoneQ (T : TypeId) (row : Option Nat) (p : TN) (u : Value) (w : World) : Prop := ∃ g, u = .slice (some ⟨g, 0, none⟩) 1 1 ∧ Whole w g T (cP p).toArray ∧ some g ≠ row
theorem keeps_loneQ (T : TypeId) (row : Option Nat) (p : TN) : Keeps (LoneQ T row p) := fun _ _ _ hb ⟨g, h1, h2, h3⟩ => ⟨g, h1, h2.below hb h2.inside, h3⟩
/-- A row of pairs that is one's own. -/
def NewQ (T : TypeId) (base : Nat) (N : List TN) (u : Value) (w : World) : Prop := ∃ g cap, u = .slice (some ⟨g, 0, none⟩) N.length cap ∧ OwnP T w base u N
theorem keeps_newQ (T : TypeId) (base : Nat) (N : List TN) : Keeps (NewQ T base N) := fun _ _ _ hb ⟨g, cap, h1, h2⟩ => ⟨g, cap, h1, OwnP.below h2 hb⟩
set_option maxRecDepth 100000 in
set_option maxHeartbeats 4000000 in
theorem from_any (A : Option Addr) (c : Nat) (M : List TN) (hm : M.length ≤ 4096) (w : World) (h : Lp w A M) :
    Calls Try.prog 31 #[.slice A M.length c] w fun e w' => ∃ (B : Option Addr) (c' : Nat), e = .returned (.slice B M.length c') ∧ Lp w' B M ∧ Below w.heap.size w w' := by
  obtain ⟨i0, hi, hz0, hz1, hz2⟩ := infoP _ infoP1
  have H := Lib.hid h
  clear h
  go_enter Try.func31, Try.ntmps31
  go_wp2_with fail
  go_loopw [3, 4] (fun v s wr => ∃ (k : Nat) (N : List TN) (D : Option Addr) (c' : Nat), k ≤ M.length ∧ v = .slice D N.length c' ∧ s = .int .i64 k ∧ Hid (N = M.take k) ∧ Hid (OwnP 79 wr w.heap.size (.slice D N.length c') N) ∧ Below w.heap.size w wr) (fun _ s _ => M.length - (intOf s).toNat)
  case atStart => exact ⟨0, [], none, 0, Nat.zero_le _, rfl, rfl, Lib.hid rfl, Lib.hid (World.ownsRow_nil _ _ _ _), Below.refl _ _⟩
  case round =>
    obtain ⟨k, N, D, c', hk, rfl, rfl, HN, HO, BB⟩ := hrel
    have hkt : N.length = k := by rw [HN.out, List.length_take]; omega
    by_cases hlt : k < M.length
    · obtain ⟨p, hp⟩ : ∃ p, M[k]? = some p := ⟨M[k], by simp [hlt]⟩
      have HP : Hid (N ++ [p] = M.take (k + 1)) := Lib.hid (by rw [HN.out, List.take_add_one, hp]; rfl)
      obtain ⟨t, n⟩ := p
      obtain ⟨pb, po, hA, -⟩ := (H.out.below BB).at hp
      subst hA
      have HL := Lib.hid (H.out.below BB)
      have H8 := fun w8 (hb : Below w.heap.size w w8) => H.out.below hb
      have hlt2 : (k : Int) < (M.length : Int) := by omega
      clear HN
      go_upto_region 5 with fail
      generalize hrow : (Value.slice D N.length c').ownBlock = row
      have hrow := Lib.hid hrow
      have hbase := Lib.hid BB.size
      refine region_own 26 13 (fun w2 => Below w.heap.size wr w2 ∧ wr.heap.size ≤ w2.heap.size ∧ Lp w2 (some ⟨pb, po, none⟩) M) ?hR ?r0 [Is (.slice D N.length c'), Is (.slice (some ⟨pb, po, none⟩) M.length c), Is (.int .i64 (k : Int)), Is (.pointer (some ⟨pb, po + k * 6, none⟩)), Is (.pointer (some ⟨pb, po + k * 6, none⟩)), Is (.agg #[.int .u32 t.e, .int .i64 t.d, .int .u32 t.a, .int .u32 t.b, .int .u32 t.c]), Is (.slice (some ⟨pb, po, none⟩) M.length c), Is (.int .i64 (k : Int)), Is (.pointer (some ⟨pb, po + k * 6, none⟩)), Is (.pointer (some ⟨pb, po + k * 6 + 5, none⟩)), Is (.int .i64 n), Is (.agg (cP (t, n)).toArray), LoneQ 79 row (t, n), NewQ 79 w.heap.size (N ++ [(t, n)]), NewQ 79 w.heap.size (N ++ [(t, n)])] (fun w2 => OwnP 79 w2 w.heap.size (.slice D N.length c') N) (by kernel_rfl) rfl (by kernel_rfl) (by kernel_rfl) ?keep ?hO HO.out ?tell
      case hR => exact fun w2 w4 hb ⟨h1, h2, h3⟩ => ⟨h1.trans (hb.mono (Nat.le_trans hbase.out h2)), Nat.le_trans h2 hb.size, h3.below hb⟩
      case r0 => exact ⟨Below.refl _ _, Nat.le_refl _, HL.out⟩
      case keep => exact ⟨keeps_is _, keeps_is _, keeps_is _, keeps_is _, keeps_is _, keeps_is _, keeps_is _, keeps_is _, keeps_is _, keeps_is _, keeps_is _, keeps_is _, keeps_loneQ _ _ _, keeps_newQ _ _ _, keeps_newQ _ _ _, trivial⟩
      case hO => exact fun w2 w4 hb h => OwnP.below h hb
      case tell =>
        intro fin hfin
        simp [lexPut, Act.put] at hfin
        simp only [TellOwn]
        refine ⟨⟨?_, ?_, ?_, ?_, ?_, ?_, ?_, ?_, ?_, ?_, ?_, ?_, ?_, ?_, ?_, trivial⟩, ?_⟩
        · intro v w2 hr hd
          exact yields_move rfl (by rfl)
        · intro v w2 hr hd
          exact yields_move rfl (by rfl)
        · intro v w2 hr hd
          exact yields_move rfl (by rfl)
        · intro v w2 hr hd
          have h1 : v 1 = _ := hd 1 (by kernel_rfl)
          have h2 : v 2 = _ := hd 2 (by kernel_rfl)
          refine yields_run (u := .pointer (some ⟨pb, po + k * 6, none⟩)) (w' := w2) ?_ (Below.refl _ _) rfl
          unfold execOp
          simp [go_sem, Act.eval, Act.put, h1, h2, hlt2]
        · intro v w2 hr hd
          have h3 : v 3 = _ := hd 3 (by kernel_rfl)
          refine yields_run (u := .pointer (some ⟨pb, po + k * 6, none⟩)) (w' := w2) ?_ (Below.refl _ _) rfl
          unfold execOp
          simp [go_sem, Act.eval, Act.put, h3]
        · intro v w2 hr hd
          have h4 : v 4 = _ := hd 4 (by kernel_rfl)
          obtain ⟨a0, a1, a2, a3, a4, a5⟩ := lp_cells hr.2.2 hp
          refine yields_run (u := .agg #[.int .u32 t.e, .int .i64 t.d, .int .u32 t.a, .int .u32 t.b, .int .u32 t.c]) (w' := w2) ?_ (Below.refl _ _) rfl
          unfold execOp
          simp [go_sem, Act.eval, Act.put, h4, a0, a1, a2, a3, a4]
        · intro v w2 hr hd
          exact yields_move rfl (by rfl)
        · intro v w2 hr hd
          exact yields_move rfl (by rfl)
        · intro v w2 hr hd
          have h6 : v 6 = _ := hd 6 (by kernel_rfl)
          have h7 : v 7 = _ := hd 7 (by kernel_rfl)
          refine yields_run (u := .pointer (some ⟨pb, po + k * 6, none⟩)) (w' := w2) ?_ (Below.refl _ _) rfl
          unfold execOp
          simp [go_sem, Act.eval, Act.put, h6, h7, hlt2]
        · intro v w2 hr hd
          have h8 : v 8 = _ := hd 8 (by kernel_rfl)
          refine yields_run (u := .pointer (some ⟨pb, po + k * 6 + 5, none⟩)) (w' := w2) ?_ (Below.refl _ _) rfl
          unfold execOp
          simp [go_sem, Act.eval, Act.put, h8]
        · intro v w2 hr hd
          have h9 : v 9 = _ := hd 9 (by kernel_rfl)
          obtain ⟨a0, a1, a2, a3, a4, a5⟩ := lp_cells hr.2.2 hp
          refine yields_run (u := .int .i64 n) (w' := w2) ?_ (Below.refl _ _) rfl
          unfold execOp
          simp [go_sem, Act.eval, Act.put, h9, a5]
        · intro v w2 hr hd
          have h5 : v 5 = _ := hd 5 (by kernel_rfl)
          have h10 : v 10 = _ := hd 10 (by kernel_rfl)
          refine yields_run (u := .agg (cP (t, n)).toArray) (w' := w2) ?_ (Below.refl _ _) rfl
          unfold execOp
          simp [go_sem, Act.eval, Act.put, h5, h10]
          rfl
        · intro v w2 hr hd
          have h8 : v 11 = _ := hd 11 (by kernel_rfl)
          refine yields_run (u := .slice (some ⟨w2.heap.size, 0, none⟩) 1 1) (w' := w2.alloc (.cells (cP (t, n)).toArray 79)) ?_ (fresh1 w2 _) ⟨w2.heap.size, rfl, Whole.fresh w2 _ _, ?_⟩
          · unfold execOp
            simp [go_sem, Act.eval, Act.put, h8, cP]
          · rw [← hrow.out]
            exact HO.out.away hr.2.1
        · intro v w2 hr ho hd
          have h0 : v 0 = _ := hd 0 (by kernel_rfl)
          obtain ⟨gy, hz, hw, hny⟩ : LoneQ 79 row (t, n) (v 12) w2 := hd 12 (by kernel_rfl)
          refine yields_append (.tmp 11) (.tmp 23) 61 rfl w.heap.size 79 i0 (.agg (cP P0).toArray) 6 40 Try.underlying61 hi hz0 hz1 hz2 rfl (by decide) (.slice D N.length c') N.length (N.flatMap cP) (by simp [Act.eval, Act.put, h0]) ho ⟨gy, 0, none⟩ 1 1 (cP (t, n)) (by simp [Act.eval, Act.put, hz]) rfl (whole_cells hw) (one_cP (t, n)) (by decide) (by unfold maxLen; omega) (by omega) (Nat.le_trans hbase.out hr.2.1) ?_
          intro g8 cap8 w8 hown hgrow
          rw [hrow.out] at hgrow
          have hab : ∀ k', row = some k' → w.heap.size ≤ k' := fun k' ek => by
            rw [← hrow.out] at ek
            exact OwnP.above ho ek
          have hB8 : Below w.heap.size w2 w8 := (Below.refl w.heap.size w2).grown hgrow (Nat.le_trans hbase.out hr.2.1) hab
          refine ⟨⟨hr.1.trans hB8, Nat.le_trans hr.2.1 hgrow.size, H8 w8 (BB.trans (hr.1.trans hB8))⟩, ?_, g8, cap8, by simp, by unfold OwnP; simpa using hown⟩
          intro k' x hk' hx
          match k', hk' with
          | 0, _ | 1, _ | 2, _ | 3, _ | 4, _ | 5, _ | 6, _ | 7, _ | 8, _ | 9, _ | 10, _ | 11, _ => exact hx
          | 12, _ =>
            obtain ⟨gx, h1, h2, h3⟩ := hx
            exact ⟨gx, h1, h2.grown hgrow h3, h3⟩
        · intro v w2 hr hd
          have h10 : NewQ 79 w.heap.size (N ++ [(t, n)]) (v 13) w2 := hd 13 (by kernel_rfl)
          refine yields_assign rfl ?_
          change NewQ 79 w.heap.size (N ++ [(t, n)]) _ w2
          simpa [Act.eval, Act.put] using h10
        · intro v w2 hr hv
          have h11 : NewQ 79 w.heap.size (N ++ [(t, n)]) (v 14) w2 := hv 14 (by decide)
          rw [hfin]
          clear hfin hv
          generalize v 14 = v11 at h11 ⊢
          obtain ⟨g8, cap8, rfl, ho⟩ := h11
          have HO8 := Lib.hid ho
          have HB := Lib.hid (BB.trans hr.1)
          clear ho hr
          go_wp2_with fail
          go_roundw
          case rel => exact ⟨k + 1, N ++ [(t, n)], some ⟨g8, 0, none⟩, cap8, by omega, rfl, by go_num, HP, HO8, HB.out⟩
          case measure => simp [intOf]; omega
    · obtain rfl : k = M.length := by omega
      have : N = M := by rw [HN.out, List.take_length]
      subst this
      go_wp2_with fail
      go_ret
      exact ⟨D, ⟨c', rfl⟩, HO.out.lies, BB⟩
end Go.Proofs.Ytomekndinopoaaa.multi
namespace Go.Proofs.Ytomekndinopoaaa.multi
open Go.ChangeShapes Go.WideShapes Go.ChangeAt Go.RowKit
open Go.Proofs.Ytomekndinopoaaa.tm Go.Proofs.Ytomekndinopoaaa.opened Go.Proofs.Ytomekndinopoaaa.block Go.Proofs.Ytomekndinopoaaa.stamp Go.Proofs.Ytomekndinopoaaa.chain

set_option maxRecDepth 100000 in
theorem run_eqTd (d : Nat) (s t : Tm) (w : World) : (Op.equalIn (d + 3) 33 (.agg #[.int .u32 s.e, .int .i64 s.d, .int .u32 s.a, .int .u32 s.b, .int .u32 s.c]) (.agg #[.int .u32 t.e, .int .i64 t.d, .int .u32 t.a, .int .u32 t.b, .int .u32 t.c])).run Try.prog w = .ok (eqT s t) w := by
  obtain ⟨f, g, h, hl, f1, f2, f3, g1, g2, g3, h1, h2, h3⟩ := names25
  have q : (Op.equalIn (d + 3) 33 (.agg #[.int .u32 s.e, .int .i64 s.d, .int .u32 s.a, .int .u32 s.b, .int .u32 s.c]) (.agg #[.int .u32 t.e, .int .i64 t.d, .int .u32 t.a, .int .u32 t.b, .int .u32 t.c])).run Try.prog w = .ok (s.e == t.e && (s.d == t.d && (s.a == t.a && (s.b == t.b && s.c == t.c)))) w := by
    rw [run_equalIn_struct w (d + 2) 33 _ _ desc25 stood25, hl]
    simp only [Op.eqFields, f1, g1, h1, f2, g2, h2, f3, g3, h3, ne_eq, not_false_eq_true, if_true, Sem.run_bind]
    rw [run_part_plain w plain22 (v := .int .u32 s.e) (by simp)]
    simp only [Result.andThen_ok]
    rw [run_part_plain w plain22 (v := .int .u32 t.e) (by simp)]
    simp only [Result.andThen_ok]
    rw [run_u32]
    simp only [Result.andThen_ok]
    cases e0 : s.e == t.e
    · simp
    · simp only [Bool.not_true, Bool.false_eq_true, if_false, Sem.run_bind]
      rw [run_part_plain w plain3 (v := .int .i64 s.d) (by simp)]
      simp only [Result.andThen_ok]
      rw [run_part_plain w plain3 (v := .int .i64 t.d) (by simp)]
      simp only [Result.andThen_ok]
      rw [run_equalIn_int w (d + 1) 3 .i64 .i64 _ _ Try.underlying3]
      simp only [Result.andThen_ok]
      cases e1 : s.d == t.d
      · simp
      · simp only [Bool.not_true, Bool.false_eq_true, if_false, Sem.run_bind]
        rw [run_part23]
        simp only [Result.andThen_ok]
        rw [run_part23]
        simp only [Result.andThen_ok]
        have x1 : ∀ u : Tm, (#[.int .u32 u.e, .int .i64 u.d, .int .u32 u.a, .int .u32 u.b, .int .u32 u.c] : Array Value).extract 2 5 = #[.int .u32 u.a, .int .u32 u.b, .int .u32 u.c] := fun u => by simp
        rw [x1, x1, run_eqA d]
        simp only [Result.andThen_ok]
        cases e2 : (s.a == t.a && (s.b == t.b && s.c == t.c))
        · simp
        · simp
  rw [q]
  congr 1
  obtain ⟨se, sd, sa, sb, sc⟩ := s
  obtain ⟨te, td, ta, tb, tc⟩ := t
  rw [Bool.eq_iff_iff]
  simp [eqT]
theorem fieldsQ : (Try.prog.fieldsOf 79).toList.map (fun f => (f.name == "_", f.type, f.offset)) = [(false, 33, 0), (false, 2, 5)] := by kernel_rfl
theorem namesQ : ∃ f g : Field, (Try.prog.fieldsOf 79).toList = [f, g] ∧ f.name ≠ "_" ∧ f.type = 33 ∧ f.offset = 0 ∧ g.name ≠ "_" ∧ g.type = 2 ∧ g.offset = 5 := by
  have k := fieldsQ
  match hq : (Try.prog.fieldsOf 79).toList with
  | [f, g] =>
    rw [hq] at k
    simp at k
    obtain ⟨⟨a1, a2, a3⟩, b1, b2, b3⟩ := k
    exact ⟨f, g, rfl, a1, a2, a3, b1, b2, b3⟩
  | [] => rw [hq] at k; simp at k
  | [_] => rw [hq] at k; simp at k
  | _ :: _ :: _ :: _ => rw [hq] at k; simp at k
theorem descQ : Try.prog.underlying 79 = some (.struct (Try.prog.fieldsOf 79)) := by kernel_rfl
theorem stoodQ : Try.prog.stoodInHeld 79 = false := by kernel_rfl
theorem size5 : (Try.prog.info? 33).map (·.size) = some 5 := by kernel_rfl
theorem run_part5 (l : Array Value) (w : World) : (part 33 l 0).run Try.prog w = .ok (.agg (l.extract 0 5)) w := by
  have h := size5
  cases hq : Try.prog.info? 33 with
  | none => simp [hq] at h
  | some i =>
    have hs : i.size = 5 := by simpa [hq] using h
    simp [part, Sem.run_bind, sizeOf, typeInfo, hq, hs]
theorem plainQ : Try.prog.plainKey 2 = true := by kernel_rfl
/-- Are two pairs one? -/
def eqQ (p q : TN) : Bool := decide (p = q)
set_option maxRecDepth 100000 in
theorem run_eqQ (p q : TN) (w : World) : (binOp .eql 79 (.agg #[.int .u32 p.1.e, .int .i64 p.1.d, .int .u32 p.1.a, .int .u32 p.1.b, .int .u32 p.1.c, .int .i64 p.2]) (.agg #[.int .u32 q.1.e, .int .i64 q.1.d, .int .u32 q.1.a, .int .u32 q.1.b, .int .u32 q.1.c, .int .i64 q.2])).run Try.prog w = .ok (.bool (eqQ p q)) w := by
  obtain ⟨f, g, hl, f1, f2, f3, g1, g2, g3⟩ := namesQ
  have k : (Op.equalIn 10000 79 (.agg #[.int .u32 p.1.e, .int .i64 p.1.d, .int .u32 p.1.a, .int .u32 p.1.b, .int .u32 p.1.c, .int .i64 p.2]) (.agg #[.int .u32 q.1.e, .int .i64 q.1.d, .int .u32 q.1.a, .int .u32 q.1.b, .int .u32 q.1.c, .int .i64 q.2])).run Try.prog w = .ok (eqT p.1 q.1 && p.2 == q.2) w := by
    rw [run_equalIn_struct w 9999 79 _ _ descQ stoodQ, hl]
    simp only [Op.eqFields, f1, g1, f2, g2, f3, g3, ne_eq, not_false_eq_true, if_true, Sem.run_bind]
    rw [run_part5]
    simp only [Result.andThen_ok]
    rw [run_part5]
    simp only [Result.andThen_ok]
    have x1 : ∀ u : TN, (#[.int .u32 u.1.e, .int .i64 u.1.d, .int .u32 u.1.a, .int .u32 u.1.b, .int .u32 u.1.c, .int .i64 u.2] : Array Value).extract 0 5 = #[.int .u32 u.1.e, .int .i64 u.1.d, .int .u32 u.1.a, .int .u32 u.1.b, .int .u32 u.1.c] := fun u => by simp
    rw [x1, x1, run_eqTd 9996]
    simp only [Result.andThen_ok]
    cases e0 : eqT p.1 q.1
    · simp
    · simp only [Bool.not_true, Bool.false_eq_true, if_false, Sem.run_bind]
      rw [run_part_plain w plainQ (v := .int .i64 p.2) (by simp)]
      simp only [Result.andThen_ok]
      rw [run_part_plain w plainQ (v := .int .i64 q.2) (by simp)]
      simp only [Result.andThen_ok]
      rw [run_equalIn_int w 9998 2 .i64 .i64 _ _ Try.underlying2]
      simp only [Result.andThen_ok]
      cases e1 : p.2 == q.2
      · simp
      · simp
  rw [run_eql_struct, k]
  simp only [Result.andThen_ok]
  congr 2
  rw [Bool.eq_iff_iff]
  obtain ⟨s, m⟩ := p
  obtain ⟨t, n⟩ := q
  simp [eqQ, eqT_iff]
theorem run_neQ (p q : TN) (w : World) : (binOp .neq 79 (.agg #[.int .u32 p.1.e, .int .i64 p.1.d, .int .u32 p.1.a, .int .u32 p.1.b, .int .u32 p.1.c, .int .i64 p.2]) (.agg #[.int .u32 q.1.e, .int .i64 q.1.d, .int .u32 q.1.a, .int .u32 q.1.b, .int .u32 q.1.c, .int .i64 q.2])).run Try.prog w = .ok (.bool (!eqQ p q)) w := path.run_ne_agg (run_eqQ p q w)
end Go.Proofs.Ytomekndinopoaaa.multi
