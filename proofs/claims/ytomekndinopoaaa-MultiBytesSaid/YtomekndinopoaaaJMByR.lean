/-
  (*watershedref07.Multi).Bytes.
  watershedref07.Read.
  watershedref07.Read, its contract.
-/
import Derived.Test.YtomekndinopoaaaJMRd2
import Derived.Deep.RegionWith
import Derived.Deep.CutRange
import Derived.Test.YtomekndinopoaaaJRt4
import Derived.Test.YtomekndinopoaaaJBlock
import Derived.Test.YtomekndinopoaaaJCmpR
import Derived.BigQuiet
namespace Go.Proofs.Ytomekndinopoaaa.multi
open Go.ChangeShapes Go.WideShapes Go.ChangeAt Go.RowKit Go.Maps Go.WideMaps
open Go.Proofs.Ytomekndinopoaaa.region
open Go.Proofs.Ytomekndinopoaaa.tm Go.Proofs.Ytomekndinopoaaa.opened Go.Proofs.Ytomekndinopoaaa.block Go.Proofs.Ytomekndinopoaaa.stamp Go.Proofs.Ytomekndinopoaaa.chain Go.Proofs.Ytomekndinopoaaa.code Go.Proofs.Ytomekndinopoaaa.enc

theorem parts_flat_len {d : Int} {M : List TN} (G : GoodM d M) (hm : M.length ≤ 4096) {k : Nat} (hk : k ≤ M.length) : ((partsB d M k).flatten).length ≤ 500000 := by
  have := flat_len2 _ 50 (parts_small G k)
  rw [parts_len d M k hk] at this
  omega
theorem size_l (l : List UInt8) : (⟨l.toArray⟩ : ByteArray).size = l.length := by simp [ByteArray.size]
set_option maxRecDepth 100000 in
set_option maxHeartbeats 8000000 in
theorem bytesR_any {r a e : Nat} {d : Int} {A B : Option Addr} {L : List Tm} {M : List TN} (G : GoodM d M) (hd0 : 0 ≤ d) (hd1 : d ≤ 3) (hm : M.length ≤ 4096) (w : World) (h : MulR w r d A a M B e L) :
    Calls Try.prog 21 #[.pointer (some ⟨r, 0, none⟩)] w fun x w' => x = .returned (.string ⟨(bytM d M).toArray⟩) ∧ Below w.heap.size w w' := by
  have H := Lib.hid h
  have HG := Lib.hid G
  have N1 := Lib.hid (fun W => numR_i d hd0 (by omega) W)
  have N2 := Lib.hid (fun W => numR_i (M.length : Int) (by omega) (by omega) W)
  have u1 : IntKind.u64.wrap d = d := by rw [IntKind.wrap_u64]; omega
  have u2 : IntKind.u64.wrap (M.length : Int) = M.length := by rw [IntKind.wrap_u64]; omega
  have HP0 : Hid ((partsB d M 0).flatten = stamp.encI d ++ stamp.encI (M.length : Int)) := Lib.hid (by simp [partsB])
  have l1 := stamp.len_encI d
  have l2 := stamp.len_encI (M.length : Int)
  have LEN := fun k hk => parts_flat_len G hm (k := k) hk
  generalize stamp.encI d = x1 at N1 HP0 l1
  generalize stamp.encI (M.length : Int) = x2 at N2 HP0 l2
  have z1 := size_l x1
  have z2 := size_l x2
  clear h
  go_enter Try.func21, Try.ntmps21
  go_upto_region 1 with fail
  have s0 : ∀ y : Since w, y.1.cell? ⟨r, 0, none⟩ = some (.int .i64 d) := fun y => (H.out.below y.2).cells.read 0
  have s1 : ∀ y : Since w, y.1.cell? ⟨r, 1, none⟩ = some (.slice A M.length a) := fun y => (H.out.below y.2).cells.read 1
  refine region_since w (by kernel_rfl) (by kernel_rfl) (Below.refl _ _) ?_
  repeat (go_big_quiet_step (first | (go_at_call 48; first | with_reducible exact since_call N1.out _ | with_reducible exact since_call N2.out _)))
  refine wpQuiet_nil ?_
  rintro w1 ⟨y, hw⟩
  have B1 : Below w.heap.size w w1 := hw ▸ y.2
  have H1 := Lib.hid (H.out.below B1)
  clear hw y s0 s1 N1 N2 H u1 u2
  obtain ⟨X0, hX0⟩ : ∃ x : ByteArray, x = ⟨x1.toArray⟩ ++ ⟨x2.toArray⟩ := ⟨_, rfl⟩
  have HX0 := Lib.hid (show X0 = ⟨((partsB d M 0).flatten).toArray⟩ by rw [hX0, HP0.out]; exact ByteArray.ext (by simp))
  rw [← hX0]
  clear hX0 HP0
  have q1 : w1.cell? ⟨r, 1, none⟩ = some (.slice A M.length a) := H1.out.cells.read 1
  go_wp2_with fail
  go_loopw [3, 4] (fun s i wr => ∃ (k : Nat) (x : ByteArray), k ≤ M.length ∧ s = .string x ∧ i = .int .i64 k ∧ Hid (x = ⟨((partsB d M k).flatten).toArray⟩) ∧ Below w1.heap.size w1 wr) (fun _ i _ => M.length - (intOf i).toNat)
  case atStart => exact ⟨0, X0, Nat.zero_le _, rfl, rfl, HX0, Below.refl _ _⟩
  case round =>
    obtain ⟨k, x, hk, rfl, rfl, HX, BB⟩ := hrel
    clear q1
    have hsz : x.size ≤ 500000 := by rw [HX.out, size_l]; exact LEN k hk
    have q1 : wr.cell? ⟨r, 1, none⟩ = some (.slice A M.length a) := (H1.out.below BB).cells.read 1
    by_cases hlt : k < M.length
    · obtain ⟨p, hp, hpm⟩ := pair_lt hlt
      obtain ⟨b1, o1, hA, hb1, c0, c1, c2, c3, c4, c5⟩ := (H1.out.below BB).pairs.at hp
      subst hA
      obtain ⟨it, kt, -⟩ := HG.out.key p hpm
      obtain ⟨-, n0, n1⟩ := HG.out.num p hpm
      have WX := Lib.hid (writeR_good p.1 it kt)
      have SX := Lib.hid (signedR_any p.2 (by omega) (by omega))
      have hl1 := len_wrtL kt
      have hl2 := len_enc (zig p.2)
      have HSN : Hid ((partsB d M (k + 1)).flatten = (partsB d M k).flatten ++ wrtL p.1 ++ enc (zig p.2)) := Lib.hid (by rw [parts_next hp]; simp [prB])
      generalize wrtL p.1 = y1 at WX HSN hl1
      generalize enc (zig p.2) = y2 at SX HSN hl2
      have v1 := size_l y1
      have v2 := size_l y2
      clear hpm kt it n0 n1
      have HPK := Lib.hid hp
      clear hp
      go_upto_region 6 with (go_at_call 49; refine (WX.out _).mono ?_; rintro e1 w6 ⟨rfl, b6⟩; have BW := Lib.hid (BB.trans (b6.mono BB.size)); clear b6)
      clear c0 c1 c2 c3 c4 c5 hb1 q1 WX
      obtain ⟨b2, o2, hA2, hb2, d0, d1, d2, d3, d4, d5⟩ := (H1.out.below BW.out).pairs.at HPK.out
      simp only [Option.some.injEq, Addr.mk.injEq, and_true] at hA2
      obtain ⟨rfl, rfl⟩ := hA2
      have q2 : w6.cell? ⟨r, 1, none⟩ = some (.slice (some ⟨b1, o1, none⟩) M.length a) := (H1.out.below BW.out).cells.read 1
      clear d0 d1 d2 d3 d4
      have BE := Lib.hid BB
      clear BB
      go_wp2_with (go_at_call 50; refine (SX.out _).mono ?_; rintro e2 w7 ⟨rfl, b7⟩; have B7 := Lib.hid (BW.out.trans (b7.mono BW.out.size)); clear b7)
      go_roundw
      case rel => exact ⟨k + 1, _, by omega, rfl, by go_num, Lib.hid (by rw [HSN.out, HX.out]; exact ByteArray.ext (by simp)), B7.out⟩
      case measure => simp [intOf]; omega
    · obtain rfl : k = M.length := by omega
      go_wp2_with fail
      go_ret
      exact ⟨by rw [HX.out]; rfl, B1.trans (BB.mono B1.size)⟩
end Go.Proofs.Ytomekndinopoaaa.multi
namespace Go.Proofs.Ytomekndinopoaaa.multi
open Go.ChangeShapes Go.WideShapes Go.ChangeAt Go.RowKit Go.Maps Go.WideMaps
open Go.Proofs.Ytomekndinopoaaa.region
open Go.Proofs.Ytomekndinopoaaa.tm Go.Proofs.Ytomekndinopoaaa.opened Go.Proofs.Ytomekndinopoaaa.block Go.Proofs.Ytomekndinopoaaa.stamp Go.Proofs.Ytomekndinopoaaa.chain Go.Proofs.Ytomekndinopoaaa.code Go.Proofs.Ytomekndinopoaaa.enc

theorem QB.later {w w' : World} {g : Nat} {q : Rq} (h : QB w g q) (hb : Below w.heap.size w w') : QB w' g q := by
  obtain ⟨s, n, a, b, c, h⟩ := h
  exact ⟨s, n, a, b, c, Whole.below h hb (Whole.inside h)⟩
theorem QB.turned {w w' : World} {g : Nat} {q : Rq} {row : Option Nat} (h : QB w g q) (hg : w.grownBy w' row) (hn : some g ≠ row) : QB w' g q := by
  obtain ⟨s, n, a, b, c, h⟩ := h
  exact ⟨s, n, a, b, c, Whole.grown h hg hn⟩
theorem sgB (g : Nat) (q : Rq) (w : World) (h : QB w g q) :
    Calls Try.prog 58 #[.pointer (some ⟨g, 0, none⟩)] w fun r w' => r = .returned (.int .i64 (sg q).1) ∧ QB w' g (sg q).2 ∧ w.grownBy w' (some g) := by
  obtain ⟨s, n, a, b, c, h⟩ := h
  have k := signedB g s n q.2 b a w h
  have hb := (rNum_bd (s.data.toList.drop n) q.2).2.2
  unfold sg
  rw [c]
  refine k.mono fun r w' ⟨e, r1, g1⟩ => ⟨e, ⟨s, _, ?_, b, ?_, r1⟩, g1⟩
  · rw [List.length_drop] at hb
    have h3 : s.data.toList.length = s.size := rfl
    omega
  · simp [List.drop_drop]
theorem failQB (g : Nat) (q : Rq) (x : Int) (w : World) (h : QB w g q) :
    Calls Try.prog 59 #[.pointer (some ⟨g, 0, none⟩), .int .i64 x] w fun r w' => r = .returned (.tuple #[]) ∧ QB w' g (q.1, rFail q.2 x) ∧ w.grownBy w' (some g) := by
  obtain ⟨s, n, a, b, c, h⟩ := h
  exact (failB g s n q.2 x w h).mono fun r w' ⟨hr, hb, hg⟩ => ⟨hr, ⟨s, n, a, b, c, hb⟩, hg⟩
theorem rdS_err (q : Rq) (h : q.2 ≠ 0) : (rdS q).2 = q := by
  have hx : ∀ m, nx q m = (0, q) := by
    intro m
    unfold nx rInt rNum
    rw [if_neg h]
    simp [h]
  unfold rdS
  rw [hx 3]
  simp [stt, st0, hx]
theorem sg_err (q : Rq) (h : q.2 ≠ 0) : (sg q).2 = q := by
  unfold sg rNum
  rw [if_neg h]
  simp
theorem rdP_err (q : Rq) : ∀ k n, (rdP q k).2.2 ≠ 0 → k ≤ n → (rdP q n).2 = (rdP q k).2
  | k, 0, h, hk => by
    obtain rfl : k = 0 := by omega
    rfl
  | k, n + 1, h, hk => by
    by_cases e : k = n + 1
    · rw [e]
    · have ih := rdP_err q k n h (by omega)
      rw [rdP]
      show (sg (rdS (rdP q n).2).2).2 = _
      rw [ih, rdS_err _ h, sg_err _ h]
/-- What the document's Read keeps of ok. -/
def okR (d : Int) (L : List TN) (k : Nat) : Bool := allB d L k
theorem ok_parts {d : Int} {L : List TN} {k : Nat} {t : Tm} {n : Int} (h : L[k]? = some (t, n)) : allB d L (k + 1) = (allB d L k && (decide (t.d = d) && (decide (n ≠ 0) && (decide (-1099511627776 ≤ n) && (decide (n ≤ 1099511627776) && stepP L k (t, n)))))) := by
  rw [allB_next h]
  simp only [okP, Bool.and_assoc]
end Go.Proofs.Ytomekndinopoaaa.multi
namespace Go.Proofs.Ytomekndinopoaaa.region
open Go.RowKit Go.Proofs.Ytomekndinopoaaa.block
theorem yields_store {P : Program} {w : World} {o : Oper} {ρ : Operand → Value} {T : Value → World → Prop} (ty : TypeId) (x y : Operand) (ho : o.op = .store ty x y)
    (g : Nat) (cells : Array Value) (hx : ρ x = .pointer (some ⟨g, 0, none⟩)) (hy : ρ y = .agg cells) (t : TypeId) (old : Array Value) (hg : w.heap[g]? = some (.cells old t (0, 0))) (hi : (P.info? ty).map (·.size) = some cells.size)
    (hold : old.size = cells.size) (h1 : cells.all (·.oneCell') = true) (h : T undef (w.setRow g cells)) : YieldsS P o ρ w T := by
  refine .inr ⟨w.setRow g cells, ?_, h⟩
  unfold execOp
  simp only [ho, hx, hy, Instr.storeAt, Instr.sureAddr, Sem.run_bind, Sem.run_pure, Result.andThen_ok, run_storeVar_row w g t ty old cells hg hi hold h1]
theorem grown_setRow (w : World) (g : Nat) (ds : Array Value) : w.grownBy (w.setRow g ds) (some g) :=
  ⟨rfl, rfl, rfl, by rw [setRow_size]; exact Nat.le_refl _, fun i _ hne => setRow_other w g i ds (fun e => hne (by rw [e]))⟩
end Go.Proofs.Ytomekndinopoaaa.region
namespace Go.Proofs.Ytomekndinopoaaa.multi
open Go.ChangeShapes Go.WideShapes Go.ChangeAt Go.RowKit Go.Maps Go.WideMaps
open Go.Proofs.Ytomekndinopoaaa.region
open Go.Proofs.Ytomekndinopoaaa.tm Go.Proofs.Ytomekndinopoaaa.opened Go.Proofs.Ytomekndinopoaaa.block Go.Proofs.Ytomekndinopoaaa.stamp Go.Proofs.Ytomekndinopoaaa.chain Go.Proofs.Ytomekndinopoaaa.code Go.Proofs.Ytomekndinopoaaa.enc

theorem allB_append (d : Int) (N M : List TN) : ∀ k, k ≤ N.length → allB d (N ++ M) k = allB d N k
  | 0, _ => rfl
  | k + 1, h => by
    obtain ⟨p, hp, -⟩ := pair_lt (show k < N.length by omega)
    have hp' : (N ++ M)[k]? = some p := by rw [List.getElem?_append_left (by omega)]; exact hp
    rw [allB_next hp, allB_next hp', allB_append d N M k (by omega)]
    congr 2
    unfold stepP
    cases k with
    | zero => rfl
    | succ j =>
      dsimp only
      rw [List.getElem?_append_left (by omega)]
theorem OwnP.past {T : TypeId} {w w' : World} {base ga : Nat} {v : Value} {N : List TN} (h : OwnP T w base v N) (hg : w.grownBy w' (some ga)) (hn : some ga ≠ v.ownBlock) : OwnP T w' base v N := by
  refine ⟨h.1, ?_⟩
  rcases h.2 with hx | ⟨g', cap, cur, hv, hg0, hh, rest⟩
  · exact .inl hx
  · refine .inr ⟨g', cap, cur, hv, hg0, (hg.block g' (Array.getElem?_eq_some_iff.1 hh).1 (fun e => hn ?_)).trans hh, rest⟩
    rw [hv]
    exact e.symm
def SgB (g : Nat) (v : Int) (q : Rq) : Value → World → Prop := fun u w => u = .int .i64 v ∧ QB w g q
theorem keeps_sgB (g : Nat) (v : Int) (q : Rq) : Keeps (SgB g v q) := fun _ _ _ hb ⟨h1, h2⟩ => ⟨h1, QB.later h2 hb⟩
/-- A block for a pair, newer than a place. -/
def BoxP (z : Nat) : Value → World → Prop := fun u w => ∃ ga, u = .pointer (some ⟨ga, 0, none⟩) ∧ z ≤ ga ∧ ∃ cs : Array Value, cs.size = 6 ∧ Whole w ga 79 cs
theorem keeps_boxP (z : Nat) : Keeps (BoxP z) := fun _ _ _ hb ⟨ga, h1, h2, cs, h3, h4⟩ => ⟨ga, h1, h2, cs, h3, h4.below hb h4.inside⟩
/-- That block holds the pair. -/
def FullP (z : Nat) (p : TN) : Value → Value → World → Prop := fun u _ w => ∃ ga, u = .pointer (some ⟨ga, 0, none⟩) ∧ z ≤ ga ∧ Whole w ga 79 (cP p).toArray
theorem keeps_fullP (z : Nat) (p : TN) : ∀ x, Keeps (FullP z p x) := fun _ _ _ _ hb ⟨ga, h1, h2, h4⟩ => ⟨ga, h1, h2, h4.below hb h4.inside⟩
def LoneC (z : Nat) (p : TN) : Value → World → Prop := fun u w => ∃ gx, u = .slice (some ⟨gx, 0, none⟩) 1 1 ∧ z ≤ gx ∧ Whole w gx 79 (cP p).toArray
theorem keeps_loneC (z : Nat) (p : TN) : Keeps (LoneC z p) := fun _ _ _ hb ⟨gx, h1, h2, h3⟩ => ⟨gx, h1, h2, h3.below hb h3.inside⟩
def NewC (base : Nat) (N : List TN) : Value → World → Prop := fun u w => ∃ g' c', u = .slice (some ⟨g', 0, none⟩) N.length c' ∧ OwnP 79 w base u N
theorem keeps_newC (base : Nat) (N : List TN) : Keeps (NewC base N) := fun _ _ _ hb ⟨g', c', h1, h2⟩ => ⟨g', c', h1, h2.below hb⟩
def LaidC (gm : Nat) (d : Int) (base : Nat) (N : List TN) : Value → World → Prop := fun _ w => ∃ D c', Whole w gm 76 #[.int .i64 d, .slice D N.length c', .slice none 0 0] ∧ OwnP 79 w base (.slice D N.length c') N
theorem keeps_laidC (gm : Nat) (d : Int) (base : Nat) (N : List TN) : Keeps (LaidC gm d base N) := fun _ _ _ hb ⟨D, c', h1, h2⟩ => ⟨D, c', h1.below hb h1.inside, h2.below hb⟩
set_option maxRecDepth 100000 in
set_option maxHeartbeats 16000000 in
theorem readR_any (g : Nat) (q : Rq) (hl : q.1.length ≤ 9223372036854775807) (w : World) (h : QB w g q) :
    Calls Try.prog 24 #[.pointer (some ⟨g, 0, none⟩)] w fun e w' => QB w' g (muR q) ∧ w.grownBy w' (some g) ∧
      (muB q = true → ∃ gm A a, e = .returned (.pointer (some ⟨gm, 0, none⟩)) ∧ MulR w' gm (muD q) A a (muL q) none 0 [] ∧ w.heap.size ≤ gm) ∧ (muB q = false → e = .returned (.pointer none)) := by
  obtain ⟨n0, n1, nl⟩ := nx_bd q (m := 3) (by omega)
  obtain ⟨m0, m1, ml⟩ := nx_bd (nx q 3).2 (m := 4096) (by omega)
  have ST := Lib.hid (stepB g q 3 hl (by omega) (by omega) w h)
  have hmN : (nx (nx q 3).2 4096).1 = (muN q : Int) := by unfold muN; omega
  have ST2 := Lib.hid (fun W (hW : QB W g (nx q 3).2) => stepB g (nx q 3).2 4096 (Nat.le_trans nl hl) (by omega) (by omega) W hW)
  rw [hmN] at ST2
  have hN := muN_le q
  have hgw := h.inside
  have hlq := Lib.hid (fun k => Nat.le_trans (rdP_left (nx (nx q 3).2 4096).2 k) (Nat.le_trans ml (Nat.le_trans nl hl)))
  have HIN := Lib.hid (rdP_in (nx (nx q 3).2 4096).2)
  have HL : Hid ((rdP (nx (nx q 3).2 4096).2 (muN q)).1 = muL q) := Lib.hid rfl
  have HQ : Hid ((rdP (nx (nx q 3).2 4096).2 (muN q)).2 = muQ q) := Lib.hid rfl
  have HLen := Lib.hid (muL_len q)
  have HB1 : Hid ((muQ q).2 ≠ 0 → muB q = false ∧ muR q = muQ q) := Lib.hid (fun h => ⟨by unfold muB; rw [decide_eq_false h]; rfl, by unfold muR; rw [if_neg h]⟩)
  have HB2 : Hid ((muQ q).2 = 0 → allB (muD q) (muL q) (muL q).length = true → muB q = true ∧ muR q = muQ q) := Lib.hid (fun h k => ⟨by unfold muB; rw [decide_eq_true h, k]; rfl, by unfold muR; rw [if_pos h, if_pos k]⟩)
  have HB3 : Hid ((muQ q).2 = 0 → allB (muD q) (muL q) (muL q).length = false → muB q = false ∧ muR q = ((muQ q).1, 6)) := Lib.hid (fun h k => ⟨by unfold muB; rw [k, Bool.and_false], by unfold muR; rw [if_pos h, if_neg (by rw [k]; decide)]⟩)
  have HDd : Hid ((nx q 3).1 = muD q) := Lib.hid rfl
  rw [HDd.out] at ST
  have HER := Lib.hid (rdP_err (nx (nx q 3).2 4096).2)
  generalize (nx q 3).2 = q1 at ST ST2 hlq HL HQ ml nl HIN HER
  generalize (nx q1 4096).2 = q2 at ST2 hlq HL HQ ml HIN HER
  generalize muN q = n at ST2 hN HL HQ HLen hmN
  generalize muL q = LL at HL HLen HB2 HB3 ⊢
  generalize muD q = d at ST HB2 HB3 HDd ⊢
  generalize muQ q = qf at HQ HB1 HB2 HB3
  generalize muR q = qr at HB1 HB2 HB3 ⊢
  generalize muB q = mb at HB1 HB2 HB3 ⊢
  obtain ⟨i0, hi, hz0, hz1, hz2⟩ := infoP _ infoP1
  clear h n0 n1 m0 m1 hmN nl ml HDd
  go_enter Try.func24, Try.ntmps24
  go_upto_region 2 with (go_at_call 56; refine ST.out.mono ?_; rintro e w1 ⟨rfl, h1, g1⟩; have Q1 := Lib.hid h1; have G1 := Lib.hid g1; clear h1 g1)
  have M2 := Lib.hid (Whole.fresh w1 76 #[.int .i64 d, .slice none 0 0, .slice none 0 0])
  have hb2 := Lib.hid (fresh1 w1 (.cells #[.int .i64 d, .slice none 0 0, .slice none 0 0] 76))
  have Q2 := Lib.hid (QB.later Q1.out hb2.out)
  have G2 := Lib.hid (grown_own G1.out (grown_below hb2.out (row := none)) (fun j e => by cases e))
  have hs1 := G1.out.size
  change Code.wp _ _ _ _ (w1.alloc (.cells #[.int .i64 d, .slice none 0 0, .slice none 0 0] 76))
  generalize w1.alloc (.cells #[.int .i64 d, .slice none 0 0, .slice none 0 0] 76) = w2 at M2 hb2 Q2 G2 ⊢
  generalize w1.heap.size = gm at M2 hs1 ⊢
  have n1 : gm ≠ g := by omega
  clear hb2 Q1 G1 ST
  go_wp2_with (go_at_call 56; refine (ST2.out _ Q2.out).mono ?_; rintro e w3 ⟨rfl, h3, g3⟩; have Q3 := Lib.hid h3; have M3 := Lib.hid (M2.out.grown g3 (by simpa using n1)); have G3 := Lib.hid (G2.out.trans g3); clear h3 g3)
  clear M2 Q2 G2 ST2
  have hs3 := G3.out.size
  have hg3 : g < w3.heap.size := Nat.lt_of_lt_of_le hgw hs3
  have hm3 : gm < w3.heap.size := M3.out.inside
  go_loopw [5, 6] (fun v s wr => ∃ (k : Nat) (N : List TN) (D : Option Addr) (c' : Nat) (z : Bool), k ≤ n ∧ Hid (N.length = k) ∧ v = .bool z ∧ s = .int .i64 k ∧ Hid (allB d N N.length = z) ∧ Hid (N = (rdP q2 k).1) ∧ Hid (Whole wr gm 76 #[.int .i64 d, .slice D N.length c', .slice none 0 0]) ∧ Hid (OwnP 79 wr w3.heap.size (.slice D N.length c') N) ∧ Hid (QB wr g (rdP q2 k).2) ∧ Hid (w.grownBy wr (some g)) ∧ Hid (w3.heap.size ≤ wr.heap.size)) (fun _ s _ => n - (intOf s).toNat)
  case atStart => exact ⟨0, [], none, 0, true, Nat.zero_le _, Lib.hid rfl, rfl, rfl, Lib.hid rfl, Lib.hid rfl, M3, Lib.hid (ownP_nil _ _), Q3, G3, Lib.hid (Nat.le_refl _)⟩
  case round =>
    obtain ⟨k, N, D, c', z, hk, HNk, rfl, rfl, HZ, HN, HM, HO, HR, HG, HS⟩ := hrel
    clear M3 Q3 G3
    have hNk := HNk.out
    subst hNk
    have c2 : wr.cell? ⟨g, 2, none⟩ = some (.int .i64 (rdP q2 N.length).2.2) := HR.out.err
    by_cases he : (rdP q2 N.length).2.2 = 0
    · rw [he] at c2
      by_cases hlt : N.length < n
      · have RA := Lib.hid (readB g (rdP q2 N.length).2 (hlq.out N.length) wr HR.out)
        have SA := Lib.hid (fun W (hW : QB W g (rdS (rdP q2 N.length).2).2) => sgB g (rdS (rdP q2 N.length).2).2 W hW)
        have EN : Hid ((rdP q2 (N.length + 1)).1 = N ++ [(rdT (rdP q2 N.length).2, (sg (rdS (rdP q2 N.length).2).2).1)]) := Lib.hid (by
          show (rdP q2 N.length).1 ++ _ = _
          rw [← HN.out])
        have EQ : Hid ((rdP q2 (N.length + 1)).2 = (sg (rdS (rdP q2 N.length).2).2).2) := Lib.hid rfl
        have ht := rdT_in (rdP q2 N.length).2
        have HNin : Hid (∀ p ∈ N, p.1.In ∧ chk p.1 = 0 ∧ -9223372036854775808 ≤ p.2 ∧ p.2 ≤ 9223372036854775807) := Lib.hid (by
          have h := HIN.out N.length
          rw [← HN.out] at h
          exact h)
        obtain ⟨hv0, hv1, -⟩ := sg_bd (rdS (rdP q2 N.length).2).2
        generalize (sg (rdS (rdP q2 N.length).2).2).1 = v at SA EN hv0 hv1
        generalize (sg (rdS (rdP q2 N.length).2).2).2 = qn at SA EQ
        generalize rdT (rdP q2 N.length).2 = t at RA EN ht
        generalize (rdS (rdP q2 N.length).2).2 = qm at RA SA
        have hsr := HS.out
        have hNle : N.length ≤ 4096 := by omega
        have hlt2 : (N.length : Int) < (n : Int) := by omega
        go_upto_region 8 with (go_at_call 57; refine RA.out.mono ?_; rintro e w5 ⟨rfl, h5, g5⟩; have Q5 := Lib.hid h5; have O5 := Lib.hid (HO.out.keptG g5 hg3); have M5 := Lib.hid (HM.out.grown g5 (by simpa using n1)); have B5 := Lib.hid (HG.out.trans g5); have S5 := Lib.hid (Nat.le_trans HS.out g5.size); clear h5 g5)
        change Code.wp _ _ _ _ (w5.alloc (.cells (#[.int .u32 t.e, .int .i64 t.d, .int .u32 t.a, .int .u32 t.b, .int .u32 t.c]) 33))
        have bb := fresh1 w5 (.cells (#[.int .u32 t.e, .int .i64 t.d, .int .u32 t.a, .int .u32 t.b, .int .u32 t.c]) 33)
        have Q6 := Lib.hid (QB.later Q5.out bb)
        have O6 := Lib.hid (O5.out.below bb)
        have M6 := Lib.hid (M5.out.below bb M5.out.inside)
        have B6 := Lib.hid (grown_own B5.out (grown_below bb (row := none)) (fun j e => by cases e))
        have OX := Whole.fresh w5 33 (#[.int .u32 t.e, .int .i64 t.d, .int .u32 t.a, .int .u32 t.b, .int .u32 t.c])
        have hgz : g < w5.heap.size := Q5.out.inside
        have hgzm : gm < w5.heap.size := M5.out.inside
        have hs6 := Nat.le_trans S5.out bb.size
        generalize w5.alloc (.cells (#[.int .u32 t.e, .int .i64 t.d, .int .u32 t.a, .int .u32 t.b, .int .u32 t.c]) 33) = w6 at Q6 O6 M6 B6 OX hs6 ⊢
        generalize w5.heap.size = gz at OX hgz hgzm ⊢
        have hz6 := OX.inside
        have HX := Lib.hid OX
        clear bb OX RA HO HR HM HG HS Q5 O5 M5 B5 S5 c2 hsr
        go_cut [8] from 29 to 32 (fun u wx => ∃ gp, u = .pointer (some ⟨gp, 0, none⟩) ∧ w6.heap.size ≤ gp ∧ Hid (Whole wx gp 79 (cP (t, v)).toArray) ∧ Hid (QB wx g qn) ∧ Hid (w.grownBy wx (some g)) ∧ Hid (Whole wx gm 76 #[.int .i64 d, .slice D N.length c', .slice none 0 0]) ∧ Hid (OwnP 79 wx w3.heap.size (.slice D N.length c') N) ∧ Hid (w6.heap.size ≤ wx.heap.size))
        case first =>
          refine region_full 98 [] [(5, 2)] (fun k => k == 2 || k == 5) (fun w7 => w.grownBy w7 (some g) ∧ w6.heap.size ≤ w7.heap.size ∧ Whole w7 gz 33 #[.int .u32 t.e, .int .i64 t.d, .int .u32 t.a, .int .u32 t.b, .int .u32 t.c] ∧ Whole w7 gm 76 #[.int .i64 d, .slice D N.length c', .slice none 0 0] ∧ OwnP 79 w7 w3.heap.size (.slice D N.length c') N) ?hR ?r0 [pdOne 0 (Is (.agg #[.int .u32 t.e, .int .i64 t.d, .int .u32 t.a, .int .u32 t.b, .int .u32 t.c])), pdOne 1 (Is (.pointer (some ⟨g, 0, none⟩))), pdOne 2 (SgB g v qn), pdOne 3 (Is (.agg (cP (t, v)).toArray)), pdOne 4 (BoxP w6.heap.size), pdTwo 4 5 (FullP w6.heap.size (t, v))] (fun k w7 => k = 2 → QB w7 g qm) (by kernel_rfl) rfl (by kernel_rfl) (by kernel_rfl) (by kernel_rfl) (by kernel_rfl) ?keep ?hO ?h0 ?tell
          case hR => exact fun w7 w8 hb ⟨h1, h2, h3, h4, h5⟩ => ⟨grown_own h1 (grown_below hb (row := none)) (fun j e => by cases e), Nat.le_trans h2 hb.size, h3.below hb h3.inside, h4.below hb h4.inside, h5.below hb⟩
          case r0 => exact ⟨B6.out, Nat.le_refl _, HX.out, M6.out, O6.out⟩
          case keep => exact ⟨keep_one (keeps_is _), keep_one (keeps_is _), keep_one (keeps_sgB _ _ _), keep_one (keeps_is _), keep_one (keeps_boxP _), keep_two (keeps_fullP _ _), trivial⟩
          case hO => exact fun k w7 w8 hb h e => QB.later (h e) hb
          case h0 => exact fun k _ _ => Q6.out
          case tell =>
            intro fin hfin
            simp [lexPut, Act.put] at hfin
            simp only [TellF]
            refine ⟨⟨?_, ?_, ?_, ?_, ?_, ?_, trivial⟩, ?_⟩
            · intro v2 w7 hr hd
              exact yields_is (W0 := w7) (tells_load rfl (by rfl) hr.2.2.1 Try.underlying33 rfl (by kernel_rfl)) (Below.refl _ _)
            · intro v2 w7 hr hd
              exact yields_move rfl (by rfl)
            · intro v2 w7 hr ho hd
              have h1 : v2 1 = _ := hd 1 (by kernel_rfl)
              refine .inl (yieldsW_callR (f := 58) rfl (vs := #[.pointer (some ⟨g, 0, none⟩)]) (by simp [Act.eval, Act.put, h1]) rfl Try.func58 (by kernel_rfl) (by kernel_rfl) ?_)
              refine (SA.out w7 (ho trivial)).mono fun e1 w8 ⟨he1, hq, hg⟩ => ⟨_, he1, ⟨hr.1.trans hg, Nat.le_trans hr.2.1 hg.size, hr.2.2.1.grown hg (by simp; omega), hr.2.2.2.1.grown hg (by simpa using n1), hr.2.2.2.2.keptG hg hg3⟩, ?_, ?_, rfl, hq⟩
              · intro k2 v' hk2 hc hu
                exact match k2, hk2, hc, hu with
                  | 0, _, _, hu => hu
                  | 1, _, _, hu => hu
                  | 2, hk2, _, _ => absurd rfl hk2
                  | 3, _, _, hu => hu
                  | 4, _, _, ⟨ga, h1, h2, cs, h3, h4⟩ => ⟨ga, h1, h2, cs, h3, h4.grown hg (by simp; omega)⟩
                  | 5, _, _, ⟨ga, h1, h2, h4⟩ => ⟨ga, h1, h2, h4.grown hg (by simp; omega)⟩
                  | _ + 6, _, _, _ => trivial
              · intro k2 hk2 _ _ h e
                exact absurd e hk2
            · intro v2 w7 hr hd
              have h0 : v2 0 = _ := hd 0 (by kernel_rfl)
              have h2 : v2 2 = _ := (hd 2 (by kernel_rfl)).1
              refine yields_run (u := .agg (cP (t, v)).toArray) (w' := w7) ?_ (Below.refl _ _) rfl
              unfold execOp
              simp [go_sem, Act.eval, Act.put, h0, h2]
              rfl
            · intro v2 w7 hr hd
              refine yields_run (u := .pointer (some ⟨w7.heap.size, 0, none⟩)) (w' := w7.alloc (.cells (cP P0).toArray 79)) ?_ (fresh1 w7 _) ⟨w7.heap.size, rfl, hr.2.1, _, rfl, Whole.fresh w7 _ _⟩
              unfold execOp
              simp [go_sem]
              rfl
            · intro v2 w7 hr ho hd
              have h3 : v2 3 = _ := hd 3 (by kernel_rfl)
              obtain ⟨ga, h4, hga, cs, hcs, hwg⟩ : BoxP w6.heap.size (v2 4) w7 := hd 4 (by kernel_rfl)
              have hg := grown_setRow w7 ga (cP (t, v)).toArray
              refine yields_store 79 (.tmp 8) (.tmp 32) rfl ga (cP (t, v)).toArray (by simp [Act.eval, Act.put, h4]) (by simp [Act.eval, Act.put, h3]) 79 cs hwg (by kernel_rfl) (by rw [hcs]; rfl) (by simp [cP, Value.oneCell']) ⟨⟨grown_own hr.1 hg (fun j e => by cases e; omega), Nat.le_trans hr.2.1 hg.size, hr.2.2.1.grown hg (by simp; omega), hr.2.2.2.1.grown hg (by simp; omega), OwnP.past hr.2.2.2.2 hg (O6.out.away hga)⟩, ?_, ?_, ga, h4, hga, hwg.setRow _⟩
              · intro k2 v' hk2 hc hu
                exact match k2, hk2, hc, hu with
                  | 0, _, _, hu => hu
                  | 1, _, _, hu => hu
                  | 2, _, _, ⟨h1, h2⟩ => ⟨h1, QB.turned h2 hg (by simp; omega)⟩
                  | 3, _, _, hu => hu
                  | 4, _, _, ⟨gx, h1, h2, cs2, h5, h6⟩ => ⟨gx, h1, h2, by
                    by_cases e : gx = ga
                    · subst e
                      exact ⟨_, rfl, h6.setRow _⟩
                    · exact ⟨cs2, h5, h6.past e _⟩⟩
                  | 5, hk2, _, _ => absurd rfl hk2
                  | _ + 6, _, _, _ => trivial
              · intro k2 hk2 _ hc2 h e
                subst e
                exact absurd hc2 (by decide)
            · intro v2 w7 hr hv
              have h4 : FullP w6.heap.size (t, v) (v2 4) (v2 5) w7 := hv 5 (by decide)
              have h2 : SgB g v qn (v2 2) w7 := hv 2 (by decide)
              rw [hfin]
              clear hfin hv
              obtain ⟨ga, e4, hga, hw4⟩ := h4
              rw [e4]
              have W4 := Lib.hid hw4
              have R7 := Lib.hid hr
              have Q7 := Lib.hid h2.2
              clear hw4 hr h2
              go_wp2_with fail
              go_meet
              exact ⟨ga, rfl, hga, W4, Q7, Lib.hid R7.out.1, Lib.hid R7.out.2.2.2.1, Lib.hid R7.out.2.2.2.2, Lib.hid R7.out.2.1⟩
        case rest =>
          obtain ⟨gp, rfl, hgp, HP6, Q8, G8, M8, O8, S8⟩ := hcut
          rename World => w8
          have L8 := Lib.hid O8.out.lies
          obtain ⟨zn, hzn⟩ : ∃ zn, allB d (N ++ [(t, v)]) (N.length + 1) = zn := ⟨_, rfl⟩
          have HZN := Lib.hid hzn
          have HP : Hid (allB d (N ++ [(t, v)]) (N.length + 1) = (z && (decide (t.d = d) && (decide (v ≠ 0) && (decide (-1099511627776 ≤ v) && (decide (v ≤ 1099511627776) && stepP (N ++ [(t, v)]) N.length (t, v))))))) := Lib.hid (by rw [ok_parts (t := t) (n := v) (by simp), allB_append d N _ N.length (Nat.le_refl _), HZ.out])
          clear hzn
          have s0 : ∀ y : Since w8, y.1.cell? ⟨gp, 0, none⟩ = some (.int .u32 t.e) := fun y => (HP6.out.below y.2 HP6.out.inside).read 0
          have s1 : ∀ y : Since w8, y.1.cell? ⟨gp, 1, none⟩ = some (.int .i64 t.d) := fun y => (HP6.out.below y.2 HP6.out.inside).read 1
          have s2 : ∀ y : Since w8, y.1.cell? ⟨gp, 2, none⟩ = some (.int .u32 t.a) := fun y => (HP6.out.below y.2 HP6.out.inside).read 2
          have s3 : ∀ y : Since w8, y.1.cell? ⟨gp, 3, none⟩ = some (.int .u32 t.b) := fun y => (HP6.out.below y.2 HP6.out.inside).read 3
          have s4 : ∀ y : Since w8, y.1.cell? ⟨gp, 4, none⟩ = some (.int .u32 t.c) := fun y => (HP6.out.below y.2 HP6.out.inside).read 4
          have s5 : ∀ y : Since w8, y.1.cell? ⟨gp, 5, none⟩ = some (.int .i64 v) := fun y => (HP6.out.below y.2 HP6.out.inside).read 5
          have m0 : ∀ y : Since w8, y.1.cell? ⟨gm, 0, none⟩ = some (.int .i64 d) := fun y => (M8.out.below y.2 M8.out.inside).read 0
          have m1 : ∀ y : Since w8, y.1.cell? ⟨gm, 1, none⟩ = some (.slice D N.length c') := fun y => (M8.out.below y.2 M8.out.inside).read 1
          go_upto_region 9 with fail
          go_cut [5] from 33 to 77 (fun u wx => u = .bool zn ∧ Below w8.heap.size w8 wx)
          case first =>
            clear EN EQ SA
            cases z with
            | false =>
              obtain rfl : zn = false := by rw [← HZN.out, HP.out]; rfl
              refine region_since w8 (by kernel_rfl) (by kernel_rfl) (Below.refl _ _) ?_
              repeat (go_big_quiet_step (fail))
              refine wpQuiet_nil ?_
              rintro wy ⟨y, hw⟩
              have By : Below w8.heap.size w8 wy := hw ▸ y.2
              clear hw y
              go_wp2_with fail
              go_meet
              exact ⟨rfl, By⟩
            | true =>
              by_cases e1 : t.d = d
              · subst e1
                by_cases e2 : v = 0
                · obtain rfl : zn = false := by rw [← HZN.out, HP.out]; simp [e2]
                  have x2 : (v != 0) = false := by simp [e2]
                  refine region_since w8 (by kernel_rfl) (by kernel_rfl) (Below.refl _ _) ?_
                  repeat (go_big_quiet_step (fail))
                  refine wpQuiet_nil ?_
                  rintro wy ⟨y, hw⟩
                  have By : Below w8.heap.size w8 wy := hw ▸ y.2
                  clear hw y
                  go_wp2_with fail
                  go_meet
                  exact ⟨rfl, By⟩
                · have x2 : (v != 0) = true := by simpa using e2
                  by_cases e3 : -1099511627776 ≤ v
                  · by_cases e4 : v ≤ 1099511627776
                    · have HP2 : Hid (zn = stepP (N ++ [(t, v)]) N.length (t, v)) := Lib.hid (by rw [← HZN.out, HP.out]; simp [e2, e3, e4])
                      rcases Nat.eq_zero_or_pos N.length with hk0 | hkp
                      · obtain rfl : zn = true := by rw [HP2.out, hk0]; rfl
                        obtain rfl : N = [] := List.eq_nil_of_length_eq_zero hk0
                        refine region_since w8 (by kernel_rfl) (by kernel_rfl) (Below.refl _ _) ?_
                        repeat (go_big_quiet_step (fail))
                        refine wpQuiet_nil ?_
                        rintro wy ⟨y, hw⟩
                        have By : Below w8.heap.size w8 wy := hw ▸ y.2
                        clear hw y
                        go_wp2_with fail
                        go_meet
                        exact ⟨rfl, By⟩
                      · obtain ⟨j, hj⟩ : ∃ j, N.length = j + 1 := ⟨N.length - 1, by omega⟩
                        obtain ⟨r, hr, hrm⟩ := pair_lt (show j < N.length by omega)
                        have ir := (HNin.out r hrm).1
                        have HP3 : Hid (zn = decide (cmpT r.1 t < 0)) := Lib.hid (by rw [HP2.out, hj]; simp only [stepP]; rw [List.getElem?_append_left (by omega), hr])
                        have CC := Lib.hid (compareR_any r.1 t ir ht)
                        obtain ⟨b2, o2, hA2, hb2, f0, f1, f2, f3, f4, f5⟩ := L8.out.at hr
                        subst hA2
                        obtain ⟨cm, hcm⟩ : ∃ cm, cmpT r.1 t = cm := ⟨_, rfl⟩
                        rw [hcm] at CC HP3
                        have t0 : ∀ y : Since w8, y.1.cell? ⟨b2, o2 + j * 6, none⟩ = some (.int .u32 r.1.e) := fun y => (y.2.cell hb2).trans f0
                        have t1 : ∀ y : Since w8, y.1.cell? ⟨b2, o2 + j * 6 + 1, none⟩ = some (.int .i64 r.1.d) := fun y => (y.2.cell hb2).trans f1
                        have t2 : ∀ y : Since w8, y.1.cell? ⟨b2, o2 + j * 6 + 2, none⟩ = some (.int .u32 r.1.a) := fun y => (y.2.cell hb2).trans f2
                        have t3 : ∀ y : Since w8, y.1.cell? ⟨b2, o2 + j * 6 + 3, none⟩ = some (.int .u32 r.1.b) := fun y => (y.2.cell hb2).trans f3
                        have t4 : ∀ y : Since w8, y.1.cell? ⟨b2, o2 + j * 6 + 4, none⟩ = some (.int .u32 r.1.c) := fun y => (y.2.cell hb2).trans f4
                        have x5 : ((N.length : Int) == 0) = false := by rw [beq_eq_false_iff_ne]; omega
                        have x6 : (N.length : Int) - 1 = (j : Int) := by omega
                        have x7 : j < N.length := by omega
                        have x8 : ¬ N = [] := fun e => by rw [e] at hkp; simp at hkp
                        clear hcm hr hrm ir f0 f1 f2 f3 f4 f5 hj
                        by_cases hc : cm < 0
                        · obtain rfl : zn = true := by rw [HP3.out]; simpa using hc
                          clear HP HZN HP2 HP3
                          refine region_since w8 (by kernel_rfl) (by kernel_rfl) (Below.refl _ _) ?_
                          repeat (go_big_quiet_step ((go_at_call 38; with_reducible exact since_call CC.out _)))
                          refine wpQuiet_nil ?_
                          rintro wy ⟨y, hw⟩
                          have By : Below w8.heap.size w8 wy := hw ▸ y.2
                          clear hw y
                          go_wp2_with fail
                          go_meet
                          exact ⟨rfl, By⟩
                        · obtain rfl : zn = false := by rw [HP3.out]; simpa using hc
                          clear HP HZN HP2 HP3
                          refine region_since w8 (by kernel_rfl) (by kernel_rfl) (Below.refl _ _) ?_
                          repeat (go_big_quiet_step ((go_at_call 38; with_reducible exact since_call CC.out _)))
                          refine wpQuiet_nil ?_
                          rintro wy ⟨y, hw⟩
                          have By : Below w8.heap.size w8 wy := hw ▸ y.2
                          clear hw y
                          go_wp2_with fail
                          go_meet
                          exact ⟨rfl, By⟩
                    · obtain rfl : zn = false := by rw [← HZN.out, HP.out]; simp [e4]
                      refine region_since w8 (by kernel_rfl) (by kernel_rfl) (Below.refl _ _) ?_
                      repeat (go_big_quiet_step (fail))
                      refine wpQuiet_nil ?_
                      rintro wy ⟨y, hw⟩
                      have By : Below w8.heap.size w8 wy := hw ▸ y.2
                      clear hw y
                      go_wp2_with fail
                      go_meet
                      exact ⟨rfl, By⟩
                  · obtain rfl : zn = false := by rw [← HZN.out, HP.out]; simp [e3]
                    refine region_since w8 (by kernel_rfl) (by kernel_rfl) (Below.refl _ _) ?_
                    repeat (go_big_quiet_step (fail))
                    refine wpQuiet_nil ?_
                    rintro wy ⟨y, hw⟩
                    have By : Below w8.heap.size w8 wy := hw ▸ y.2
                    clear hw y
                    go_wp2_with fail
                    go_meet
                    exact ⟨rfl, By⟩
              · obtain rfl : zn = false := by rw [← HZN.out, HP.out]; simp [e1]
                have x1 : (t.d == d) = false := by simpa using e1
                refine region_since w8 (by kernel_rfl) (by kernel_rfl) (Below.refl _ _) ?_
                repeat (go_big_quiet_step (fail))
                refine wpQuiet_nil ?_
                rintro wy ⟨y, hw⟩
                have By : Below w8.heap.size w8 wy := hw ▸ y.2
                clear hw y
                go_wp2_with fail
                go_meet
                exact ⟨rfl, By⟩
          case rest =>
            obtain ⟨rfl, B9⟩ := hcut
            clear s0 s1 s2 s3 s4 s5 m0 m1 L8
            rename World => w9
            have P9 := Lib.hid (HP6.out.below B9 HP6.out.inside)
            have Q9 := Lib.hid (QB.later Q8.out B9)
            have G9 := Lib.hid (grown_own G8.out (grown_below B9 (row := none)) (fun j e => by cases e))
            have M9 := Lib.hid (M8.out.below B9 M8.out.inside)
            have O9 := Lib.hid (O8.out.below B9)
            have hs9 : w6.heap.size ≤ w9.heap.size := Nat.le_trans S8.out B9.size
            have HAW := Lib.hid (O6.out.away hgp)
            have hm6 : gm < w6.heap.size := M6.out.inside
            have hz36 : w3.heap.size ≤ w6.heap.size := hs6
            clear HP6 Q8 G8 M8 O8 S8 B9 SA HP HX Q6 O6 M6 B6
            go_upto_region 10 with fail
            refine region_full 98 [(7, 10)] [(7, 4), (10, 4), (10, 7)] (fun k => k == 4 || k == 7 || k == 10) (fun w7 => w.grownBy w7 (some g) ∧ w9.heap.size ≤ w7.heap.size ∧ Whole w7 gp 79 (cP (t, v)).toArray ∧ QB w7 g qn) ?hR ?r0 [pdOne 0 (Is (.pointer (some ⟨gm, 0, none⟩))), pdOne 1 (Is (.pointer (some ⟨gm, 0, none⟩))), pdOne 2 (Is (.pointer (some ⟨gm, 0, none⟩))), pdOne 3 (Is (.pointer (some ⟨gm, 1, none⟩))), pdOne 4 (Is (.slice D N.length c')), pdOne 5 (Is (.agg (cP (t, v)).toArray)), pdOne 6 (LoneC w9.heap.size (t, v)), pdOne 7 (NewC w3.heap.size (N ++ [(t, v)])), pdOne 8 (Is (.pointer (some ⟨gm, 0, none⟩))), pdOne 9 (Is (.pointer (some ⟨gm, 1, none⟩))), pdOne 10 (LaidC gm d w3.heap.size (N ++ [(t, v)]))] (fun k w7 => (k = 4 → Whole w7 gm 76 #[.int .i64 d, .slice D N.length c', .slice none 0 0]) ∧ (k = 7 → OwnP 79 w7 w3.heap.size (.slice D N.length c') N) ∧ (k = 10 → ∃ x, Whole w7 gm 76 #[.int .i64 d, x, .slice none 0 0])) (by kernel_rfl) rfl (by kernel_rfl) (by kernel_rfl) (by kernel_rfl) (by kernel_rfl) ?keep ?hO ?h0 ?tell
            case hR => exact fun w7 w8 hb ⟨h1, h2, h3, h4⟩ => ⟨grown_own h1 (grown_below hb (row := none)) (fun j e => by cases e), Nat.le_trans h2 hb.size, h3.below hb h3.inside, QB.later h4 hb⟩
            case r0 => exact ⟨G9.out, Nat.le_refl _, P9.out, Q9.out⟩
            case keep => exact ⟨keep_one (keeps_is _), keep_one (keeps_is _), keep_one (keeps_is _), keep_one (keeps_is _), keep_one (keeps_is _), keep_one (keeps_is _), keep_one (keeps_loneC _ _), keep_one (keeps_newC _ _), keep_one (keeps_is _), keep_one (keeps_is _), keep_one (keeps_laidC _ _ _ _), trivial⟩
            case hO => exact fun k w7 w8 hb ⟨h1, h2, h3⟩ => ⟨fun e => (h1 e).below hb (h1 e).inside, fun e => (h2 e).below hb, fun e => (h3 e).imp fun x hx => hx.below hb hx.inside⟩
            case h0 => exact fun k _ => ⟨fun _ => M9.out, fun _ => O9.out, fun _ => ⟨_, M9.out⟩⟩
            case tell =>
              intro fin hfin
              simp [lexPut, Act.put] at hfin
              simp only [TellF]
              refine ⟨⟨?_, ?_, ?_, ?_, ?_, ?_, ?_, ?_, ?_, ?_, ?_, trivial⟩, ?_⟩
              · intro v2 w7 hr hd
                exact yields_move rfl (by rfl)
              · intro v2 w7 hr hd
                exact yields_move rfl (by rfl)
              · intro v2 w7 hr hd
                have h1 : v2 1 = _ := hd 1 (by kernel_rfl)
                refine yields_run (u := .pointer (some ⟨gm, 0, none⟩)) (w' := w7) ?_ (Below.refl _ _) rfl
                unfold execOp
                simp [go_sem, Act.eval, Act.put, h1]
              · intro v2 w7 hr hd
                have h2 : v2 2 = _ := hd 2 (by kernel_rfl)
                refine yields_run (u := .pointer (some ⟨gm, 1, none⟩)) (w' := w7) ?_ (Below.refl _ _) rfl
                unfold execOp
                simp [go_sem, Act.eval, Act.put, h2]
              · intro v2 w7 hr ho hd
                have h3 : v2 3 = _ := hd 3 (by kernel_rfl)
                have hc : w7.cell? ⟨gm, 1, none⟩ = some (.slice D N.length c') := (ho.1 trivial).read 1
                refine .inl (.inl ⟨.slice D N.length c', w7, ?_, hr, fun _ _ _ _ hu => hu, fun _ _ _ _ hu => hu, rfl⟩)
                unfold execOp
                simp [go_sem, Act.eval, Act.put, h3, hc]
              · intro v2 w7 hr hd
                exact yields_is (W0 := w7) (tells_load rfl (by rfl) hr.2.2.1 Try.underlying79 rfl (by kernel_rfl)) (Below.refl _ _)
              · intro v2 w7 hr hd
                have h5 : v2 5 = _ := hd 5 (by kernel_rfl)
                refine yields_run (u := .slice (some ⟨w7.heap.size, 0, none⟩) 1 1) (w' := w7.alloc (.cells (cP (t, v)).toArray 79)) ?_ (fresh1 w7 _) ⟨w7.heap.size, rfl, hr.2.1, Whole.fresh w7 _ _⟩
                unfold execOp
                simp [go_sem, Act.eval, Act.put, h5, cP]
              · intro v2 w7 hr ho hd
                have h4 : v2 4 = _ := hd 4 (by kernel_rfl)
                obtain ⟨gy, hz, hyl, hw⟩ : LoneC w9.heap.size (t, v) (v2 6) w7 := hd 6 (by kernel_rfl)
                have ho7 := ho.2.1 trivial
                refine .inl (yields_append (.tmp 82) (.tmp 84) 61 rfl w3.heap.size 79 i0 (.agg (cP P0).toArray) 6 40 Try.underlying61 hi hz0 hz1 hz2 rfl (by decide) (.slice D N.length c') N.length (N.flatMap cP) (by simp [Act.eval, Act.put, h4]) ho7 ⟨gy, 0, none⟩ 1 1 (cP (t, v)) (by simp [Act.eval, Act.put, hz]) rfl (whole_cells hw) (one_cP (t, v)) (by decide) (by unfold maxLen; omega) (by omega) (by have := hr.2.1; omega) ?_)
                intro g8 cap8 w8 hown hgrow
                have hab : ∀ j, (Value.slice D N.length c').ownBlock = some j → w3.heap.size ≤ j := fun j e => OwnP.above ho7 e
                have hgn : some g ≠ (Value.slice D N.length c').ownBlock := fun e => by have := hab g e.symm; omega
                have hmn : some gm ≠ (Value.slice D N.length c').ownBlock := fun e => by have := hab gm e.symm; omega
                refine ⟨⟨grown_own hr.1 hgrow (fun j e => by have := hab j e; omega), Nat.le_trans hr.2.1 hgrow.size, hr.2.2.1.grown hgrow HAW.out, QB.turned hr.2.2.2 hgrow hgn⟩, ?_, ?_, (show NewC w3.heap.size (N ++ [(t, v)]) (.slice (some ⟨g8, 0, none⟩) (N.length + 1) cap8) w8 from ⟨g8, cap8, by simp, by unfold OwnP; simpa using hown⟩)⟩
                · intro k2 v' hk2 hc hu
                  exact match k2, hk2, hc, hu with
                    | 0, _, _, hu => hu
                    | 1, _, _, hu => hu
                    | 2, _, _, hu => hu
                    | 3, _, _, hu => hu
                    | 4, _, _, hu => hu
                    | 5, _, _, hu => hu
                    | 6, _, _, ⟨gx, h1, h2, h3⟩ => ⟨gx, h1, h2, h3.grown hgrow (O9.out.away h2)⟩
                    | 7, hk2, _, _ => absurd rfl hk2
                    | 8, _, _, hu => hu
                    | 9, _, _, hu => hu
                    | 10, _, hc, _ => absurd hc (by decide)
                    | _ + 11, _, _, _ => trivial
                · intro k2 hk2 hn hc2 ⟨h1, h2, h3⟩
                  exact ⟨fun e => by subst e; exact absurd hc2 (by decide), fun e => absurd e hk2, fun e => (h3 e).imp fun x hx => hx.grown hgrow hmn⟩
              · intro v2 w7 hr hd
                have h0 : v2 0 = _ := hd 0 (by kernel_rfl)
                refine yields_run (u := .pointer (some ⟨gm, 0, none⟩)) (w' := w7) ?_ (Below.refl _ _) rfl
                unfold execOp
                simp [go_sem, Act.eval, Act.put, h0]
              · intro v2 w7 hr hd
                have h8 : v2 8 = _ := hd 8 (by kernel_rfl)
                refine yields_run (u := .pointer (some ⟨gm, 1, none⟩)) (w' := w7) ?_ (Below.refl _ _) rfl
                unfold execOp
                simp [go_sem, Act.eval, Act.put, h8]
              · intro v2 w7 hr ho hd
                have h9 : v2 9 = _ := hd 9 (by kernel_rfl)
                obtain ⟨g', c2, h7, hn7⟩ : NewC w3.heap.size (N ++ [(t, v)]) (v2 7) w7 := hd 7 (by kernel_rfl)
                obtain ⟨x, hx⟩ := ho.2.2 trivial
                rw [h7] at hn7
                have hc : w7.cell? ⟨gm, 1, none⟩ = some x := hx.read 1
                have hf : w7.frozen? ⟨gm, 1, none⟩ = false := hx.soft 1
                have hg : w7.grownBy (w7.setCell ⟨gm, 1, none⟩ (.slice (some ⟨g', 0, none⟩) (N ++ [(t, v)]).length c2)) (some gm) := only_store (only_of_below (Below.refl _ w7) (some gm)) _
                refine .inr ⟨w7.setCell ⟨gm, 1, none⟩ (.slice (some ⟨g', 0, none⟩) (N ++ [(t, v)]).length c2), ?_, ⟨grown_own hr.1 hg (fun j e => by cases e; omega), Nat.le_trans hr.2.1 hg.size, hr.2.2.1.grown hg (by simp; omega), QB.turned hr.2.2.2 hg (by simp; omega)⟩, ?_, ?_, some ⟨g', 0, none⟩, c2, hx.store 1 _, hn7.keptG hg hm3⟩
                · unfold execOp
                  simp [go_sem, Act.eval, Act.put, h9, h7, hc, hf]
                · intro k2 v' hk2 hc hu
                  exact match k2, hk2, hc, hu with
                    | 0, _, _, hu => hu
                    | 1, _, _, hu => hu
                    | 2, _, _, hu => hu
                    | 3, _, _, hu => hu
                    | 4, _, _, hu => hu
                    | 5, _, _, hu => hu
                    | 6, _, _, ⟨gx, h1, h2, h3⟩ => ⟨gx, h1, h2, h3.grown hg (by simp; omega)⟩
                    | 7, _, _, ⟨g', c', h1, h2⟩ => ⟨g', c', h1, h2.keptG hg hm3⟩
                    | 8, _, _, hu => hu
                    | 9, _, _, hu => hu
                    | 10, hk2, _, _ => absurd rfl hk2
                    | _ + 11, _, _, _ => trivial
                · intro k2 hk2 hn hc2 ⟨h1, h2, h3⟩
                  exact ⟨fun e => by subst e; exact absurd hc2 (by decide), fun e => by subst e; exact absurd hc2 (by decide), fun e => absurd e hk2⟩
              · intro v2 w7 hr hv
                obtain ⟨D2, c2, hl1, hl2⟩ : LaidC gm d w3.heap.size (N ++ [(t, v)]) (v2 10) w7 := hv 10 (by decide)
                have M10 := Lib.hid hl1
                have O10 := Lib.hid hl2
                have R10 := Lib.hid hr
                rw [hfin]
                clear hfin hv hl1 hl2 hr
                generalize v2 7 = v7
                generalize v2 6 = v6
                go_wp2_with fail
                go_roundw
                case rel => exact ⟨N.length + 1, N ++ [(t, v)], D2, c2, zn, by omega, Lib.hid (by simp), rfl, by go_num, Lib.hid (by rw [List.length_append]; exact HZN.out), by rw [EN.out]; exact Lib.hid rfl, M10, O10, by rw [EQ.out]; exact Lib.hid R10.out.2.2.2, Lib.hid R10.out.1, Lib.hid (by have := R10.out.2.1; omega)⟩
                case measure => simp [intOf]; omega
      · have hkk : N.length = n := by omega
        have hNL : N = LL := by
          have h := HN.out
          rw [hkk, HL.out] at h
          exact h
        subst hNL
        have hq := HQ.out
        rw [← hkk] at hq
        rw [hq] at HR he
        have hlt2 : ¬ ((N.length : Int) < (n : Int)) := by omega
        have LP := Lib.hid HO.out.lies
        have hz := HZ.out
        cases z with
        | false =>
          obtain ⟨hm1, hr1⟩ := HB3.out he hz
          have FA := Lib.hid (fun W (hW : QB W g qf) => failQB g qf 6 W hW)
          rw [he] at FA
          subst hm1 hr1
          clear HB1 HB2 HB3 HZ hz hlq HL HQ HIN HER HM HO HS LP hq
          go_upto_region 13 with (go_at_call 59; refine (FA.out _ HR.out).mono ?_; rintro e w6 ⟨rfl, h6, g6⟩; have Q6 := Lib.hid h6; have G6 := Lib.hid (HG.out.trans g6); clear h6 g6)
          have c3 : w6.cell? ⟨g, 2, none⟩ = some (.int .i64 (rFail 0 6)) := Q6.out.err
          have c4 : w6.cell? ⟨g, 2, none⟩ = some (.int .i64 6) := c3
          clear c2 c3
          go_wp2_with fail
          go_ret
          exact ⟨Q6.out, G6.out, rfl⟩
        | true =>
          obtain ⟨hm1, hr1⟩ := HB2.out he hz
          subst hm1 hr1
          clear HB1 HB2 HB3 HZ hz hlq HL HQ HIN HER hq
          go_wp2_with fail
          go_ret
          exact ⟨HR.out, HG.out, gm, rfl, ⟨D, c', HM.out, LP.out, .inl rfl⟩, hs1⟩
    · have e1 : ((rdP q2 N.length).2.2 == 0) = false := by simpa using he
      have hq : (rdP q2 N.length).2 = qf := by rw [← HQ.out]; exact (HER.out N.length n he hk).symm
      rw [hq] at HR he c2 e1
      obtain ⟨hm1, hr1⟩ := HB1.out he
      have FA := Lib.hid (fun W (hW : QB W g qf) => failQB g qf 6 W hW)
      rw [show rFail qf.2 6 = qf.2 by unfold rFail; rw [if_neg he]] at FA
      have e2 : (qf.2 != 0) = true := by simpa using he
      subst hm1 hr1
      clear HB1 HB2 HB3 hlq HL HQ HIN HER HM HO HS hq HZ
      by_cases hlt : N.length < n
      · cases z with
        | false =>
          go_upto_region 13 with (go_at_call 59; refine (FA.out _ HR.out).mono ?_; rintro e w6 ⟨rfl, h6, g6⟩; have Q6 := Lib.hid h6; have G6 := Lib.hid (HG.out.trans g6); clear h6 g6)
          have c3 : w6.cell? ⟨g, 2, none⟩ = some (.int .i64 qr.2) := Q6.out.err
          clear c2
          go_wp2_with fail
          go_ret
          exact ⟨Q6.out, G6.out, rfl⟩
        | true =>
          go_wp2_with fail
          go_ret
          exact ⟨HR.out, HG.out, rfl⟩
      · have hlt2 : ¬ ((N.length : Int) < (n : Int)) := by omega
        cases z with
        | false =>
          go_upto_region 13 with (go_at_call 59; refine (FA.out _ HR.out).mono ?_; rintro e w6 ⟨rfl, h6, g6⟩; have Q6 := Lib.hid h6; have G6 := Lib.hid (HG.out.trans g6); clear h6 g6)
          have c3 : w6.cell? ⟨g, 2, none⟩ = some (.int .i64 qr.2) := Q6.out.err
          clear c2
          go_wp2_with fail
          go_ret
          exact ⟨Q6.out, G6.out, rfl⟩
        | true =>
          go_wp2_with fail
          go_ret
          exact ⟨HR.out, HG.out, rfl⟩
end Go.Proofs.Ytomekndinopoaaa.multi
