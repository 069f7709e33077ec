/-
  The contracts of (*multi.Multi).set and multi.New.
  The contract of (*multi.Multi).Add.
-/
import Derived.Test.YtomekndinopoaaaJMu1
import Derived.Test.YtomekndinopoaaaJOpen
import Derived.Test.YtomekndinopoaaaJBlock
namespace Go.Proofs.Ytomekndinopoaaa.multi
open Go.ChangeShapes Go.WideShapes Go.ChangeAt Go.RowKit Go.Maps Go.WideMaps
open Go.Proofs.Ytomekndinopoaaa.tm Go.Proofs.Ytomekndinopoaaa.opened Go.Proofs.Ytomekndinopoaaa.block Go.Proofs.Ytomekndinopoaaa.stamp Go.Proofs.Ytomekndinopoaaa.chain

def setE (M : List TN) (t : Tm) (n : Int) : Int := if n ≠ 0 ∧ countM M t = 0 ∧ M.length = 4096 then 2 else 0
def setV (M : List TN) (t : Tm) (n : Int) : List TN := if n ≠ 0 ∧ countM M t = 0 ∧ M.length = 4096 then M else putM M t n
theorem del_run {w : World} {b : Nat} {d : Int} {M : List TN} (h : OwnM w b M) (G : GoodM d M) (t : Tm) (i : t.In) (ty : TypeId) :
    ∃ w', (Builtin.delete_ #[72, 33] ty #[.map (some b), .agg #[.int .u32 t.e, .int .i64 t.d, .int .u32 t.a, .int .u32 t.b, .int .u32 t.c]]).run Try.prog w = .ok (.tuple #[]) w' ∧ OwnM w' b (putM M t 0) ∧ w.grownBy w' (some b) := by
  obtain ⟨es, hp, ho⟩ := h
  obtain ⟨w', hrun, hown, ht⟩ := ho.drop keyT Try.underlying72 (keyOf_time t i) ty
  exact ⟨w', hrun, own_of hown (del_es hp G.inn i), ht.grown⟩
theorem put_run {w : World} {b : Nat} {d : Int} {M : List TN} (h : OwnM w b M) (hl : M.length ≤ 4096) (G : GoodM d M) (t : Tm) (i : t.In) {n : Int} (hn : n ≠ 0) (h0 : -9223372036854775808 ≤ n) (h1 : n ≤ 9223372036854775807) :
    ∃ w', (Instr.mapUpdate 72 (.map (some b)) (.agg #[.int .u32 t.e, .int .i64 t.d, .int .u32 t.a, .int .u32 t.b, .int .u32 t.c]) (.int .i64 n)).run Try.prog w = .ok () w' ∧ OwnM w' b (putM M t n) ∧ w.grownBy w' (some b) := by
  obtain ⟨es, hp, ho⟩ := h
  obtain ⟨w', hrun, hown, ht⟩ := ho.store keyT Try.underlying72 (by unfold maxLen; omega) (keyOf_time t i) (plainElem_int Try.underlying2 (wf_i64 h0 h1))
  exact ⟨w', hrun, own_of hown (put_es hp G.inn i hn), ht.grown⟩
theorem set_zero {g b c : Nat} {d : Int} {A : Option Addr} {L : List Tm} {M : List TN} (t : Tm) (i : t.In) (G : GoodM d M) (w : World) (h : MulP w g d b A c L M) :
    Calls Try.prog 36 #[.pointer (some ⟨g, 0, none⟩), .agg #[.int .u32 t.e, .int .i64 t.d, .int .u32 t.a, .int .u32 t.b, .int .u32 t.c], .int .i64 0] w fun e w' => e = .returned (.int .i64 0) ∧ MulP w' g d b A c L (putM M t 0) ∧ w.grownBy w' (some b) := by
  have hb : Below w.heap.size w (w.alloc (.cells (#[.int .u32 t.e, .int .i64 t.d, .int .u32 t.a, .int .u32 t.b, .int .u32 t.c]) 33)).drew := (fresh1 w (.cells (#[.int .u32 t.e, .int .i64 t.d, .int .u32 t.a, .int .u32 t.b, .int .u32 t.c]) 33)).drew
  have h1 := h.below hb
  obtain ⟨w', hrun, ho, hg⟩ := del_run h1.own G t i 0
  have hp := Lib.hid (h1.turned hg ho)
  have hk := Lib.hid (only_trans (only_of_below hb (some b)) hg)
  have c1 : (w.alloc (.cells (#[.int .u32 t.e, .int .i64 t.d, .int .u32 t.a, .int .u32 t.b, .int .u32 t.c]) 33)).drew.cell? ⟨g, 1, none⟩ = some (.map (some b)) := h1.cells.read 1
  have f1 : (w.alloc (.cells (#[.int .u32 t.e, .int .i64 t.d, .int .u32 t.a, .int .u32 t.b, .int .u32 t.c]) 33)).drew.frozen? ⟨g, 1, none⟩ = false := h1.cells.soft 1
  clear h hb h1 ho hg
  go_enter Try.func36, Try.ntmps36
  go_upto_region 2 with fail
  go_region
  go_wp2_with fail
  go_ret
  exact ⟨rfl, hp.out, hk.out⟩
set_option maxRecDepth 100000 in
theorem set_full {g b c : Nat} {d : Int} {A : Option Addr} {L : List Tm} {M : List TN} (t : Tm) (i : t.In) (n : Int) (hn : n ≠ 0) (hc : countM M t = 0) (hl : M.length = 4096) (G : GoodM d M) (w : World) (h : MulP w g d b A c L M) :
    Calls Try.prog 36 #[.pointer (some ⟨g, 0, none⟩), .agg #[.int .u32 t.e, .int .i64 t.d, .int .u32 t.a, .int .u32 t.b, .int .u32 t.c], .int .i64 n] w fun e w' => e = .returned (.int .i64 2) ∧ MulP w' g d b A c L M ∧ w.grownBy w' (some b) := by
  have hb : Below w.heap.size w (w.alloc (.cells (#[.int .u32 t.e, .int .i64 t.d, .int .u32 t.a, .int .u32 t.b, .int .u32 t.c]) 33)).drew := (fresh1 w (.cells (#[.int .u32 t.e, .int .i64 t.d, .int .u32 t.a, .int .u32 t.b, .int .u32 t.c]) 33)).drew
  have h1 := h.below hb
  have hrun := look_ok_run h1.own G t i
  have hlen := len_run h1.own 3
  rw [hc] at hrun
  rw [hl] at hlen
  simp only [ne_eq, not_true_eq_false, decide_false] at hrun
  have hp := Lib.hid h1
  have hk := Lib.hid (only_of_below hb (some b))
  have c1 : (w.alloc (.cells (#[.int .u32 t.e, .int .i64 t.d, .int .u32 t.a, .int .u32 t.b, .int .u32 t.c]) 33)).drew.cell? ⟨g, 1, none⟩ = some (.map (some b)) := h1.cells.read 1
  have f1 : (w.alloc (.cells (#[.int .u32 t.e, .int .i64 t.d, .int .u32 t.a, .int .u32 t.b, .int .u32 t.c]) 33)).drew.frozen? ⟨g, 1, none⟩ = false := h1.cells.soft 1
  clear h hb h1 hc hl
  go_enter Try.func36, Try.ntmps36
  go_upto_region 4 with fail
  go_region
  go_wp2_with fail
  go_ret
  exact ⟨rfl, hp.out, hk.out⟩
set_option maxRecDepth 100000 in
theorem set_puts {g b c : Nat} {d : Int} {A : Option Addr} {L : List Tm} {M : List TN} (t : Tm) (i : t.In) (n : Int) (hn : n ≠ 0) (h0 : -9223372036854775808 ≤ n) (h9 : n ≤ 9223372036854775807) (hm : M.length ≤ 4096) (hc : countM M t ≠ 0 ∨ M.length ≠ 4096) (G : GoodM d M) (w : World) (h : MulP w g d b A c L M) :
    Calls Try.prog 36 #[.pointer (some ⟨g, 0, none⟩), .agg #[.int .u32 t.e, .int .i64 t.d, .int .u32 t.a, .int .u32 t.b, .int .u32 t.c], .int .i64 n] w fun e w' => e = .returned (.int .i64 0) ∧ MulP w' g d b A c L (putM M t n) ∧ w.grownBy w' (some b) := by
  have hb : Below w.heap.size w (w.alloc (.cells (#[.int .u32 t.e, .int .i64 t.d, .int .u32 t.a, .int .u32 t.b, .int .u32 t.c]) 33)).drew := (fresh1 w (.cells (#[.int .u32 t.e, .int .i64 t.d, .int .u32 t.a, .int .u32 t.b, .int .u32 t.c]) 33)).drew
  have h1 := h.below hb
  have hb2 : Below w.heap.size w (w.alloc (.cells (#[.int .u32 t.e, .int .i64 t.d, .int .u32 t.a, .int .u32 t.b, .int .u32 t.c]) 33)).drew.drew := hb.drew
  have h2 := h.below hb2
  have hrun := look_ok_run h1.own G t i
  have hlen := len_run h1.own 3
  obtain ⟨w', hput, ho, hg⟩ := put_run h2.own hm G t i hn h0 h9
  have hp := Lib.hid (h2.turned hg ho)
  have hk := Lib.hid (only_trans (only_of_below hb2 (some b)) hg)
  have c1 : (w.alloc (.cells (#[.int .u32 t.e, .int .i64 t.d, .int .u32 t.a, .int .u32 t.b, .int .u32 t.c]) 33)).drew.cell? ⟨g, 1, none⟩ = some (.map (some b)) := h1.cells.read 1
  have f1 : (w.alloc (.cells (#[.int .u32 t.e, .int .i64 t.d, .int .u32 t.a, .int .u32 t.b, .int .u32 t.c]) 33)).drew.frozen? ⟨g, 1, none⟩ = false := h1.cells.soft 1
  have c2 : (w.alloc (.cells (#[.int .u32 t.e, .int .i64 t.d, .int .u32 t.a, .int .u32 t.b, .int .u32 t.c]) 33)).drew.drew.cell? ⟨g, 1, none⟩ = some (.map (some b)) := h1.cells.read 1
  have f2 : (w.alloc (.cells (#[.int .u32 t.e, .int .i64 t.d, .int .u32 t.a, .int .u32 t.b, .int .u32 t.c]) 33)).drew.drew.frozen? ⟨g, 1, none⟩ = false := h1.cells.soft 1
  clear h hb h1 hb2 h2 ho hg
  by_cases hz : countM M t = 0
  · have hl : ¬ ((M.length : Int) = 4096) := by omega
    rw [hz] at hrun
    simp only [ne_eq, not_true_eq_false, decide_false] at hrun
    clear hc hz
    go_enter Try.func36, Try.ntmps36
    go_upto_region 4 with fail
    go_region
    go_upto_region 7 with fail
    go_region
    go_wp2_with fail
    go_ret
    exact ⟨rfl, hp.out, hk.out⟩
  · rw [decide_eq_true hz] at hrun
    clear hc hz
    go_enter Try.func36, Try.ntmps36
    go_upto_region 4 with fail
    go_region
    go_upto_region 7 with fail
    go_region
    go_wp2_with fail
    go_ret
    exact ⟨rfl, hp.out, hk.out⟩
set_option maxRecDepth 100000 in
theorem set_any {g b c : Nat} {d : Int} {A : Option Addr} {L : List Tm} {M : List TN} (t : Tm) (i : t.In) (n : Int) (h0 : -9223372036854775808 ≤ n) (h9 : n ≤ 9223372036854775807) (hm : M.length ≤ 4096) (G : GoodM d M) (w : World) (h : MulP w g d b A c L M) :
    Calls Try.prog 36 #[.pointer (some ⟨g, 0, none⟩), .agg #[.int .u32 t.e, .int .i64 t.d, .int .u32 t.a, .int .u32 t.b, .int .u32 t.c], .int .i64 n] w fun e w' => e = .returned (.int .i64 (setE M t n)) ∧ MulP w' g d b A c L (setV M t n) ∧ w.grownBy w' (some b) := by
  by_cases hf : n ≠ 0 ∧ countM M t = 0 ∧ M.length = 4096
  · unfold setE setV
    rw [if_pos hf, if_pos hf]
    exact set_full t i n hf.1 hf.2.1 hf.2.2 G w h
  · unfold setE setV
    rw [if_neg hf, if_neg hf]
    by_cases hn : n = 0
    · subst hn
      exact set_zero t i G w h
    · exact set_puts t i n hn h0 h9 hm (by omega) G w h
end Go.Proofs.Ytomekndinopoaaa.multi
namespace Go.Proofs.Ytomekndinopoaaa.multi
open Go.ChangeShapes Go.WideShapes Go.ChangeAt Go.RowKit Go.Maps Go.WideMaps
open Go.Proofs.Ytomekndinopoaaa.tm Go.Proofs.Ytomekndinopoaaa.opened Go.Proofs.Ytomekndinopoaaa.block Go.Proofs.Ytomekndinopoaaa.stamp Go.Proofs.Ytomekndinopoaaa.chain

def addE (d : Int) (M : List TN) (t : Tm) (n : Int) : Int :=
  if chk t ≠ 0 then chk t else if t.d ≠ d then 10 else if n < -1099511627776 - countM M t ∨ 1099511627776 - countM M t < n then 9 else setE M t (countM M t + n)
def addV (d : Int) (M : List TN) (t : Tm) (n : Int) : List TN :=
  if chk t ≠ 0 then M else if t.d ≠ d then M else if n < -1099511627776 - countM M t ∨ 1099511627776 - countM M t < n then M else setV M t (countM M t + n)
set_option maxRecDepth 100000
theorem add_bad {g b c : Nat} {d : Int} {A : Option Addr} {L : List Tm} {M : List TN} (t : Tm) (i : t.In) (n : Int) (hk : chk t ≠ 0) (w : World) (h : MulP w g d b A c L M) :
    Calls Try.prog 10 #[.pointer (some ⟨g, 0, none⟩), .agg #[.int .u32 t.e, .int .i64 t.d, .int .u32 t.a, .int .u32 t.b, .int .u32 t.c], .int .i64 n] w fun e w' => e = .returned (.int .i64 (chk t)) ∧ MulP w' g d b A c L M ∧ w.grownBy w' (some b) := by
  have H := Lib.hid h
  clear h
  have hC := Lib.hid (check_any t i)
  generalize chk t = k at hk hC
  go_enter Try.func10, Try.ntmps10
  go_wp2_with ((go_at_call 35; refine (hC.out _).mono ?_; rintro e w1 ⟨rfl, b1⟩; have hb1 := Lib.hid b1; clear b1))
  go_ret
  have B := Below.trans (fresh1 w (.cells (#[.int .u32 t.e, .int .i64 t.d, .int .u32 t.a, .int .u32 t.b, .int .u32 t.c]) 33)) (hb1.out.mono (fresh1 w _).size) 
  exact ⟨rfl, H.out.below B, only_of_below B (some b)⟩
theorem add_depth {g b c : Nat} {d : Int} {A : Option Addr} {L : List Tm} {M : List TN} (t : Tm) (i : t.In) (n : Int) (hk : chk t = 0) (hd : t.d ≠ d) (w : World) (h : MulP w g d b A c L M) :
    Calls Try.prog 10 #[.pointer (some ⟨g, 0, none⟩), .agg #[.int .u32 t.e, .int .i64 t.d, .int .u32 t.a, .int .u32 t.b, .int .u32 t.c], .int .i64 n] w fun e w' => e = .returned (.int .i64 10) ∧ MulP w' g d b A c L M ∧ w.grownBy w' (some b) := by
  have H := Lib.hid h
  clear h
  have hC := Lib.hid (check_any t i)
  rw [hk] at hC
  have hT := Lib.hid (Whole.fresh w 33 (#[.int .u32 t.e, .int .i64 t.d, .int .u32 t.a, .int .u32 t.b, .int .u32 t.c]))
  go_enter Try.func10, Try.ntmps10
  go_upto_region 4 with ((go_at_call 35; refine (hC.out _).mono ?_; rintro e w1 ⟨rfl, b1⟩; have hb1 := Lib.hid b1; have hB := Lib.hid (Below.trans (fresh1 w (.cells (#[.int .u32 t.e, .int .i64 t.d, .int .u32 t.a, .int .u32 t.b, .int .u32 t.c]) 33)) (b1.mono (fresh1 w _).size)); have hT1 := Lib.hid (hT.out.below b1 hT.out.inside); clear b1))
  have hH := Lib.hid (H.out.below hB.out)
  have t1 : w1.drew.cell? ⟨w.heap.size, 1, none⟩ = some (.int .i64 t.d) := hT1.out.read 1
  have u1 : w1.drew.frozen? ⟨w.heap.size, 1, none⟩ = false := hT1.out.soft 1
  have c0 : w1.drew.cell? ⟨g, 0, none⟩ = some (.int .i64 d) := hH.out.cells.read 0
  have f0 : w1.drew.frozen? ⟨g, 0, none⟩ = false := hH.out.cells.soft 0
  go_region
  go_wp2_with fail
  go_ret
  exact ⟨rfl, hH.out.below (Below.refl _ _).drew, only_of_below hB.out.drew (some b)⟩
theorem add_over {g b c : Nat} {d : Int} {A : Option Addr} {L : List Tm} {M : List TN} (t : Tm) (i : t.In) (n : Int) (hk : chk t = 0) (hd : t.d = d) (G : GoodM d M) (hx : n < -1099511627776 - countM M t ∨ 1099511627776 - countM M t < n) (w : World) (h : MulP w g d b A c L M) :
    Calls Try.prog 10 #[.pointer (some ⟨g, 0, none⟩), .agg #[.int .u32 t.e, .int .i64 t.d, .int .u32 t.a, .int .u32 t.b, .int .u32 t.c], .int .i64 n] w fun e w' => e = .returned (.int .i64 9) ∧ MulP w' g d b A c L M ∧ w.grownBy w' (some b) := by
  subst hd
  replace hx := Lib.hid hx
  have hxx := hx
  clear hx
  have H := Lib.hid h
  clear h
  have hC := Lib.hid (check_any t i)
  rw [hk] at hC
  have hT := Lib.hid (Whole.fresh w 33 (#[.int .u32 t.e, .int .i64 t.d, .int .u32 t.a, .int .u32 t.b, .int .u32 t.c]))
  have hq := Lib.hid (count_in G t)
  go_enter Try.func10, Try.ntmps10
  go_upto_region 4 with ((go_at_call 35; refine (hC.out _).mono ?_; rintro e w1 ⟨rfl, b1⟩; have hb1 := Lib.hid b1; have hB := Lib.hid (Below.trans (fresh1 w (.cells (#[.int .u32 t.e, .int .i64 t.d, .int .u32 t.a, .int .u32 t.b, .int .u32 t.c]) 33)) (b1.mono (fresh1 w _).size)); have hT1 := Lib.hid (hT.out.below b1 hT.out.inside); clear b1))
  have hH := Lib.hid (H.out.below hB.out)
  have t1 : w1.drew.cell? ⟨w.heap.size, 1, none⟩ = some (.int .i64 t.d) := hT1.out.read 1
  have u1 : w1.drew.frozen? ⟨w.heap.size, 1, none⟩ = false := hT1.out.soft 1
  have c0 : w1.drew.cell? ⟨g, 0, none⟩ = some (.int .i64 t.d) := hH.out.cells.read 0
  have f0 : w1.drew.frozen? ⟨g, 0, none⟩ = false := hH.out.cells.soft 0
  go_region
  clear t1 u1 c0 f0
  have hW := Lib.hid (hT1.out.drewN 2)
  have c1 : w1.drew.drew.cell? ⟨g, 1, none⟩ = some (.map (some b)) := hH.out.cells.read 1
  have f1 : w1.drew.drew.frozen? ⟨g, 1, none⟩ = false := hH.out.cells.soft 1
  have hl := look_run (w := w1.drew.drew) (H.out.below hB.out.drew.drew).own G t i
  have t2 : ∀ j, w1.drew.drew.cell? ⟨w.heap.size, j, none⟩ = (#[.int .u32 t.e, .int .i64 t.d, .int .u32 t.a, .int .u32 t.b, .int .u32 t.c] : Array Value)[j]? := fun j => hT1.out.read j
  have t20 : w1.drew.drew.cell? ⟨w.heap.size, 0, none⟩ = some (.int .u32 t.e) := t2 0
  have t21 : w1.drew.drew.cell? ⟨w.heap.size, 0 + 1, none⟩ = some (.int .i64 t.d) := t2 1
  have t22 : w1.drew.drew.cell? ⟨w.heap.size, 1, none⟩ = some (.int .i64 t.d) := t2 1
  have t23 : w1.drew.drew.cell? ⟨w.heap.size, 2, none⟩ = some (.int .u32 t.a) := t2 2
  have t24 : w1.drew.drew.cell? ⟨w.heap.size, 3, none⟩ = some (.int .u32 t.b) := t2 3
  have t25 : w1.drew.drew.cell? ⟨w.heap.size, 4, none⟩ = some (.int .u32 t.c) := t2 4
  clear t2
  go_upto_region 6 with fail
  go_region
  clear c1 f1 hl t20 t21 t22 t23 t24 t25
  have hx := hxx.out
  have hq := hq.out
  clear hxx
  generalize countM M t = old at hx hq ⊢
  have e1 : IntKind.i64.wrap (-1099511627776 - old) = -1099511627776 - old := by rw [IntKind.wrap_i64]; omega
  have e2 : IntKind.i64.wrap (1099511627776 - old) = 1099511627776 - old := by rw [IntKind.wrap_i64]; omega
  by_cases hy : n < -1099511627776 - old
  · clear hx
    go_wp2_with fail
    go_ret
    exact ⟨rfl, hH.out.below (Below.refl _ _).drew.drew, only_of_below hB.out.drew.drew (some b)⟩
  · have hz : 1099511627776 - old < n := by omega
    clear hx
    go_wp2_with fail
    go_ret
    exact ⟨rfl, hH.out.below (Below.refl _ _).drew.drew, only_of_below hB.out.drew.drew (some b)⟩
theorem add_sets {g b c : Nat} {d : Int} {A : Option Addr} {L : List Tm} {M : List TN} (t : Tm) (i : t.In) (n : Int) (hk : chk t = 0) (hd : t.d = d) (G : GoodM d M) (hm : M.length ≤ 4096) (hx : -1099511627776 - countM M t ≤ n ∧ n ≤ 1099511627776 - countM M t) (w : World) (h : MulP w g d b A c L M) :
    Calls Try.prog 10 #[.pointer (some ⟨g, 0, none⟩), .agg #[.int .u32 t.e, .int .i64 t.d, .int .u32 t.a, .int .u32 t.b, .int .u32 t.c], .int .i64 n] w fun e w' => e = .returned (.int .i64 (setE M t (countM M t + n))) ∧ MulP w' g d b A c L (setV M t (countM M t + n)) ∧ w.grownBy w' (some b) := by
  subst hd
  have hqq := count_in G t
  have hS := Lib.hid (fun w2 hw2 => set_any (g := g) (b := b) (c := c) (A := A) (L := L) t i (countM M t + n) (by omega) (by omega) hm G w2 hw2)
  generalize setE M t (countM M t + n) = E1 at hS ⊢
  generalize setV M t (countM M t + n) = V1 at hS ⊢
  clear hqq
  replace hx := Lib.hid hx
  have hxx := hx
  clear hx
  have H := Lib.hid h
  clear h
  have hC := Lib.hid (check_any t i)
  rw [hk] at hC
  have hT := Lib.hid (Whole.fresh w 33 (#[.int .u32 t.e, .int .i64 t.d, .int .u32 t.a, .int .u32 t.b, .int .u32 t.c]))
  have hq := Lib.hid (count_in G t)
  go_enter Try.func10, Try.ntmps10
  go_upto_region 4 with ((go_at_call 35; refine (hC.out _).mono ?_; rintro e w1 ⟨rfl, b1⟩; have hb1 := Lib.hid b1; have hB := Lib.hid (Below.trans (fresh1 w (.cells (#[.int .u32 t.e, .int .i64 t.d, .int .u32 t.a, .int .u32 t.b, .int .u32 t.c]) 33)) (b1.mono (fresh1 w _).size)); have hT1 := Lib.hid (hT.out.below b1 hT.out.inside); clear b1))
  have hH := Lib.hid (H.out.below hB.out)
  have t1 : w1.drew.cell? ⟨w.heap.size, 1, none⟩ = some (.int .i64 t.d) := hT1.out.read 1
  have u1 : w1.drew.frozen? ⟨w.heap.size, 1, none⟩ = false := hT1.out.soft 1
  have c0 : w1.drew.cell? ⟨g, 0, none⟩ = some (.int .i64 t.d) := hH.out.cells.read 0
  have f0 : w1.drew.frozen? ⟨g, 0, none⟩ = false := hH.out.cells.soft 0
  go_region
  clear t1 u1 c0 f0
  have hW := Lib.hid (hT1.out.drewN 2)
  have c1 : w1.drew.drew.cell? ⟨g, 1, none⟩ = some (.map (some b)) := hH.out.cells.read 1
  have f1 : w1.drew.drew.frozen? ⟨g, 1, none⟩ = false := hH.out.cells.soft 1
  have hl := look_run (w := w1.drew.drew) (H.out.below hB.out.drew.drew).own G t i
  have t2 : ∀ j, w1.drew.drew.cell? ⟨w.heap.size, j, none⟩ = (#[.int .u32 t.e, .int .i64 t.d, .int .u32 t.a, .int .u32 t.b, .int .u32 t.c] : Array Value)[j]? := fun j => hT1.out.read j
  have t20 : w1.drew.drew.cell? ⟨w.heap.size, 0, none⟩ = some (.int .u32 t.e) := t2 0
  have t21 : w1.drew.drew.cell? ⟨w.heap.size, 0 + 1, none⟩ = some (.int .i64 t.d) := t2 1
  have t22 : w1.drew.drew.cell? ⟨w.heap.size, 1, none⟩ = some (.int .i64 t.d) := t2 1
  have t23 : w1.drew.drew.cell? ⟨w.heap.size, 2, none⟩ = some (.int .u32 t.a) := t2 2
  have t24 : w1.drew.drew.cell? ⟨w.heap.size, 3, none⟩ = some (.int .u32 t.b) := t2 3
  have t25 : w1.drew.drew.cell? ⟨w.heap.size, 4, none⟩ = some (.int .u32 t.c) := t2 4
  clear t2
  go_upto_region 6 with fail
  go_region
  clear c1 f1 hl
  have hx := hxx.out
  have hq := hq.out
  clear hxx
  generalize countM M t = old at hx hq hS
  have e1 : IntKind.i64.wrap (-1099511627776 - old) = -1099511627776 - old := by rw [IntKind.wrap_i64]; omega
  have e2 : IntKind.i64.wrap (1099511627776 - old) = 1099511627776 - old := by rw [IntKind.wrap_i64]; omega
  have e3 : IntKind.i64.wrap (old + n) = old + n := by rw [IntKind.wrap_i64]; omega
  have hy : ¬ n < -1099511627776 - old := by omega
  have hz : ¬ 1099511627776 - old < n := by omega
  clear hx hq
  have hM2 := Lib.hid (hH.out.below (Below.refl _ _).drew.drew)
  have hB2 := Lib.hid hB.out.drew.drew
  go_wp2_with ((go_at_call 36; refine (hS.out _ hM2.out).mono ?_; rintro e w3 ⟨rfl, p3, g3⟩; have hp3 := Lib.hid p3; have hg3 := Lib.hid g3; clear p3 g3))
  go_ret
  exact ⟨rfl, hp3.out, only_trans (only_of_below hB2.out (some b)) hg3.out⟩
theorem add_any {g b c : Nat} {d : Int} {A : Option Addr} {L : List Tm} {M : List TN} (t : Tm) (i : t.In) (n : Int) (G : GoodM d M) (hm : M.length ≤ 4096) (w : World) (h : MulP w g d b A c L M) :
    Calls Try.prog 10 #[.pointer (some ⟨g, 0, none⟩), .agg #[.int .u32 t.e, .int .i64 t.d, .int .u32 t.a, .int .u32 t.b, .int .u32 t.c], .int .i64 n] w fun e w' => e = .returned (.int .i64 (addE d M t n)) ∧ MulP w' g d b A c L (addV d M t n) ∧ w.grownBy w' (some b) := by
  unfold addE addV
  by_cases hk : chk t ≠ 0
  · rw [if_pos hk, if_pos hk]
    exact add_bad t i n hk w h
  · have hk : chk t = 0 := by omega
    have hk' : ¬ chk t ≠ 0 := by omega
    rw [if_neg hk', if_neg hk']
    by_cases hd : t.d = d
    · have hd' : ¬ t.d ≠ d := by omega
      rw [if_neg hd', if_neg hd']
      by_cases hx : n < -1099511627776 - countM M t ∨ 1099511627776 - countM M t < n
      · rw [if_pos hx, if_pos hx]
        exact add_over t i n hk hd G hx w h
      · rw [if_neg hx, if_neg hx]
        exact add_sets t i n hk hd G hm (by omega) w h
    · rw [if_pos hd, if_pos hd]
      exact add_depth t i n hk hd w h
theorem put_len0 {M : List TN} (hi : ∀ p ∈ M, p.1.In) {t : Tm} (i : t.In) : (putM M t 0).length ≤ M.length := by
  rw [(putM_zero hi i).length_eq]
  exact List.length_filter_le _ _
theorem set_good {d : Int} {M : List TN} (G : GoodM d M) (hm : M.length ≤ 4096) {t : Tm} (i : t.In) (hk : chk t = 0) (hd : t.d = d) {n : Int} (h0 : -1099511627776 ≤ n) (h1 : n ≤ 1099511627776) : GoodM d (setV M t n) ∧ (setV M t n).length ≤ 4096 := by
  unfold setV
  by_cases hf : n ≠ 0 ∧ countM M t = 0 ∧ M.length = 4096
  · rw [if_pos hf]
    exact ⟨G, hm⟩
  · rw [if_neg hf]
    refine ⟨put_good G i hk hd h0 h1, ?_⟩
    by_cases hn : n = 0
    · subst hn
      exact Nat.le_trans (put_len0 G.inn i) hm
    · rw [put_len G i hn]
      split <;> omega
theorem add_good {d : Int} {M : List TN} (G : GoodM d M) (hm : M.length ≤ 4096) {t : Tm} (i : t.In) (n : Int) : GoodM d (addV d M t n) ∧ (addV d M t n).length ≤ 4096 := by
  unfold addV
  by_cases hk : chk t ≠ 0
  · rw [if_pos hk]
    exact ⟨G, hm⟩
  · rw [if_neg hk]
    by_cases hd : t.d ≠ d
    · rw [if_pos hd]
      exact ⟨G, hm⟩
    · rw [if_neg hd]
      by_cases hx : n < -1099511627776 - countM M t ∨ 1099511627776 - countM M t < n
      · rw [if_pos hx]
        exact ⟨G, hm⟩
      · rw [if_neg hx]
        exact set_good G hm i (by omega) (by omega) (by omega) (by omega)
/-- What is counted behind an addition that is not refused. -/
theorem count_put {d : Int} {M : List TN} (G : GoodM d M) {t : Tm} (i : t.In) (n : Int) (u : Tm) (G' : GoodM d (putM M t n)) : countM (putM M t n) u = if u = t then n else countM M u := by
  have hmem : ∀ (v : Tm) (m : Int), (v, m) ∈ putM M t n ↔ (if v = t then m = n ∧ n ≠ 0 else (v, m) ∈ M) := by
    intro v m
    by_cases hn : n = 0
    · subst hn
      rw [(putM_zero G.inn i).mem_iff, List.mem_filter]
      by_cases hv : v = t <;> simp [hv]
    · rw [(putM_some G.inn i hn).mem_iff, List.mem_cons, List.mem_filter]
      by_cases hv : v = t <;> simp [hv, hn]
  by_cases hc : countM (putM M t n) u ≠ 0
  · have h1 := (hmem u _).1 (count_at G' u hc)
    by_cases hu : u = t
    · rw [if_pos hu] at h1 ⊢
      exact h1.1
    · rw [if_neg hu] at h1 ⊢
      exact (count_mem G.srt h1).symm
  · have hz : countM (putM M t n) u = 0 := by omega
    rw [hz]
    by_cases hu : u = t
    · rw [if_pos hu]
      by_cases hn : n = 0
      · exact hn.symm
      · exact absurd ((count_ne G' u).2 ⟨n, (hmem u n).2 (by rw [if_pos hu]; exact ⟨rfl, hn⟩)⟩) hc
    · rw [if_neg hu]
      by_cases hm : countM M u = 0
      · exact hm.symm
      · exact absurd ((count_ne G' u).2 ⟨_, (hmem u _).2 (by rw [if_neg hu]; exact count_at G u hm)⟩) hc
end Go.Proofs.Ytomekndinopoaaa.multi
