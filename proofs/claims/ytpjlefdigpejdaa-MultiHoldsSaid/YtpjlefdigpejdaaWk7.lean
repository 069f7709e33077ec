/-
  works: what a Multi tells of two times.
-/
import Derived.Test.YtpjlefdigpejdaaMd
import Derived.Test.YtpjlefdigpejdaaEq
namespace Go.Proofs.Ytpjlefdigpejdaa.multi
open Go.ChangeShapes Go.WideShapes Go.ChangeAt Go.RowKit
open Go.Proofs.Ytpjlefdigpejdaa.tm Go.Proofs.Ytpjlefdigpejdaa.opened Go.Proofs.Ytpjlefdigpejdaa.block Go.Proofs.Ytpjlefdigpejdaa.stamp Go.Proofs.Ytpjlefdigpejdaa.chain

abbrev t1 : Tm := ⟨1, 0, 0, 0, 0⟩
abbrev tz : Tm := ⟨0, 0, 0, 0, 0⟩
abbrev tq : Tm := ⟨0, 1, 0, 0, 0⟩
theorem i1 : t1.In := by constructor <;> decide
theorem iz : tz.In := by constructor <;> decide
theorem iq : tq.In := by constructor <;> decide
theorem g0 : GoodM 0 [] := GoodM.nil 0
theorem v1 : addV 0 [] t1 1 = [(t1, 1)] := by decide
theorem v2 : addV 0 [(t1, 1)] tz 2 = [(tz, 2), (t1, 1)] := by decide
theorem v3 : addV 0 [(tz, 2), (t1, 1)] tz (-2) = [(t1, 1)] := by decide
theorem v4 : addV 0 [(t1, 1)] tq 1 = [(t1, 1)] := by decide
theorem e1 : addE 0 [] t1 1 = 0 := by decide
theorem e2 : addE 0 [(t1, 1)] tz 2 = 0 := by decide
theorem e3 : addE 0 [(tz, 2), (t1, 1)] tz (-2) = 0 := by decide
theorem e4 : addE 0 [(t1, 1)] tq 1 = 10 := by decide
theorem g1 : GoodM 0 [(t1, 1)] := by rw [← v1]; exact (add_good g0 (by decide) i1 1).1
theorem g2 : GoodM 0 [(tz, 2), (t1, 1)] := by rw [← v2]; exact (add_good g1 (by decide) iz 2).1
theorem me2 : makeE (present [(tz, 2), (t1, 1)]) (inP g2) = 0 := by rw [← (ref_make _ _).1]; decide
theorem mv2 : makeV (present [(tz, 2), (t1, 1)]) (inP g2) = [tz] := by rw [← (ref_make _ _).2]; decide
theorem me1 : makeE (present [(t1, 1)]) (inP g1) = 0 := by rw [← (ref_make _ _).1]; decide
theorem mv1 : makeV (present [(t1, 1)]) (inP g1) = [t1] := by rw [← (ref_make _ _).2]; decide
theorem w1 : withoutV [] [tz] = [] := by decide
theorem w2 : withoutV [tz] [] = [tz] := by decide
theorem w3 : withoutV [tz] [t1] = [tz] := by decide
theorem w4 : withoutV [t1] [tz] = [t1] := by decide
theorem c1 {g b c : Nat} {A : Option Addr} {L : List Tm} (W : World) (h : MulP W g 0 b A c L []) : Calls Try.prog 13 #[.pointer (some ⟨g, 0, none⟩), .agg #[.int .u32 t1.e, .int .i64 t1.d, .int .u32 t1.a, .int .u32 t1.b, .int .u32 t1.c], .int .i64 (1)] W fun e w' => e = .returned (.int .i64 0) ∧ MulP w' g 0 b A c L [(t1, 1)] ∧ W.grownBy w' (some b) := by
  have := add_any t1 i1 (1) g0 (by decide) W h
  rwa [e1, v1] at this
theorem c2 {g b c : Nat} {A : Option Addr} {L : List Tm} (W : World) (h : MulP W g 0 b A c L [(t1, 1)]) : Calls Try.prog 13 #[.pointer (some ⟨g, 0, none⟩), .agg #[.int .u32 tz.e, .int .i64 tz.d, .int .u32 tz.a, .int .u32 tz.b, .int .u32 tz.c], .int .i64 (2)] W fun e w' => e = .returned (.int .i64 0) ∧ MulP w' g 0 b A c L [(tz, 2), (t1, 1)] ∧ W.grownBy w' (some b) := by
  have := add_any tz iz (2) g1 (by decide) W h
  rwa [e2, v2] at this
theorem c3 {g b c : Nat} {A : Option Addr} {L : List Tm} (W : World) (h : MulP W g 0 b A c L [(tz, 2), (t1, 1)]) : Calls Try.prog 13 #[.pointer (some ⟨g, 0, none⟩), .agg #[.int .u32 tz.e, .int .i64 tz.d, .int .u32 tz.a, .int .u32 tz.b, .int .u32 tz.c], .int .i64 (-2)] W fun e w' => e = .returned (.int .i64 0) ∧ MulP w' g 0 b A c L [(t1, 1)] ∧ W.grownBy w' (some b) := by
  have := add_any tz iz (-2) g2 (by decide) W h
  rwa [e3, v3] at this
theorem c4 {g b c : Nat} {A : Option Addr} {L : List Tm} (W : World) (h : MulP W g 0 b A c L [(t1, 1)]) : Calls Try.prog 13 #[.pointer (some ⟨g, 0, none⟩), .agg #[.int .u32 tq.e, .int .i64 tq.d, .int .u32 tq.a, .int .u32 tq.b, .int .u32 tq.c], .int .i64 (1)] W fun e w' => e = .returned (.int .i64 10) ∧ MulP w' g 0 b A c L [(t1, 1)] ∧ W.grownBy w' (some b) := by
  have := add_any tq iq (1) g1 (by decide) W h
  rwa [e4, v4] at this
theorem lt_shape {W : World} {D : Option Addr} {t : Tm} (h : Lt W D [t]) : ∃ b o, D = some ⟨b, o, none⟩ := by
  obtain ⟨b, o, h, -⟩ := h.at (k := 0) (t := t) rfl
  exact ⟨b, o, h⟩
theorem m1 {g b c : Nat} {A : Option Addr} (W : World) (h : MulP W g 0 b A c [] [(tz, 2), (t1, 1)]) : Calls Try.prog 15 #[.pointer (some ⟨g, 0, none⟩)] W fun e w' => ∃ D1 c1 p q c2 B c', e = .returned (.tuple #[.slice D1 0 c1, .slice (some ⟨p, q, none⟩) 1 c2, .int .i64 0]) ∧ Lt w' (some ⟨p, q, none⟩) [tz] ∧ MulP w' g 0 b B c' [tz] [(tz, 2), (t1, 1)] ∧ W.grownBy w' (some g) := by
  have := moves_good g2 (by decide) (by decide) me2 W h
  rw [mv2, w1, w2] at this
  refine this.mono ?_
  rintro e w' ⟨D1, c1, D2, c2, B, c', he, -, h2, h3, h4⟩
  obtain ⟨p, q, rfl⟩ := lt_shape h2
  exact ⟨D1, c1, p, q, c2, B, c', he, h2, h3, h4⟩
theorem m2 {g b c : Nat} {A : Option Addr} (W : World) (h : MulP W g 0 b A c [tz] [(t1, 1)]) : Calls Try.prog 15 #[.pointer (some ⟨g, 0, none⟩)] W fun e w' => ∃ p1 q1 c1 p q c2 B c', e = .returned (.tuple #[.slice (some ⟨p1, q1, none⟩) 1 c1, .slice (some ⟨p, q, none⟩) 1 c2, .int .i64 0]) ∧ Lt w' (some ⟨p1, q1, none⟩) [tz] ∧ Lt w' (some ⟨p, q, none⟩) [t1] ∧ MulP w' g 0 b B c' [t1] [(t1, 1)] ∧ W.grownBy w' (some g) := by
  have := moves_good g1 (by decide) (by decide) me1 W h
  rw [mv1, w3, w4] at this
  refine this.mono ?_
  rintro e w' ⟨D1, c1, D2, c2, B, c', he, h1, h2, h3, h4⟩
  obtain ⟨p, q, rfl⟩ := lt_shape h2
  obtain ⟨p1, q1, rfl⟩ := lt_shape h1
  exact ⟨p1, q1, c1, p, q, c2, B, c', he, h1, h2, h3, h4⟩
theorem k1 {g b c : Nat} {A : Option Addr} {L : List Tm} (W : World) (h : MulP W g 0 b A c L [(t1, 1)]) : Calls Try.prog 20 #[.pointer (some ⟨g, 0, none⟩), .agg #[.int .u32 t1.e, .int .i64 t1.d, .int .u32 t1.a, .int .u32 t1.b, .int .u32 t1.c]] W fun e w' => e = .returned (.int .i64 1) ∧ Below W.heap.size W w' := count_any t1 i1 g1 W h
theorem k2 {g b c : Nat} {A : Option Addr} {L : List Tm} (W : World) (h : MulP W g 0 b A c L [(t1, 1)]) : Calls Try.prog 20 #[.pointer (some ⟨g, 0, none⟩), .agg #[.int .u32 tz.e, .int .i64 tz.d, .int .u32 tz.a, .int .u32 tz.b, .int .u32 tz.c]] W fun e w' => e = .returned (.int .i64 0) ∧ Below W.heap.size W w' := count_any tz iz g1 W h
theorem l1 {g b c : Nat} {A : Option Addr} {L : List Tm} (W : World) (h : MulP W g 0 b A c L [(t1, 1)]) : Calls Try.prog 35 #[.pointer (some ⟨g, 0, none⟩)] W fun e w' => ∃ B c', e = .returned (.slice B 1 c') ∧ Below W.heap.size W w' := by
  refine (all_any g1 (by decide) W h).mono ?_
  rintro e w' ⟨B, c', he, -, hb⟩
  exact ⟨B, c', he, hb⟩
theorem lt_cells {W : World} {p q : Nat} {t : Tm} (h : Lt W (some ⟨p, q, none⟩) [t]) : W.cell? ⟨p, q, none⟩ = some (.int .u32 t.e) ∧ W.cell? ⟨p, q + 1, none⟩ = some (.int .i64 t.d) ∧ W.cell? ⟨p, q + 2, none⟩ = some (.int .u32 t.a) ∧ W.cell? ⟨p, q + 3, none⟩ = some (.int .u32 t.b) ∧ W.cell? ⟨p, q + 4, none⟩ = some (.int .u32 t.c) := by
  obtain ⟨b, o, hA, -, h⟩ := h.at (k := 0) (t := t) rfl
  simp only [Option.some.injEq, Addr.mk.injEq, and_true] at hA
  obtain ⟨rfl, rfl⟩ := hA
  simpa using h
/-- Where the walk stands. -/
structure Sta (w W : World) (g b z c : Nat) (A : Option Addr) (L : List Tm) (M : List TN) : Prop where
  m : MulP W g 0 b A c L M
  zz : Whole W z 33 #[.int .u32 tz.e, .int .i64 tz.d, .int .u32 tz.a, .int .u32 tz.b, .int .u32 tz.c]
  oo : Whole W (z + 1) 33 #[.int .u32 t1.e, .int .i64 t1.d, .int .u32 t1.a, .int .u32 t1.b, .int .u32 t1.c]
  below : Below w.heap.size w W
  hg : w.heap.size ≤ g
  hb : w.heap.size ≤ b
  gz : g < z
  bz : b < z
section
variable {w W W' : World} {g b z c c' : Nat} {A B : Option Addr} {L F : List Tm} {M N : List TN}
theorem Sta.turned (h : Sta w W g b z c A L M) (m : MulP W' g 0 b B c' F N) {k : Nat} (hk : W.grownBy W' (some k)) (hw : w.heap.size ≤ k) (hz : k < z) : Sta w W' g b z c' B F N :=
  ⟨m, h.zz.grown hk (by simp; omega), h.oo.grown hk (by simp; omega), h.below.trans (add_below hk h.below.size hw), h.hg, h.hb, h.gz, h.bz⟩
theorem Sta.add (h : Sta w W g b z c A L M) (m : MulP W' g 0 b B c' F N) (hk : W.grownBy W' (some b)) : Sta w W' g b z c' B F N := h.turned m hk h.hb h.bz
theorem Sta.moves (h : Sta w W g b z c A L M) (m : MulP W' g 0 b B c' F N) (hk : W.grownBy W' (some g)) : Sta w W' g b z c' B F N := h.turned m hk h.hg h.gz
theorem Sta.later (h : Sta w W g b z c A L M) (hb : Below W.heap.size W W') : Sta w W' g b z c A L M :=
  ⟨h.m.below hb, h.zz.below hb h.zz.inside, h.oo.below hb h.oo.inside, h.below.trans (hb.mono h.below.size), h.hg, h.hb, h.gz, h.bz⟩
theorem Sta.rowA (h : Sta w W g b z c A L M) {D : Option Addr} {R : List Tm} (l : Lt W D R) (hk : W.grownBy W' (some b)) : Lt W' D R := lt_turned l hk fun h0 ad e => (far_of h.m.cells h.m.own l h0 ad e).1
theorem Sta.rowM (h : Sta w W g b z c A L M) {D : Option Addr} {R : List Tm} (l : Lt W D R) (hk : W.grownBy W' (some g)) : Lt W' D R := lt_turned l hk fun h0 ad e => (far_of h.m.cells h.m.own l h0 ad e).2
end
theorem add_deep {g b c : Nat} {d : Int} {A : Option Addr} {L : List Tm} {M : List TN} (t : Tm) (i : t.In) (n : Int) (hk : chk t = 0) (hd : t.d ≠ d) (w : World) (h : MulP w g d b A c L M) :
    Calls Try.prog 13 #[.pointer (some ⟨g, 0, none⟩), .agg #[.int .u32 t.e, .int .i64 t.d, .int .u32 t.a, .int .u32 t.b, .int .u32 t.c], .int .i64 n] w fun e w' => e = .returned (.int .i64 10) ∧ Below w.heap.size w w' := by
  have H := Lib.hid h
  clear h
  have hC := Lib.hid (check_any t i)
  rw [hk] at hC
  have hT := Lib.hid (Whole.fresh w 33 (#[.int .u32 t.e, .int .i64 t.d, .int .u32 t.a, .int .u32 t.b, .int .u32 t.c]))
  go_enter Try.func13, Try.ntmps13
  go_upto_region 4 with ((go_at_call 49; refine (hC.out _).mono ?_; rintro e w1 ⟨rfl, b1⟩; have hb1 := Lib.hid b1; have hB := Lib.hid (Below.trans (fresh1 w (.cells (#[.int .u32 t.e, .int .i64 t.d, .int .u32 t.a, .int .u32 t.b, .int .u32 t.c]) 33)) (b1.mono (fresh1 w _).size)); have hT1 := Lib.hid (hT.out.below b1 hT.out.inside); clear b1))
  have hH := Lib.hid (H.out.below hB.out)
  have t1 : w1.drew.cell? ⟨w.heap.size, 1, none⟩ = some (.int .i64 t.d) := hT1.out.read 1
  have u1 : w1.drew.frozen? ⟨w.heap.size, 1, none⟩ = false := hT1.out.soft 1
  have c0 : w1.drew.cell? ⟨g, 0, none⟩ = some (.int .i64 d) := hH.out.cells.read 0
  have f0 : w1.drew.frozen? ⟨g, 0, none⟩ = false := hH.out.cells.soft 0
  go_region
  go_wp2_with fail
  go_ret
  exact ⟨rfl, hB.out.drew⟩
theorem c4b {g b c : Nat} {A : Option Addr} {L : List Tm} {M : List TN} (W : World) (h : MulP W g 0 b A c L M) : Calls Try.prog 13 #[.pointer (some ⟨g, 0, none⟩), .agg #[.int .u32 tq.e, .int .i64 tq.d, .int .u32 tq.a, .int .u32 tq.b, .int .u32 tq.c], .int .i64 1] W fun e w' => e = .returned (.int .i64 10) ∧ Below W.heap.size W w' := add_deep tq iq 1 (by decide) (by decide) W h
end Go.Proofs.Ytpjlefdigpejdaa.multi
