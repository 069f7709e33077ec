/-
  The contracts of watershedref06.Holds and watershedref06.Same.
-/
import Derived.Test.YtpjlefdigpejdaaRo
import Derived.Test.YtpjlefdigpejdaaNe
namespace Go.Proofs.Ytpjlefdigpejdaa.chain
open Go.ChangeShapes Go.WideShapes Go.ChangeAt Go.RowKit
open Go.Proofs.Ytpjlefdigpejdaa.tm Go.Proofs.Ytpjlefdigpejdaa.opened Go.Proofs.Ytpjlefdigpejdaa.block Go.Proofs.Ytpjlefdigpejdaa.stamp

/-- Does a list hold a time? -/
def holdsB (L : List Tm) (t : Tm) : Bool := L.any fun x => leB x t
theorem run_neT (s t : Tm) (w : World) : (binOp .neq 33 (.agg #[.int .u32 s.e, .int .i64 s.d, .int .u32 s.a, .int .u32 s.b, .int .u32 s.c]) (.agg #[.int .u32 t.e, .int .i64 t.d, .int .u32 t.a, .int .u32 t.b, .int .u32 t.c])).run Try.prog w = .ok (.bool (!eqT s t)) w := path.run_ne_agg (run_eqT s t w)
theorem take_same {L M : List Tm} {k : Nat} {x y : Tm} (hx : L[k]? = some x) (hy : M[k]? = some y) (h : L.take k = M.take k) (e : x = y) : L.take (k + 1) = M.take (k + 1) := by
  rw [List.take_add_one, List.take_add_one, hx, hy, h, e]
set_option maxRecDepth 100000 in
set_option maxHeartbeats 1000000 in
theorem same_any (A B : Option Addr) (c d : Nat) (L M : List Tm) (mL : L.length ≤ 4611686018427387903) (_mM : M.length ≤ 4611686018427387903) (w : World) (hL : Lt w A L) (hM : Lt w B M) :
    Calls Try.prog 17 #[.slice A L.length c, .slice B M.length d] w fun e w' => e = .returned (.bool (decide (L = M))) ∧ Below w.heap.size w w' := by
  by_cases hl : L.length = M.length
  · have HL := Lib.hid hL
    have HM := Lib.hid hM
    have e1 : ((L.length : Int) != (M.length : Int)) = false := by simp [hl]
    go_enter Try.func17, Try.ntmps17
    go_wp2_with fail
    go_loopw [5] (fun s wr => ∃ k : Nat, k ≤ L.length ∧ s = .int .i64 k ∧ L.take k = M.take k ∧ Below w.heap.size w wr) (fun s _ => L.length - (intOf s).toNat)
    case atStart => exact ⟨0, Nat.zero_le _, rfl, rfl, Below.refl _ _⟩
    case round =>
      obtain ⟨k, hk, rfl, hn, hb⟩ := hrel
      by_cases hlt : k < L.length
      · have hlt2 : k < M.length := by omega
        obtain ⟨x, hx, -⟩ := get_lt hlt
        obtain ⟨y, hy, -⟩ := get_lt hlt2
        obtain ⟨b1, o1, hA, hb1, c0, c1, c2, c3, c4⟩ := (HL.out.below hb).at hx
        obtain ⟨b2, o2, hB, hb2, d0, d1, d2, d3, d4⟩ := (HM.out.below hb).at hy
        subst hA hB
        have HX := Lib.hid hx
        have HY := Lib.hid hy
        have HN := Lib.hid hn
        clear hx hy hn
        have ne := run_neT x y
        obtain ⟨v, hv⟩ : ∃ v, eqT x y = v := ⟨_, rfl⟩
        rw [hv] at ne
        have HV := Lib.hid hv
        clear hv
        go_wp2_with fail
        have s0 : ∀ y : Since wr, y.1.cell? ⟨b1, o1 + k * 5, none⟩ = some (.int .u32 x.e) := fun y => (y.2.cell hb1).trans c0
        have s1 : ∀ y : Since wr, y.1.cell? ⟨b1, o1 + k * 5 + 1, none⟩ = some (.int .i64 x.d) := fun y => (y.2.cell hb1).trans c1
        have s2 : ∀ y : Since wr, y.1.cell? ⟨b1, o1 + k * 5 + 2, none⟩ = some (.int .u32 x.a) := fun y => (y.2.cell hb1).trans c2
        have s3 : ∀ y : Since wr, y.1.cell? ⟨b1, o1 + k * 5 + 3, none⟩ = some (.int .u32 x.b) := fun y => (y.2.cell hb1).trans c3
        have s4 : ∀ y : Since wr, y.1.cell? ⟨b1, o1 + k * 5 + 4, none⟩ = some (.int .u32 x.c) := fun y => (y.2.cell hb1).trans c4
        have t0 : ∀ z : Since wr, z.1.cell? ⟨b2, o2 + k * 5, none⟩ = some (.int .u32 y.e) := fun z => (z.2.cell hb2).trans d0
        have t1 : ∀ z : Since wr, z.1.cell? ⟨b2, o2 + k * 5 + 1, none⟩ = some (.int .i64 y.d) := fun z => (z.2.cell hb2).trans d1
        have t2 : ∀ z : Since wr, z.1.cell? ⟨b2, o2 + k * 5 + 2, none⟩ = some (.int .u32 y.a) := fun z => (z.2.cell hb2).trans d2
        have t3 : ∀ z : Since wr, z.1.cell? ⟨b2, o2 + k * 5 + 3, none⟩ = some (.int .u32 y.b) := fun z => (z.2.cell hb2).trans d3
        have t4 : ∀ z : Since wr, z.1.cell? ⟨b2, o2 + k * 5 + 4, none⟩ = some (.int .u32 y.c) := fun z => (z.2.cell hb2).trans d4
        clear c0 c1 c2 c3 c4 d0 d1 d2 d3 d4
        refine region_since wr (by kernel_rfl) (by kernel_rfl) (Below.refl _ _) ?_
        repeat (go_big_quiet_step (fail))
        refine wpQuiet_nil ?_
        rintro w4 ⟨z, hw⟩
        have B4 := hb.trans ((hw ▸ z.2 : Below wr.heap.size wr w4).mono hb.size)
        clear hw z s0 s1 s2 s3 s4 t0 t1 t2 t3 t4 hb ne
        cases v
        · go_wp2_with fail
          go_ret
          refine ⟨?_, B4⟩
          rw [decide_eq_false (p := L = M) (fun e => by
            have hx := HX.out
            rw [e, HY.out] at hx
            have := HV.out
            rw [Option.some.inj hx, eqT_self] at this
            cases this)]
          rfl
        · go_wp2_with fail
          go_roundw
          case rel => exact ⟨k + 1, by omega, by go_num, take_same HX.out HY.out HN.out (by simpa [eqT] using HV.out), B4⟩
          case measure => simp [intOf]; omega
      · have hkk : k = L.length := by omega
        have HN := Lib.hid hn
        clear hn
        go_wp2_with fail
        go_ret
        refine ⟨?_, hb⟩
        rw [decide_eq_true (p := L = M) (by
          have := HN.out
          rw [hkk, List.take_length, hl, List.take_length] at this
          exact this)]
        rfl
  · have e1 : ((L.length : Int) != (M.length : Int)) = true := by simp; omega
    go_enter Try.func17, Try.ntmps17
    go_wp2_with fail
    go_ret
    refine ⟨?_, Below.refl _ _⟩
    rw [decide_eq_false (p := L = M) (fun e => hl (by rw [e]))]
    rfl
end Go.Proofs.Ytpjlefdigpejdaa.chain
