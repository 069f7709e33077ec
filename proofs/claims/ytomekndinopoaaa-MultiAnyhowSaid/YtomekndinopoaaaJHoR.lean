/-
  The contracts of watershedref06.Holds and watershedref06.Same.
  The contracts of watershedref06.times and chain.checkTimes: what is wrong with times, one by one and together.
-/
import Derived.Test.YtomekndinopoaaaJLe
import Derived.Test.YtomekndinopoaaaJEqP
namespace Go.Proofs.Ytomekndinopoaaa.chain
open Go.ChangeShapes Go.WideShapes Go.ChangeAt Go.RowKit
open Go.Proofs.Ytomekndinopoaaa.tm Go.Proofs.Ytomekndinopoaaa.opened Go.Proofs.Ytomekndinopoaaa.block Go.Proofs.Ytomekndinopoaaa.stamp

/-- Does a list hold a time? -/
def holdsB (L : List Tm) (t : Tm) : Bool := L.any fun x => leB x t
theorem run_neT (s t : Tm) (w : World) : (binOp .neq 33 (.agg #[.int .u32 s.e, .int .i64 s.d, .int .u32 s.a, .int .u32 s.b, .int .u32 s.c]) (.agg #[.int .u32 t.e, .int .i64 t.d, .int .u32 t.a, .int .u32 t.b, .int .u32 t.c])).run Try.prog w = .ok (.bool (!eqT s t)) w := path.run_ne_agg (run_eqT s t w)
theorem take_same {L M : List Tm} {k : Nat} {x y : Tm} (hx : L[k]? = some x) (hy : M[k]? = some y) (h : L.take k = M.take k) (e : x = y) : L.take (k + 1) = M.take (k + 1) := by
  rw [List.take_add_one, List.take_add_one, hx, hy, h, e]
set_option maxRecDepth 100000 in
set_option maxHeartbeats 1000000 in
theorem same_any (A B : Option Addr) (c d : Nat) (L M : List Tm) (mL : L.length ≤ 4611686018427387903) (_mM : M.length ≤ 4611686018427387903) (w : World) (hL : Lt w A L) (hM : Lt w B M) :
    Calls Try.prog 14 #[.slice A L.length c, .slice B M.length d] w fun e w' => e = .returned (.bool (decide (L = M))) ∧ Below w.heap.size w w' := by
  by_cases hl : L.length = M.length
  · have HL := Lib.hid hL
    have HM := Lib.hid hM
    have e1 : ((L.length : Int) != (M.length : Int)) = false := by simp [hl]
    go_enter Try.func14, Try.ntmps14
    go_wp2_with fail
    go_loopw [5] (fun s wr => ∃ k : Nat, k ≤ L.length ∧ s = .int .i64 k ∧ L.take k = M.take k ∧ Below w.heap.size w wr) (fun s _ => L.length - (intOf s).toNat)
    case atStart => exact ⟨0, Nat.zero_le _, rfl, rfl, Below.refl _ _⟩
    case round =>
      obtain ⟨k, hk, rfl, hn, hb⟩ := hrel
      by_cases hlt : k < L.length
      · have hlt2 : k < M.length := by omega
        obtain ⟨x, hx, -⟩ := get_lt hlt
        obtain ⟨y, hy, -⟩ := get_lt hlt2
        obtain ⟨b1, o1, hA, hb1, c0, c1, c2, c3, c4⟩ := (HL.out.below hb).at hx
        obtain ⟨b2, o2, hB, hb2, d0, d1, d2, d3, d4⟩ := (HM.out.below hb).at hy
        subst hA hB
        have HX := Lib.hid hx
        have HY := Lib.hid hy
        have HN := Lib.hid hn
        clear hx hy hn
        have ne := run_neT x y
        obtain ⟨v, hv⟩ : ∃ v, eqT x y = v := ⟨_, rfl⟩
        rw [hv] at ne
        have HV := Lib.hid hv
        clear hv
        go_wp2_with fail
        have s0 : ∀ y : Since wr, y.1.cell? ⟨b1, o1 + k * 5, none⟩ = some (.int .u32 x.e) := fun y => (y.2.cell hb1).trans c0
        have s1 : ∀ y : Since wr, y.1.cell? ⟨b1, o1 + k * 5 + 1, none⟩ = some (.int .i64 x.d) := fun y => (y.2.cell hb1).trans c1
        have s2 : ∀ y : Since wr, y.1.cell? ⟨b1, o1 + k * 5 + 2, none⟩ = some (.int .u32 x.a) := fun y => (y.2.cell hb1).trans c2
        have s3 : ∀ y : Since wr, y.1.cell? ⟨b1, o1 + k * 5 + 3, none⟩ = some (.int .u32 x.b) := fun y => (y.2.cell hb1).trans c3
        have s4 : ∀ y : Since wr, y.1.cell? ⟨b1, o1 + k * 5 + 4, none⟩ = some (.int .u32 x.c) := fun y => (y.2.cell hb1).trans c4
        have t0 : ∀ z : Since wr, z.1.cell? ⟨b2, o2 + k * 5, none⟩ = some (.int .u32 y.e) := fun z => (z.2.cell hb2).trans d0
        have t1 : ∀ z : Since wr, z.1.cell? ⟨b2, o2 + k * 5 + 1, none⟩ = some (.int .i64 y.d) := fun z => (z.2.cell hb2).trans d1
        have t2 : ∀ z : Since wr, z.1.cell? ⟨b2, o2 + k * 5 + 2, none⟩ = some (.int .u32 y.a) := fun z => (z.2.cell hb2).trans d2
        have t3 : ∀ z : Since wr, z.1.cell? ⟨b2, o2 + k * 5 + 3, none⟩ = some (.int .u32 y.b) := fun z => (z.2.cell hb2).trans d3
        have t4 : ∀ z : Since wr, z.1.cell? ⟨b2, o2 + k * 5 + 4, none⟩ = some (.int .u32 y.c) := fun z => (z.2.cell hb2).trans d4
        clear c0 c1 c2 c3 c4 d0 d1 d2 d3 d4
        refine region_since wr (by kernel_rfl) (by kernel_rfl) (Below.refl _ _) ?_
        repeat (go_big_quiet_step (fail))
        refine wpQuiet_nil ?_
        rintro w4 ⟨z, hw⟩
        have B4 := hb.trans ((hw ▸ z.2 : Below wr.heap.size wr w4).mono hb.size)
        clear hw z s0 s1 s2 s3 s4 t0 t1 t2 t3 t4 hb ne
        cases v
        · go_wp2_with fail
          go_ret
          refine ⟨?_, B4⟩
          rw [decide_eq_false (p := L = M) (fun e => by
            have hx := HX.out
            rw [e, HY.out] at hx
            have := HV.out
            rw [Option.some.inj hx, eqT_self] at this
            cases this)]
          rfl
        · go_wp2_with fail
          go_roundw
          case rel => exact ⟨k + 1, by omega, by go_num, take_same HX.out HY.out HN.out (by simpa [eqT] using HV.out), B4⟩
          case measure => simp [intOf]; omega
      · have hkk : k = L.length := by omega
        have HN := Lib.hid hn
        clear hn
        go_wp2_with fail
        go_ret
        refine ⟨?_, hb⟩
        rw [decide_eq_true (p := L = M) (by
          have := HN.out
          rw [hkk, List.take_length, hl, List.take_length] at this
          exact this)]
        rfl
  · have e1 : ((L.length : Int) != (M.length : Int)) = true := by simp; omega
    go_enter Try.func14, Try.ntmps14
    go_wp2_with fail
    go_ret
    refine ⟨?_, Below.refl _ _⟩
    rw [decide_eq_false (p := L = M) (fun e => hl (by rw [e]))]
    rfl
end Go.Proofs.Ytomekndinopoaaa.chain
namespace Go.Proofs.Ytomekndinopoaaa.chain
open Go.ChangeShapes Go.WideShapes Go.ChangeAt Go.RowKit
open Go.Proofs.Ytomekndinopoaaa.tm Go.Proofs.Ytomekndinopoaaa.opened Go.Proofs.Ytomekndinopoaaa.block Go.Proofs.Ytomekndinopoaaa.stamp

/-- What is wrong with times, one by one, and together. -/
def timesE (L : List Tm) : Int := match L.find? (fun x => chk x != 0) with
  | some x => chk x
  | none => match L.find? (fun x => x.d != (L.headD T0).d) with
    | some _ => 10
    | none => 0
theorem split_at {L : List Tm} {k : Nat} {x : Tm} (h : L[k]? = some x) : L = L.take k ++ x :: L.drop (k + 1) := by
  obtain ⟨hk, rfl⟩ := List.getElem?_eq_some_iff.1 h
  rw [← List.drop_eq_getElem_cons hk, List.take_append_drop]
theorem times_bad {L : List Tm} {k : Nat} {x : Tm} (h : L[k]? = some x) (h0 : ∀ y ∈ L.take k, chk y = 0) (hx : chk x ≠ 0) : timesE L = chk x := by
  have hf : L.find? (fun x => chk x != 0) = some x := by
    rw [split_at h, List.find?_append, List.find?_eq_none.2 (fun y hy => by simp [h0 y hy])]
    simp [hx]
  unfold timesE
  rw [hf]
theorem no_bad {L : List Tm} (h0 : ∀ y ∈ L, chk y = 0) : L.find? (fun x => chk x != 0) = none := List.find?_eq_none.2 (fun y hy => by simp [h0 y hy])
theorem times_deep {L : List Tm} {k : Nat} {x : Tm} (h : L[k]? = some x) (h0 : ∀ y ∈ L, chk y = 0) (hx : x.d ≠ (L.headD T0).d) : timesE L = 10 := by
  unfold timesE
  rw [no_bad h0]
  cases hf : L.find? (fun x => x.d != (L.headD T0).d) with
  | some y => rfl
  | none =>
    have := List.find?_eq_none.1 hf x (List.mem_of_getElem? h)
    exact absurd hx (by simpa using this)
theorem times_ok {L : List Tm} (h0 : ∀ y ∈ L, chk y = 0) (hd : ∀ y ∈ L, y.d = (L.headD T0).d) : timesE L = 0 := by
  unfold timesE
  rw [no_bad h0, List.find?_eq_none.2 (fun y hy => by simp [hd y hy])]
theorem times_zero {L : List Tm} (h : timesE L = 0) : (∀ y ∈ L, chk y = 0) ∧ ∀ y ∈ L, y.d = (L.headD T0).d := by
  unfold timesE at h
  split at h
  · rename_i x hx
    have := List.find?_some hx
    simp [h] at this
  · rename_i hn
    have h0 := List.find?_eq_none.1 hn
    split at h
    · omega
    · rename_i hm
      have h1 := List.find?_eq_none.1 hm
      exact ⟨fun y hy => by simpa using h0 y hy, fun y hy => by simpa using h1 y hy⟩
theorem more {L : List Tm} {k : Nat} {x : Tm} {p : Tm → Prop} (h : L[k]? = some x) (h0 : ∀ y ∈ L.take k, p y) (hx : p x) : ∀ y ∈ L.take (k + 1), p y := by
  rw [List.take_add_one, h]
  intro y hy
  rcases List.mem_append.1 hy with hy | hy
  · exact h0 y hy
  · simp at hy
    subst hy
    exact hx
theorem head_of {L : List Tm} {h : Tm} (h0 : L[0]? = some h) : L.headD T0 = h := by
  cases L with
  | nil => simp at h0
  | cons a r => simpa using h0
set_option maxRecDepth 100000 in
set_option maxHeartbeats 2000000 in
theorem timesR_any (A : Option Addr) (c : Nat) (L : List Tm) (iL : InL L) (mL : L.length ≤ 4611686018427387903) (w : World) (hL : Lt w A L) :
    Calls Try.prog 88 #[.slice A L.length c] w fun e w' => e = .returned (.int .i64 (timesE L)) ∧ Below w.heap.size w w' := by
  have HL := Lib.hid hL
  go_enter Try.func88, Try.ntmps88
  go_wp2_with fail
  go_loopw [3] (fun s wr => ∃ k : Nat, k ≤ L.length ∧ s = .int .i64 k ∧ Hid (∀ y ∈ L.take k, chk y = 0) ∧ Below w.heap.size w wr) (fun s _ => L.length - (intOf s).toNat)
  case atStart => exact ⟨0, Nat.zero_le _, rfl, Lib.hid (by simp), Below.refl _ _⟩
  case round =>
    obtain ⟨k, hk, rfl, HN, hb0⟩ := hrel
    by_cases hlt : k < L.length
    · obtain ⟨x, hx, hm⟩ := get_lt hlt
      obtain ⟨b, off, hA, hb, c0, c1, c2, c3, c4⟩ := (HL.out.below hb0).at hx
      subst hA
      have HX := Lib.hid hx
      have K := Lib.hid (checkR_any x (iL x hm))
      clear hx hm
      obtain ⟨v, hv⟩ : ∃ v, chk x = v := ⟨_, rfl⟩
      rw [hv] at K
      have HV := Lib.hid hv
      clear hv
      go_wp2_with fail
      refine (K.out _).mono ?_
      rintro e w4 ⟨rfl, b4⟩
      have B4 : Below w.heap.size w w4 := hb0.trans (b4.mono hb0.size)
      clear b4 c0 c1 c2 c3 c4 hb hb0
      by_cases hz : v = 0
      · subst hz
        go_wp2_with fail
        go_roundw
        case rel => exact ⟨k + 1, by omega, by go_num, Lib.hid (more HX.out HN.out HV.out), B4⟩
        case measure => simp [intOf]; omega
      · have hk2 : (v != 0) = true := by simpa using hz
        have HZ := Lib.hid hz
        clear hz
        go_wp2_with fail
        go_ret
        exact ⟨by rw [times_bad HX.out HN.out (by rw [HV.out]; exact HZ.out), HV.out]; rfl, B4⟩
    · have hkk : k = L.length := by omega
      have H0 : Hid (∀ y ∈ L, chk y = 0) := Lib.hid (by have := HN.out; rwa [hkk, List.take_length] at this)
      clear HN hkk
      go_wp2_with fail
      go_loopw [5] (fun s wx => ∃ j : Nat, j ≤ L.length ∧ s = .int .i64 j ∧ Hid (∀ y ∈ L.take j, y.d = (L.headD T0).d) ∧ Below w.heap.size w wx) (fun s _ => L.length - (intOf s).toNat)
      case atStart => exact ⟨0, Nat.zero_le _, rfl, Lib.hid (by simp), hb0⟩
      case round =>
        clear hb0
        obtain ⟨j, hj, rfl, HD, hb1⟩ := hrel
        by_cases hlt2 : j < L.length
        · obtain ⟨x, hx, -⟩ := get_lt hlt2
          obtain ⟨y, hy, -⟩ := get_lt (L := L) (k := 0) (by omega)
          have hlp : 0 < L.length := by omega
          obtain ⟨b, off, hA, hb, c0, c1, c2, c3, c4⟩ := (HL.out.below hb1).at hx
          obtain ⟨b', off', hA', hb', d0, d1, d2, d3, d4⟩ := (HL.out.below hb1).at hy
          subst hA
          obtain ⟨rfl, rfl⟩ : b = b' ∧ off = off' := by
            have := Option.some.inj hA'
            injection this with h1 h2
            exact ⟨h1, h2⟩
          simp only [Nat.zero_mul, Nat.add_zero] at d0 d1 d2 d3 d4
          have HX := Lib.hid hx
          have HY := Lib.hid (head_of hy)
          clear hx hy hA' hb'
          have s1 : ∀ z : Since wr, z.1.cell? ⟨b, off + j * 5 + 1, none⟩ = some (.int .i64 x.d) := fun z => (z.2.cell hb).trans c1
          have t1 : ∀ z : Since wr, z.1.cell? ⟨b, off + 1, none⟩ = some (.int .i64 y.d) := fun z => (z.2.cell hb).trans d1
          go_wp2_with fail
          clear c0 c1 c2 c3 c4 d0 d1 d2 d3 d4
          by_cases hz : x.d = y.d
          · have hk2 : (x.d != y.d) = false := by simp [hz]
            have HZ := Lib.hid hz
            clear hz
            refine region_since wr (by kernel_rfl) (by kernel_rfl) (Below.refl _ _) ?_
            repeat (go_big_quiet_step (fail))
            refine wpQuiet_nil ?_
            rintro w4 ⟨z, hw⟩
            have B4 := hb1.trans ((hw ▸ z.2 : Below wr.heap.size wr w4).mono hb1.size)
            clear hw z s1 t1
            go_wp2_with fail
            go_roundw
            case rel => exact ⟨j + 1, by omega, by go_num, Lib.hid (more HX.out HD.out (by rw [HY.out]; exact HZ.out)), B4⟩
            case measure => simp [intOf]; omega
          · have hk2 : (x.d != y.d) = true := by simpa using hz
            have HZ := Lib.hid hz
            clear hz
            refine region_since wr (by kernel_rfl) (by kernel_rfl) (Below.refl _ _) ?_
            repeat (go_big_quiet_step (fail))
            refine wpQuiet_nil ?_
            rintro w4 ⟨z, hw⟩
            have B4 := hb1.trans ((hw ▸ z.2 : Below wr.heap.size wr w4).mono hb1.size)
            clear hw z s1 t1
            go_wp2_with fail
            go_ret
            exact ⟨by rw [times_deep HX.out H0.out (by rw [HY.out]; exact HZ.out)]; rfl, B4⟩
        · have hkk : j = L.length := by omega
          have H1 : Hid (∀ y ∈ L, y.d = (L.headD T0).d) := Lib.hid (by have := HD.out; rwa [hkk, List.take_length] at this)
          clear HD
          go_wp2_with fail
          go_ret
          exact ⟨by rw [times_ok H0.out H1.out]; rfl, hb1⟩
set_option maxRecDepth 100000 in
set_option maxHeartbeats 2000000 in
theorem checkTimes_any (A : Option Addr) (c : Nat) (L : List Tm) (iL : InL L) (mL : L.length ≤ 4611686018427387903) (w : World) (hL : Lt w A L) :
    Calls Try.prog 84 #[.slice A L.length c] w fun e w' => e = .returned (.int .i64 (timesE L)) ∧ Below w.heap.size w w' := by
  have HL := Lib.hid hL
  go_enter Try.func84, Try.ntmps84
  go_wp2_with fail
  go_loopw [10] (fun s wr => ∃ k : Nat, k ≤ L.length ∧ s = .int .i64 k ∧ Hid (∀ y ∈ L.take k, chk y = 0) ∧ Below w.heap.size w wr) (fun s _ => L.length - (intOf s).toNat)
  case atStart => exact ⟨0, Nat.zero_le _, rfl, Lib.hid (by simp), Below.refl _ _⟩
  case round =>
    obtain ⟨k, hk, rfl, HN, hb0⟩ := hrel
    by_cases hlt : k < L.length
    · obtain ⟨x, hx, hm⟩ := get_lt hlt
      obtain ⟨b, off, hA, hb, c0, c1, c2, c3, c4⟩ := (HL.out.below hb0).at hx
      subst hA
      have HX := Lib.hid hx
      have K := Lib.hid (check_any x (iL x hm))
      clear hx hm
      obtain ⟨v, hv⟩ : ∃ v, chk x = v := ⟨_, rfl⟩
      rw [hv] at K
      have HV := Lib.hid hv
      clear hv
      go_wp2_with fail
      refine (K.out _).mono ?_
      rintro e w4 ⟨rfl, b4⟩
      have B4 : Below w.heap.size w w4 := (hb0.alloc hb0.size _).trans (b4.mono (by have := hb0.size; simp; omega))
      clear b4 c0 c1 c2 c3 c4 hb hb0
      by_cases hz : v = 0
      · subst hz
        go_wp2_with fail
        go_roundw
        case rel => exact ⟨k + 1, by omega, by go_num, Lib.hid (more HX.out HN.out HV.out), B4⟩
        case measure => simp [intOf]; omega
      · have hk2 : (v != 0) = true := by simpa using hz
        have HZ := Lib.hid hz
        clear hz
        go_wp2_with fail
        go_ret
        exact ⟨by rw [times_bad HX.out HN.out (by rw [HV.out]; exact HZ.out), HV.out]; rfl, B4⟩
    · have hkk : k = L.length := by omega
      have H0 : Hid (∀ y ∈ L, chk y = 0) := Lib.hid (by have := HN.out; rwa [hkk, List.take_length] at this)
      clear HN hkk
      go_wp2_with fail
      go_loopw [22] (fun s wx => ∃ j : Nat, j ≤ L.length ∧ s = .int .i64 j ∧ Hid (∀ y ∈ L.take j, y.d = (L.headD T0).d) ∧ Below w.heap.size w wx) (fun s _ => L.length - (intOf s).toNat)
      case atStart => exact ⟨0, Nat.zero_le _, rfl, Lib.hid (by simp), hb0⟩
      case round =>
        clear hb0
        obtain ⟨j, hj, rfl, HD, hb1⟩ := hrel
        by_cases hlt2 : j < L.length
        · obtain ⟨x, hx, -⟩ := get_lt hlt2
          obtain ⟨y, hy, -⟩ := get_lt (L := L) (k := 0) (by omega)
          have hlp : 0 < L.length := by omega
          obtain ⟨b, off, hA, hb, c0, c1, c2, c3, c4⟩ := (HL.out.below hb1).at hx
          obtain ⟨b', off', hA', hb', d0, d1, d2, d3, d4⟩ := (HL.out.below hb1).at hy
          subst hA
          obtain ⟨rfl, rfl⟩ : b = b' ∧ off = off' := by
            have := Option.some.inj hA'
            injection this with h1 h2
            exact ⟨h1, h2⟩
          simp only [Nat.zero_mul, Nat.add_zero] at d0 d1 d2 d3 d4
          have HX := Lib.hid hx
          have HY := Lib.hid (head_of hy)
          clear hx hy hA' hb'
          go_upto_region 11 with fail
          have O := Whole.fresh wr 33 #[.int .u32 x.e, .int .i64 x.d, .int .u32 x.a, .int .u32 x.b, .int .u32 x.c]
          have hbW := hb1.alloc hb1.size (.cells #[.int .u32 x.e, .int .i64 x.d, .int .u32 x.a, .int .u32 x.b, .int .u32 x.c] 33)
          have e1 : (wr.alloc (.cells #[.int .u32 x.e, .int .i64 x.d, .int .u32 x.a, .int .u32 x.b, .int .u32 x.c] 33)).cell? ⟨b, off + 1, none⟩ = some (.int .i64 y.d) := (World.cell?_alloc_past _ b _ hb).trans d1
          have hbw : b < (wr.alloc (.cells #[.int .u32 x.e, .int .i64 x.d, .int .u32 x.a, .int .u32 x.b, .int .u32 x.c] 33)).heap.size := by simp; omega
          change Code.wp _ _ _ _ (wr.alloc (.cells #[.int .u32 x.e, .int .i64 x.d, .int .u32 x.a, .int .u32 x.b, .int .u32 x.c] 33))
          generalize wr.alloc (.cells #[.int .u32 x.e, .int .i64 x.d, .int .u32 x.a, .int .u32 x.b, .int .u32 x.c] 33) = W at O hbW e1 hbw ⊢
          generalize wr.heap.size = m at O ⊢
          have t1 : ∀ z : Since W, z.1.cell? ⟨b, off + 1, none⟩ = some (.int .i64 y.d) := fun z => (z.2.cell hbw).trans e1
          have s1 : ∀ (z : Since W) (i : Nat), z.1.cell? ⟨m, i, none⟩ = (#[.int .u32 x.e, .int .i64 x.d, .int .u32 x.a, .int .u32 x.b, .int .u32 x.c] : Array Value)[i]? := fun z i => (O.below z.2 O.inside).read i
          clear c0 c1 c2 c3 c4 d0 d1 d2 d3 d4
          by_cases hz : x.d = y.d
          · have hk2 : (x.d != y.d) = false := by simp [hz]
            have HZ := Lib.hid hz
            clear hz
            refine region_since W (by kernel_rfl) (by kernel_rfl) (Below.refl _ _) ?_
            repeat (go_big_quiet_step (fail))
            refine wpQuiet_nil ?_
            rintro w4 ⟨z, hw⟩
            have B4 := hbW.trans ((hw ▸ z.2 : Below W.heap.size W w4).mono hbW.size)
            clear hw z s1 t1
            go_wp2_with fail
            go_roundw
            case rel => exact ⟨j + 1, by omega, by go_num, Lib.hid (more HX.out HD.out (by rw [HY.out]; exact HZ.out)), B4⟩
            case measure => simp [intOf]; omega
          · have hk2 : (x.d != y.d) = true := by simpa using hz
            have HZ := Lib.hid hz
            clear hz
            refine region_since W (by kernel_rfl) (by kernel_rfl) (Below.refl _ _) ?_
            repeat (go_big_quiet_step (fail))
            refine wpQuiet_nil ?_
            rintro w4 ⟨z, hw⟩
            have B4 := hbW.trans ((hw ▸ z.2 : Below W.heap.size W w4).mono hbW.size)
            clear hw z s1 t1
            go_wp2_with fail
            go_ret
            exact ⟨by rw [times_deep HX.out H0.out (by rw [HY.out]; exact HZ.out)]; rfl, B4⟩
        · have hkk : j = L.length := by omega
          have H1 : Hid (∀ y ∈ L, y.d = (L.headD T0).d) := Lib.hid (by have := HD.out; rwa [hkk, List.take_length] at this)
          clear HD
          go_wp2_with fail
          go_ret
          exact ⟨by rw [times_ok H0.out H1.out]; rfl, hb1⟩
end Go.Proofs.Ytomekndinopoaaa.chain
