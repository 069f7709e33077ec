/-
  Blocks that are known whole, as a walk wants them; a path and what is wrong, handed back.
  Slices of times, as the walks want them.
  The contracts of watershedref06.Holds and watershedref06.Same.
  The contracts of watershedref06.times and chain.checkTimes: what is wrong with times, one by one and together.
  Rows of times that are one's own.
  A slice of times that came in; calls over slices in a region that draws its order.
-/
import Derived.Test.YtmepiogoofmbbaaGreatDoorGB
import Derived.Test.YtmepiogoofmbbaaGreatDoorGC
import Derived.Test.YtmepiogoofmbbaaGreatDoorGA
import Derived.BigRegion
import Derived.Deep.QuietTactic
import Derived.BigQuiet
import Derived.Deep.Cut
import Derived.Deep.CutRange
import Derived.OwnWalk
import Derived.OwnWalkIn
import Derived.Maps.AppendAt
namespace Go.Proofs.YtmepiogoofmbbaaGreatDoor.path
open Go.ChangeShapes Go.WideShapes Go.ChangeAt Go.RowKit
open Go.Proofs.YtmepiogoofmbbaaGreatDoor.tm Go.Proofs.YtmepiogoofmbbaaGreatDoor.opened Go.Proofs.YtmepiogoofmbbaaGreatDoor.block Go.Proofs.YtmepiogoofmbbaaGreatDoor.stamp Go.Proofs.YtmepiogoofmbbaaGreatDoor.pa

theorem over1 {w w1 : World} {o : Obj} (b1 : Below (w.alloc o).heap.size (w.alloc o) w1) : Below w.heap.size w w1 := (fresh1 _ _).trans (b1.mono (by simp))
/-- What a block that is known whole holds, and that it may be written. -/
theorem all_of {w : World} {g : Nat} {t : TypeId} {cs : Array Value} (h : Whole w g t cs) : (∀ i, w.cell? ⟨g, i, none⟩ = cs[i]?) ∧ (∀ i, w.frozen? ⟨g, i, none⟩ = false) := ⟨h.read, h.soft⟩
/-- Behind a call, a block that was made ahead of it. -/
theorem res_of {w w1 : World} {t : TypeId} {cs : Array Value} (b : Below (w.alloc (.cells cs t)).heap.size (w.alloc (.cells cs t)) w1) : Whole w1 w.heap.size t cs ∧ Below w.heap.size w w1 ∧ w.heap.size < w1.heap.size :=
  ⟨(Whole.fresh w t cs).below b (by simp), (fresh1 _ _).trans (b.mono (by simp)), by have := b.size; simp at this; omega⟩
theorem ten {w : World} {g : Nat} {t : TypeId} {a b c d e f h i j k : Value} (hw : Whole w g t #[a, b, c, d, e, f, h, i, j, k]) (v0 v1 v2 v3 v4 v5 v6 v7 v8 v9 : Value) :
    Whole ((((((((((w.setCell ⟨g, 0, none⟩ v0).setCell ⟨g, 1, none⟩ v1).setCell ⟨g, 2, none⟩ v2).setCell ⟨g, 3, none⟩ v3).setCell ⟨g, 4, none⟩ v4).setCell ⟨g, 5, none⟩ v5).setCell ⟨g, 6, none⟩ v6).setCell ⟨g, 7, none⟩ v7).setCell ⟨g, 8, none⟩ v8).setCell ⟨g, 9, none⟩ v9) g t #[v0, v1, v2, v3, v4, v5, v6, v7, v8, v9] := by
  have h := (((((((((hw.store 0 v0).store 1 v1).store 2 v2).store 3 v3).store 4 v4).store 5 v5).store 6 v6).store 7 v7).store 8 v8).store 9 v9
  simpa using h
/-- A path and what is wrong, handed back. -/
def Gives (p : Pa) (x : Int) (w : World) (e : Ending) (w' : World) : Prop := e = .returned (.tuple #[.agg #[.int .i64 p.f, .int .i64 p.k, .int .u32 p.p0, .int .u32 p.p1, .int .u32 p.p2, .int .u32 p.p3, .int .i64 p.u, .int .u32 p.l0, .int .u32 p.l1, .int .u32 p.l2], .int .i64 x]) ∧ Below w.heap.size w w'
theorem gives {p q : Pa} {x y : Int} {w w' : World} (hb : Below w.heap.size w w') (h : q = p) (k : y = x) : Gives p x w (.returned (.tuple #[.agg #[.int .i64 q.f, .int .i64 q.k, .int .u32 q.p0, .int .u32 q.p1, .int .u32 q.p2, .int .u32 q.p3, .int .i64 q.u, .int .u32 q.l0, .int .u32 q.l1, .int .u32 q.l2], .int .i64 y])) w' := by rw [h, k]; exact ⟨rfl, hb⟩
theorem gives_at {p q : Pa} {x y : Int} {w w' : World} {g : Nat} (hg : Hid (w.heap.size = g)) (hb : Below g w w') (h : q = p) (k : y = x) : Gives p x w (.returned (.tuple #[.agg #[.int .i64 q.f, .int .i64 q.k, .int .u32 q.p0, .int .u32 q.p1, .int .u32 q.p2, .int .u32 q.p3, .int .i64 q.u, .int .u32 q.l0, .int .u32 q.l1, .int .u32 q.l2], .int .i64 y])) w' := gives (hg.out ▸ hb) h k
end Go.Proofs.YtmepiogoofmbbaaGreatDoor.path
namespace Go.Proofs.YtmepiogoofmbbaaGreatDoor.chain
open Go.ChangeShapes Go.WideShapes Go.ChangeAt Go.RowKit
open Go.Proofs.YtmepiogoofmbbaaGreatDoor.tm Go.Proofs.YtmepiogoofmbbaaGreatDoor.opened Go.Proofs.YtmepiogoofmbbaaGreatDoor.block Go.Proofs.YtmepiogoofmbbaaGreatDoor.stamp

/-- A time's cells. -/
def cT (t : Tm) : List Value := [.int .u32 t.e, .int .i64 t.d, .int .u32 t.a, .int .u32 t.b, .int .u32 t.c]
/-- At this place lie these times. -/
def Lt (w : World) (A : Option Addr) (L : List Tm) : Prop := LiesN w A 5 (L.map cT)
theorem Lt.nil (w : World) (A : Option Addr) : Lt w A [] := .inl rfl
theorem Lt.below {w w' : World} {A : Option Addr} {L : List Tm} (h : Lt w A L) (hb : Below w.heap.size w w') : Lt w' A L := by
  rcases h with h | ⟨b, off, hA, hbl, hc⟩
  · exact .inl h
  · exact .inr ⟨b, off, hA, Nat.lt_of_lt_of_le hbl hb.size, fun i x hx => ⟨(hc i x hx).1, fun j hj => (hb.cell (p := ⟨b, off + (i * 5 + j), none⟩) hbl).trans ((hc i x hx).2 j hj)⟩⟩
/-- The k-th of them: its cells. -/
theorem Lt.at {w : World} {A : Option Addr} {L : List Tm} (h : Lt w A L) {k : Nat} {t : Tm} (hk : L[k]? = some t) : ∃ b off, A = some ⟨b, off, none⟩ ∧ b < w.heap.size ∧
    w.cell? ⟨b, off + k * 5, none⟩ = some (.int .u32 t.e) ∧ w.cell? ⟨b, off + k * 5 + 1, none⟩ = some (.int .i64 t.d) ∧ w.cell? ⟨b, off + k * 5 + 2, none⟩ = some (.int .u32 t.a) ∧ w.cell? ⟨b, off + k * 5 + 3, none⟩ = some (.int .u32 t.b) ∧ w.cell? ⟨b, off + k * 5 + 4, none⟩ = some (.int .u32 t.c) := by
  rcases h with h | ⟨b, off, hA, hbl, hc⟩
  · have : L = [] := by simpa using h
    subst this
    simp at hk
  · obtain ⟨-, h2⟩ := hc k (cT t) (by rw [List.getElem?_map, hk]; rfl)
    exact ⟨b, off, hA, hbl, h2 0 (by omega), h2 1 (by omega), h2 2 (by omega), h2 3 (by omega), h2 4 (by omega)⟩
theorem get_lt {L : List Tm} {k : Nat} (h : k < L.length) : ∃ t, L[k]? = some t ∧ t ∈ L := ⟨L[k], List.getElem?_eq_getElem h, List.getElem_mem h⟩
/-- The times of a list are within their kinds. -/
def InL (L : List Tm) : Prop := ∀ t ∈ L, t.In
theorem take_any {L : List Tm} {k : Nat} {t : Tm} {p : Tm → Bool} (hk : L[k]? = some t) (h : (L.take k).any p = false) : (L.take (k + 1)).any p = p t := by
  rw [List.take_add_one, hk, List.any_append, h]
  simp
theorem any_at {L : List Tm} {k : Nat} {t : Tm} {p : Tm → Bool} (hk : L[k]? = some t) (h : p t = true) : L.any p = true := List.any_eq_true.2 ⟨t, List.mem_of_getElem? hk, h⟩
end Go.Proofs.YtmepiogoofmbbaaGreatDoor.chain
namespace Go.Proofs.YtmepiogoofmbbaaGreatDoor.chain
open Go.ChangeShapes Go.WideShapes Go.ChangeAt Go.RowKit
open Go.Proofs.YtmepiogoofmbbaaGreatDoor.tm Go.Proofs.YtmepiogoofmbbaaGreatDoor.opened Go.Proofs.YtmepiogoofmbbaaGreatDoor.block Go.Proofs.YtmepiogoofmbbaaGreatDoor.stamp

/-- Does a list hold a time? -/
def holdsB (L : List Tm) (t : Tm) : Bool := L.any fun x => leB x t
theorem run_neT (s t : Tm) (w : World) : (binOp .neq 49 (.agg #[.int .u32 s.e, .int .i64 s.d, .int .u32 s.a, .int .u32 s.b, .int .u32 s.c]) (.agg #[.int .u32 t.e, .int .i64 t.d, .int .u32 t.a, .int .u32 t.b, .int .u32 t.c])).run Tryz.prog w = .ok (.bool (!eqT s t)) w := path.run_ne_agg (run_eqT s t w)
theorem take_same {L M : List Tm} {k : Nat} {x y : Tm} (hx : L[k]? = some x) (hy : M[k]? = some y) (h : L.take k = M.take k) (e : x = y) : L.take (k + 1) = M.take (k + 1) := by
  rw [List.take_add_one, List.take_add_one, hx, hy, h, e]
set_option maxRecDepth 100000 in
set_option maxHeartbeats 1000000 in
theorem same_any (A B : Option Addr) (c d : Nat) (L M : List Tm) (mL : L.length ≤ 4611686018427387903) (_mM : M.length ≤ 4611686018427387903) (w : World) (hL : Lt w A L) (hM : Lt w B M) :
    Calls Tryz.prog 11 #[.slice A L.length c, .slice B M.length d] w fun e w' => e = .returned (.bool (decide (L = M))) ∧ Below w.heap.size w w' := by
  by_cases hl : L.length = M.length
  · have HL := Lib.hid hL
    have HM := Lib.hid hM
    have e1 : ((L.length : Int) != (M.length : Int)) = false := by simp [hl]
    go_enter Tryz.func11, Tryz.ntmps11
    go_wp2_with fail
    go_loopw [5] (fun s wr => ∃ k : Nat, k ≤ L.length ∧ s = .int .i64 k ∧ L.take k = M.take k ∧ Below w.heap.size w wr) (fun s _ => L.length - (intOf s).toNat)
    case atStart => exact ⟨0, Nat.zero_le _, rfl, rfl, Below.refl _ _⟩
    case round =>
      obtain ⟨k, hk, rfl, hn, hb⟩ := hrel
      by_cases hlt : k < L.length
      · have hlt2 : k < M.length := by omega
        obtain ⟨x, hx, -⟩ := get_lt hlt
        obtain ⟨y, hy, -⟩ := get_lt hlt2
        obtain ⟨b1, o1, hA, hb1, c0, c1, c2, c3, c4⟩ := (HL.out.below hb).at hx
        obtain ⟨b2, o2, hB, hb2, d0, d1, d2, d3, d4⟩ := (HM.out.below hb).at hy
        subst hA hB
        have HX := Lib.hid hx
        have HY := Lib.hid hy
        have HN := Lib.hid hn
        clear hx hy hn
        have ne := run_neT x y
        obtain ⟨v, hv⟩ : ∃ v, eqT x y = v := ⟨_, rfl⟩
        rw [hv] at ne
        have HV := Lib.hid hv
        clear hv
        go_wp2_with fail
        have s0 : ∀ y : Since wr, y.1.cell? ⟨b1, o1 + k * 5, none⟩ = some (.int .u32 x.e) := fun y => (y.2.cell hb1).trans c0
        have s1 : ∀ y : Since wr, y.1.cell? ⟨b1, o1 + k * 5 + 1, none⟩ = some (.int .i64 x.d) := fun y => (y.2.cell hb1).trans c1
        have s2 : ∀ y : Since wr, y.1.cell? ⟨b1, o1 + k * 5 + 2, none⟩ = some (.int .u32 x.a) := fun y => (y.2.cell hb1).trans c2
        have s3 : ∀ y : Since wr, y.1.cell? ⟨b1, o1 + k * 5 + 3, none⟩ = some (.int .u32 x.b) := fun y => (y.2.cell hb1).trans c3
        have s4 : ∀ y : Since wr, y.1.cell? ⟨b1, o1 + k * 5 + 4, none⟩ = some (.int .u32 x.c) := fun y => (y.2.cell hb1).trans c4
        have t0 : ∀ z : Since wr, z.1.cell? ⟨b2, o2 + k * 5, none⟩ = some (.int .u32 y.e) := fun z => (z.2.cell hb2).trans d0
        have t1 : ∀ z : Since wr, z.1.cell? ⟨b2, o2 + k * 5 + 1, none⟩ = some (.int .i64 y.d) := fun z => (z.2.cell hb2).trans d1
        have t2 : ∀ z : Since wr, z.1.cell? ⟨b2, o2 + k * 5 + 2, none⟩ = some (.int .u32 y.a) := fun z => (z.2.cell hb2).trans d2
        have t3 : ∀ z : Since wr, z.1.cell? ⟨b2, o2 + k * 5 + 3, none⟩ = some (.int .u32 y.b) := fun z => (z.2.cell hb2).trans d3
        have t4 : ∀ z : Since wr, z.1.cell? ⟨b2, o2 + k * 5 + 4, none⟩ = some (.int .u32 y.c) := fun z => (z.2.cell hb2).trans d4
        clear c0 c1 c2 c3 c4 d0 d1 d2 d3 d4
        refine region_since wr (by kernel_rfl) (by kernel_rfl) (Below.refl _ _) ?_
        repeat (go_big_quiet_step (fail))
        refine wpQuiet_nil ?_
        rintro w4 ⟨z, hw⟩
        have B4 := hb.trans ((hw ▸ z.2 : Below wr.heap.size wr w4).mono hb.size)
        clear hw z s0 s1 s2 s3 s4 t0 t1 t2 t3 t4 hb ne
        cases v
        · go_wp2_with fail
          go_ret
          refine ⟨?_, B4⟩
          rw [decide_eq_false (p := L = M) (fun e => by
            have hx := HX.out
            rw [e, HY.out] at hx
            have := HV.out
            rw [Option.some.inj hx, eqT_self] at this
            cases this)]
          rfl
        · go_wp2_with fail
          go_roundw
          case rel => exact ⟨k + 1, by omega, by go_num, take_same HX.out HY.out HN.out (by simpa [eqT] using HV.out), B4⟩
          case measure => simp [intOf]; omega
      · have hkk : k = L.length := by omega
        have HN := Lib.hid hn
        clear hn
        go_wp2_with fail
        go_ret
        refine ⟨?_, hb⟩
        rw [decide_eq_true (p := L = M) (by
          have := HN.out
          rw [hkk, List.take_length, hl, List.take_length] at this
          exact this)]
        rfl
  · have e1 : ((L.length : Int) != (M.length : Int)) = true := by simp; omega
    go_enter Tryz.func11, Tryz.ntmps11
    go_wp2_with fail
    go_ret
    refine ⟨?_, Below.refl _ _⟩
    rw [decide_eq_false (p := L = M) (fun e => hl (by rw [e]))]
    rfl
end Go.Proofs.YtmepiogoofmbbaaGreatDoor.chain
namespace Go.Proofs.YtmepiogoofmbbaaGreatDoor.chain
open Go.ChangeShapes Go.WideShapes Go.ChangeAt Go.RowKit
open Go.Proofs.YtmepiogoofmbbaaGreatDoor.tm Go.Proofs.YtmepiogoofmbbaaGreatDoor.opened Go.Proofs.YtmepiogoofmbbaaGreatDoor.block Go.Proofs.YtmepiogoofmbbaaGreatDoor.stamp

/-- What is wrong with times, one by one, and together. -/
def timesE (L : List Tm) : Int := match L.find? (fun x => chk x != 0) with
  | some x => chk x
  | none => match L.find? (fun x => x.d != (L.headD T0).d) with
    | some _ => 10
    | none => 0
theorem split_at {L : List Tm} {k : Nat} {x : Tm} (h : L[k]? = some x) : L = L.take k ++ x :: L.drop (k + 1) := by
  obtain ⟨hk, rfl⟩ := List.getElem?_eq_some_iff.1 h
  rw [← List.drop_eq_getElem_cons hk, List.take_append_drop]
theorem times_bad {L : List Tm} {k : Nat} {x : Tm} (h : L[k]? = some x) (h0 : ∀ y ∈ L.take k, chk y = 0) (hx : chk x ≠ 0) : timesE L = chk x := by
  have hf : L.find? (fun x => chk x != 0) = some x := by
    rw [split_at h, List.find?_append, List.find?_eq_none.2 (fun y hy => by simp [h0 y hy])]
    simp [hx]
  unfold timesE
  rw [hf]
theorem no_bad {L : List Tm} (h0 : ∀ y ∈ L, chk y = 0) : L.find? (fun x => chk x != 0) = none := List.find?_eq_none.2 (fun y hy => by simp [h0 y hy])
theorem times_deep {L : List Tm} {k : Nat} {x : Tm} (h : L[k]? = some x) (h0 : ∀ y ∈ L, chk y = 0) (hx : x.d ≠ (L.headD T0).d) : timesE L = 10 := by
  unfold timesE
  rw [no_bad h0]
  cases hf : L.find? (fun x => x.d != (L.headD T0).d) with
  | some y => rfl
  | none =>
    have := List.find?_eq_none.1 hf x (List.mem_of_getElem? h)
    exact absurd hx (by simpa using this)
theorem times_ok {L : List Tm} (h0 : ∀ y ∈ L, chk y = 0) (hd : ∀ y ∈ L, y.d = (L.headD T0).d) : timesE L = 0 := by
  unfold timesE
  rw [no_bad h0, List.find?_eq_none.2 (fun y hy => by simp [hd y hy])]
theorem times_zero {L : List Tm} (h : timesE L = 0) : (∀ y ∈ L, chk y = 0) ∧ ∀ y ∈ L, y.d = (L.headD T0).d := by
  unfold timesE at h
  split at h
  · rename_i x hx
    have := List.find?_some hx
    simp [h] at this
  · rename_i hn
    have h0 := List.find?_eq_none.1 hn
    split at h
    · omega
    · rename_i hm
      have h1 := List.find?_eq_none.1 hm
      exact ⟨fun y hy => by simpa using h0 y hy, fun y hy => by simpa using h1 y hy⟩
theorem more {L : List Tm} {k : Nat} {x : Tm} {p : Tm → Prop} (h : L[k]? = some x) (h0 : ∀ y ∈ L.take k, p y) (hx : p x) : ∀ y ∈ L.take (k + 1), p y := by
  rw [List.take_add_one, h]
  intro y hy
  rcases List.mem_append.1 hy with hy | hy
  · exact h0 y hy
  · simp at hy
    subst hy
    exact hx
theorem head_of {L : List Tm} {h : Tm} (h0 : L[0]? = some h) : L.headD T0 = h := by
  cases L with
  | nil => simp at h0
  | cons a r => simpa using h0
set_option maxRecDepth 100000 in
set_option maxHeartbeats 2000000 in
theorem timesR_any (A : Option Addr) (c : Nat) (L : List Tm) (iL : InL L) (mL : L.length ≤ 4611686018427387903) (w : World) (hL : Lt w A L) :
    Calls Tryz.prog 39 #[.slice A L.length c] w fun e w' => e = .returned (.int .i64 (timesE L)) ∧ Below w.heap.size w w' := by
  have HL := Lib.hid hL
  go_enter Tryz.func39, Tryz.ntmps39
  go_wp2_with fail
  go_loopw [3] (fun s wr => ∃ k : Nat, k ≤ L.length ∧ s = .int .i64 k ∧ Hid (∀ y ∈ L.take k, chk y = 0) ∧ Below w.heap.size w wr) (fun s _ => L.length - (intOf s).toNat)
  case atStart => exact ⟨0, Nat.zero_le _, rfl, Lib.hid (by simp), Below.refl _ _⟩
  case round =>
    obtain ⟨k, hk, rfl, HN, hb0⟩ := hrel
    by_cases hlt : k < L.length
    · obtain ⟨x, hx, hm⟩ := get_lt hlt
      obtain ⟨b, off, hA, hb, c0, c1, c2, c3, c4⟩ := (HL.out.below hb0).at hx
      subst hA
      have HX := Lib.hid hx
      have K := Lib.hid (checkR_any x (iL x hm))
      clear hx hm
      obtain ⟨v, hv⟩ : ∃ v, chk x = v := ⟨_, rfl⟩
      rw [hv] at K
      have HV := Lib.hid hv
      clear hv
      go_wp2_with fail
      refine (K.out _).mono ?_
      rintro e w4 ⟨rfl, b4⟩
      have B4 : Below w.heap.size w w4 := hb0.trans (b4.mono hb0.size)
      clear b4 c0 c1 c2 c3 c4 hb hb0
      by_cases hz : v = 0
      · subst hz
        go_wp2_with fail
        go_roundw
        case rel => exact ⟨k + 1, by omega, by go_num, Lib.hid (more HX.out HN.out HV.out), B4⟩
        case measure => simp [intOf]; omega
      · have hk2 : (v != 0) = true := by simpa using hz
        have HZ := Lib.hid hz
        clear hz
        go_wp2_with fail
        go_ret
        exact ⟨by rw [times_bad HX.out HN.out (by rw [HV.out]; exact HZ.out), HV.out]; rfl, B4⟩
    · have hkk : k = L.length := by omega
      have H0 : Hid (∀ y ∈ L, chk y = 0) := Lib.hid (by have := HN.out; rwa [hkk, List.take_length] at this)
      clear HN hkk
      go_wp2_with fail
      go_loopw [5] (fun s wx => ∃ j : Nat, j ≤ L.length ∧ s = .int .i64 j ∧ Hid (∀ y ∈ L.take j, y.d = (L.headD T0).d) ∧ Below w.heap.size w wx) (fun s _ => L.length - (intOf s).toNat)
      case atStart => exact ⟨0, Nat.zero_le _, rfl, Lib.hid (by simp), hb0⟩
      case round =>
        clear hb0
        obtain ⟨j, hj, rfl, HD, hb1⟩ := hrel
        by_cases hlt2 : j < L.length
        · obtain ⟨x, hx, -⟩ := get_lt hlt2
          obtain ⟨y, hy, -⟩ := get_lt (L := L) (k := 0) (by omega)
          have hlp : 0 < L.length := by omega
          obtain ⟨b, off, hA, hb, c0, c1, c2, c3, c4⟩ := (HL.out.below hb1).at hx
          obtain ⟨b', off', hA', hb', d0, d1, d2, d3, d4⟩ := (HL.out.below hb1).at hy
          subst hA
          obtain ⟨rfl, rfl⟩ : b = b' ∧ off = off' := by
            have := Option.some.inj hA'
            injection this with h1 h2
            exact ⟨h1, h2⟩
          simp only [Nat.zero_mul, Nat.add_zero] at d0 d1 d2 d3 d4
          have HX := Lib.hid hx
          have HY := Lib.hid (head_of hy)
          clear hx hy hA' hb'
          have s1 : ∀ z : Since wr, z.1.cell? ⟨b, off + j * 5 + 1, none⟩ = some (.int .i64 x.d) := fun z => (z.2.cell hb).trans c1
          have t1 : ∀ z : Since wr, z.1.cell? ⟨b, off + 1, none⟩ = some (.int .i64 y.d) := fun z => (z.2.cell hb).trans d1
          go_wp2_with fail
          clear c0 c1 c2 c3 c4 d0 d1 d2 d3 d4
          by_cases hz : x.d = y.d
          · have hk2 : (x.d != y.d) = false := by simp [hz]
            have HZ := Lib.hid hz
            clear hz
            refine region_since wr (by kernel_rfl) (by kernel_rfl) (Below.refl _ _) ?_
            repeat (go_big_quiet_step (fail))
            refine wpQuiet_nil ?_
            rintro w4 ⟨z, hw⟩
            have B4 := hb1.trans ((hw ▸ z.2 : Below wr.heap.size wr w4).mono hb1.size)
            clear hw z s1 t1
            go_wp2_with fail
            go_roundw
            case rel => exact ⟨j + 1, by omega, by go_num, Lib.hid (more HX.out HD.out (by rw [HY.out]; exact HZ.out)), B4⟩
            case measure => simp [intOf]; omega
          · have hk2 : (x.d != y.d) = true := by simpa using hz
            have HZ := Lib.hid hz
            clear hz
            refine region_since wr (by kernel_rfl) (by kernel_rfl) (Below.refl _ _) ?_
            repeat (go_big_quiet_step (fail))
            refine wpQuiet_nil ?_
            rintro w4 ⟨z, hw⟩
            have B4 := hb1.trans ((hw ▸ z.2 : Below wr.heap.size wr w4).mono hb1.size)
            clear hw z s1 t1
            go_wp2_with fail
            go_ret
            exact ⟨by rw [times_deep HX.out H0.out (by rw [HY.out]; exact HZ.out)]; rfl, B4⟩
        · have hkk : j = L.length := by omega
          have H1 : Hid (∀ y ∈ L, y.d = (L.headD T0).d) := Lib.hid (by have := HD.out; rwa [hkk, List.take_length] at this)
          clear HD
          go_wp2_with fail
          go_ret
          exact ⟨by rw [times_ok H0.out H1.out]; rfl, hb1⟩
set_option maxRecDepth 100000 in
set_option maxHeartbeats 2000000 in
theorem checkTimes_any (A : Option Addr) (c : Nat) (L : List Tm) (iL : InL L) (mL : L.length ≤ 4611686018427387903) (w : World) (hL : Lt w A L) :
    Calls Tryz.prog 55 #[.slice A L.length c] w fun e w' => e = .returned (.int .i64 (timesE L)) ∧ Below w.heap.size w w' := by
  have HL := Lib.hid hL
  go_enter Tryz.func55, Tryz.ntmps55
  go_wp2_with fail
  go_loopw [10] (fun s wr => ∃ k : Nat, k ≤ L.length ∧ s = .int .i64 k ∧ Hid (∀ y ∈ L.take k, chk y = 0) ∧ Below w.heap.size w wr) (fun s _ => L.length - (intOf s).toNat)
  case atStart => exact ⟨0, Nat.zero_le _, rfl, Lib.hid (by simp), Below.refl _ _⟩
  case round =>
    obtain ⟨k, hk, rfl, HN, hb0⟩ := hrel
    by_cases hlt : k < L.length
    · obtain ⟨x, hx, hm⟩ := get_lt hlt
      obtain ⟨b, off, hA, hb, c0, c1, c2, c3, c4⟩ := (HL.out.below hb0).at hx
      subst hA
      have HX := Lib.hid hx
      have K := Lib.hid (check_any x (iL x hm))
      clear hx hm
      obtain ⟨v, hv⟩ : ∃ v, chk x = v := ⟨_, rfl⟩
      rw [hv] at K
      have HV := Lib.hid hv
      clear hv
      go_wp2_with fail
      refine (K.out _).mono ?_
      rintro e w4 ⟨rfl, b4⟩
      have B4 : Below w.heap.size w w4 := (hb0.alloc hb0.size _).trans (b4.mono (by have := hb0.size; simp; omega))
      clear b4 c0 c1 c2 c3 c4 hb hb0
      by_cases hz : v = 0
      · subst hz
        go_wp2_with fail
        go_roundw
        case rel => exact ⟨k + 1, by omega, by go_num, Lib.hid (more HX.out HN.out HV.out), B4⟩
        case measure => simp [intOf]; omega
      · have hk2 : (v != 0) = true := by simpa using hz
        have HZ := Lib.hid hz
        clear hz
        go_wp2_with fail
        go_ret
        exact ⟨by rw [times_bad HX.out HN.out (by rw [HV.out]; exact HZ.out), HV.out]; rfl, B4⟩
    · have hkk : k = L.length := by omega
      have H0 : Hid (∀ y ∈ L, chk y = 0) := Lib.hid (by have := HN.out; rwa [hkk, List.take_length] at this)
      clear HN hkk
      go_wp2_with fail
      go_loopw [22] (fun s wx => ∃ j : Nat, j ≤ L.length ∧ s = .int .i64 j ∧ Hid (∀ y ∈ L.take j, y.d = (L.headD T0).d) ∧ Below w.heap.size w wx) (fun s _ => L.length - (intOf s).toNat)
      case atStart => exact ⟨0, Nat.zero_le _, rfl, Lib.hid (by simp), hb0⟩
      case round =>
        clear hb0
        obtain ⟨j, hj, rfl, HD, hb1⟩ := hrel
        by_cases hlt2 : j < L.length
        · obtain ⟨x, hx, -⟩ := get_lt hlt2
          obtain ⟨y, hy, -⟩ := get_lt (L := L) (k := 0) (by omega)
          have hlp : 0 < L.length := by omega
          obtain ⟨b, off, hA, hb, c0, c1, c2, c3, c4⟩ := (HL.out.below hb1).at hx
          obtain ⟨b', off', hA', hb', d0, d1, d2, d3, d4⟩ := (HL.out.below hb1).at hy
          subst hA
          obtain ⟨rfl, rfl⟩ : b = b' ∧ off = off' := by
            have := Option.some.inj hA'
            injection this with h1 h2
            exact ⟨h1, h2⟩
          simp only [Nat.zero_mul, Nat.add_zero] at d0 d1 d2 d3 d4
          have HX := Lib.hid hx
          have HY := Lib.hid (head_of hy)
          clear hx hy hA' hb'
          go_upto_region 11 with fail
          have O := Whole.fresh wr 49 #[.int .u32 x.e, .int .i64 x.d, .int .u32 x.a, .int .u32 x.b, .int .u32 x.c]
          have hbW := hb1.alloc hb1.size (.cells #[.int .u32 x.e, .int .i64 x.d, .int .u32 x.a, .int .u32 x.b, .int .u32 x.c] 49)
          have e1 : (wr.alloc (.cells #[.int .u32 x.e, .int .i64 x.d, .int .u32 x.a, .int .u32 x.b, .int .u32 x.c] 49)).cell? ⟨b, off + 1, none⟩ = some (.int .i64 y.d) := (World.cell?_alloc_past _ b _ hb).trans d1
          have hbw : b < (wr.alloc (.cells #[.int .u32 x.e, .int .i64 x.d, .int .u32 x.a, .int .u32 x.b, .int .u32 x.c] 49)).heap.size := by simp; omega
          change Code.wp _ _ _ _ (wr.alloc (.cells #[.int .u32 x.e, .int .i64 x.d, .int .u32 x.a, .int .u32 x.b, .int .u32 x.c] 49))
          generalize wr.alloc (.cells #[.int .u32 x.e, .int .i64 x.d, .int .u32 x.a, .int .u32 x.b, .int .u32 x.c] 49) = W at O hbW e1 hbw ⊢
          generalize wr.heap.size = m at O ⊢
          have t1 : ∀ z : Since W, z.1.cell? ⟨b, off + 1, none⟩ = some (.int .i64 y.d) := fun z => (z.2.cell hbw).trans e1
          have s1 : ∀ (z : Since W) (i : Nat), z.1.cell? ⟨m, i, none⟩ = (#[.int .u32 x.e, .int .i64 x.d, .int .u32 x.a, .int .u32 x.b, .int .u32 x.c] : Array Value)[i]? := fun z i => (O.below z.2 O.inside).read i
          clear c0 c1 c2 c3 c4 d0 d1 d2 d3 d4
          by_cases hz : x.d = y.d
          · have hk2 : (x.d != y.d) = false := by simp [hz]
            have HZ := Lib.hid hz
            clear hz
            refine region_since W (by kernel_rfl) (by kernel_rfl) (Below.refl _ _) ?_
            repeat (go_big_quiet_step (fail))
            refine wpQuiet_nil ?_
            rintro w4 ⟨z, hw⟩
            have B4 := hbW.trans ((hw ▸ z.2 : Below W.heap.size W w4).mono hbW.size)
            clear hw z s1 t1
            go_wp2_with fail
            go_roundw
            case rel => exact ⟨j + 1, by omega, by go_num, Lib.hid (more HX.out HD.out (by rw [HY.out]; exact HZ.out)), B4⟩
            case measure => simp [intOf]; omega
          · have hk2 : (x.d != y.d) = true := by simpa using hz
            have HZ := Lib.hid hz
            clear hz
            refine region_since W (by kernel_rfl) (by kernel_rfl) (Below.refl _ _) ?_
            repeat (go_big_quiet_step (fail))
            refine wpQuiet_nil ?_
            rintro w4 ⟨z, hw⟩
            have B4 := hbW.trans ((hw ▸ z.2 : Below W.heap.size W w4).mono hbW.size)
            clear hw z s1 t1
            go_wp2_with fail
            go_ret
            exact ⟨by rw [times_deep HX.out H0.out (by rw [HY.out]; exact HZ.out)]; rfl, B4⟩
        · have hkk : j = L.length := by omega
          have H1 : Hid (∀ y ∈ L, y.d = (L.headD T0).d) := Lib.hid (by have := HD.out; rwa [hkk, List.take_length] at this)
          clear HD
          go_wp2_with fail
          go_ret
          exact ⟨by rw [times_ok H0.out H1.out]; rfl, hb1⟩
end Go.Proofs.YtmepiogoofmbbaaGreatDoor.chain
namespace Go.Proofs.YtmepiogoofmbbaaGreatDoor.chain
open Go.ChangeShapes Go.WideShapes Go.ChangeAt Go.RowKit
open Go.Proofs.YtmepiogoofmbbaaGreatDoor.tm Go.Proofs.YtmepiogoofmbbaaGreatDoor.opened Go.Proofs.YtmepiogoofmbbaaGreatDoor.block Go.Proofs.YtmepiogoofmbbaaGreatDoor.stamp

theorem heap_new (w : World) (o : Obj) : (w.alloc o).heap[w.heap.size]? = some o := by
  show (w.heap.push o)[w.heap.size]? = some o
  simp
theorem cells_new (w : World) (xs : List Value) (t : TypeId) : ∀ j u, xs[j]? = some u → (w.alloc (.cells xs.toArray t)).cell? ((⟨w.heap.size, 0, none⟩ : Addr).add j) = some u := by
  intro j u hj
  have hh : (w.alloc (.cells xs.toArray t)).heap[w.heap.size]? = some (.cells xs.toArray t (0, 0)) := heap_new w _
  generalize w.alloc (.cells xs.toArray t) = W at hh ⊢
  generalize w.heap.size = g at hh ⊢
  cases j with
  | zero => simp only [World.cell?, Addr.add, ↓reduceIte, hh]; simpa using hj
  | succ j => simp [World.cell?, Addr.add, hh, hj]
theorem infoT : (Tryz.prog.info? 49).map (fun i => (i.zero, i.size, i.bytes)) = some (some (.agg #[.int .u32 T0.e, .int .i64 T0.d, .int .u32 T0.a, .int .u32 T0.b, .int .u32 T0.c]), 5, 32) := by kernel_rfl
theorem flat_at (N : List Tm) : ∀ (i : Nat) (y : Tm) (j : Nat), N[i]? = some y → j < 5 → (N.flatMap cT)[i * 5 + j]? = (cT y)[j]? := by
  induction N with
  | nil => intro i y j h; simp at h
  | cons x r ih =>
    intro i y j h hj
    have h5 : (cT x).length = 5 := rfl
    rw [List.flatMap_cons]
    cases i with
    | zero =>
      simp at h
      subst h
      rw [List.getElem?_append_left (by rw [h5]; omega)]
      simp
    | succ i =>
      rw [List.getElem?_append_right (by rw [h5]; omega), h5, show (i + 1) * 5 + j - 5 = i * 5 + j by omega]
      exact ih i y j (by simpa using h) hj
/-- A slice of times that is one's own. -/
abbrev OwnT (w : World) (base : Nat) (v : Value) (N : List Tm) : Prop := w.ownsRow base 49 5 v N.length (N.flatMap cT)
theorem OwnT.lies {w : World} {base : Nat} {A : Option Addr} {n c : Nat} {N : List Tm} (h : OwnT w base (.slice A n c) N) : Lt w A N := by
  rcases h.2 with ⟨-, hn⟩ | ⟨g, cap, cur, hv, hb, hg, hc, hcm, hs, ht⟩
  · rw [List.eq_nil_of_length_eq_zero hn]; exact Lt.nil _ _
  · injection hv with h1 h2 h3
    subst h1
    refine .inr ⟨g, 0, rfl, (Array.getElem?_eq_some_iff.1 hg).1, fun i x hx => ?_⟩
    rw [List.getElem?_map, Option.map_eq_some_iff] at hx
    obtain ⟨y, hy, rfl⟩ := hx
    refine ⟨rfl, fun j hj => ?_⟩
    have e := flat_at N i y j hy hj
    have hi := (List.getElem?_eq_some_iff.1 hy).1
    rw [← ht, List.getElem?_take, if_pos (by omega), Array.getElem?_toList] at e
    rw [← e]
    simp [World.cell?, hg]
theorem OwnT.below {w w' : World} {base : Nat} {v : Value} {N : List Tm} (h : OwnT w base v N) (hb : Below w.heap.size w w') : OwnT w' base v N := by
  refine ⟨h.1, ?_⟩
  rcases h.2 with hn | ⟨g, cap, cur, hv, hg0, hg, rest⟩
  · exact .inl hn
  · exact .inr ⟨g, cap, cur, hv, hg0, (hb.block g (Array.getElem?_eq_some_iff.1 hg).1).trans hg, rest⟩
theorem OwnT.grown {W w1 : World} {base : Nat} {v : Value} {N : List Tm} {tmp : Obj} (h : OwnT W base v N) (hb0 : base ≤ W.heap.size) (hg : (W.alloc tmp).grownBy w1 v.ownBlock) : Below base W w1 :=
  ((Below.refl base W).alloc hb0 tmp).grown hg (by simp; omega) fun j ej => by
    rcases h.2 with ⟨rfl, _⟩ | ⟨g, cap, cur, rfl, hb, _, _⟩
    · simp [Value.ownBlock] at ej
    · obtain rfl : g = j := by simpa [Value.ownBlock] using ej
      exact hb
theorem one_cT (t : Tm) : ∀ v ∈ cT t, v.oneCell' = true := by
  intro v hv
  simp [cT] at hv
  rcases hv with rfl | rfl | rfl | rfl | rfl <;> rfl
theorem flat_len (N : List Tm) : (N.flatMap cT).length = N.length * 5 := by
  induction N with
  | nil => rfl
  | cons x r ih => rw [List.flatMap_cons, List.length_append, ih, List.length_cons]; have : (cT x).length = 5 := rfl; omega
theorem flat_drop (N : List Tm) : ∀ p, (N.drop p).flatMap cT = (N.flatMap cT).drop (p * 5) := by
  induction N with
  | nil => intro p; simp
  | cons x r ih =>
    intro p
    cases p with
    | zero => simp
    | succ p =>
      rw [List.drop_succ_cons, ih p, List.flatMap_cons, show (p + 1) * 5 = (cT x).length + p * 5 by have : (cT x).length = 5 := rfl; omega, List.drop_append]
      simp
theorem flat_take (N : List Tm) : ∀ p, (N.take p).flatMap cT = (N.flatMap cT).take (p * 5) := by
  induction N with
  | nil => intro p; simp
  | cons x r ih =>
    intro p
    cases p with
    | zero => simp
    | succ p =>
      rw [List.take_succ_cons, List.flatMap_cons, ih p, List.flatMap_cons, show (p + 1) * 5 = (cT x).length + p * 5 by have : (cT x).length = 5 := rfl; omega, List.take_append]
      rw [List.take_of_length_le (l := cT x) (by omega), Nat.add_sub_cancel_left]
theorem one_flat (N : List Tm) : ∀ v ∈ N.flatMap cT, v.oneCell' = true := by
  intro v hv
  obtain ⟨t, -, h⟩ := List.mem_flatMap.1 hv
  exact one_cT t v h
theorem OwnT.cells {w : World} {base g n c : Nat} {N : List Tm} (h : OwnT w base (.slice (some ⟨g, 0, none⟩) n c) N) : ∀ j u, (N.flatMap cT)[j]? = some u → w.cell? ⟨g, j, none⟩ = some u := by
  intro j u hj
  rcases h.2 with ⟨hv, -⟩ | ⟨g', cap, cur, hv, hb, hg, hc, hcm, hs, ht⟩
  · cases hv
  · injection hv with h1 h2 h3
    injection (Option.some.inj h1) with h1
    subst h1
    rw [← ht, List.getElem?_take] at hj
    split at hj
    · rw [Array.getElem?_toList] at hj
      simp [World.cell?, hg, hj]
    · cases hj
theorem OwnT.first {w : World} {base g n c p : Nat} {N : List Tm} (h : OwnT w base (.slice (some ⟨g, 0, none⟩) n c) N) : ∀ j u, ((N.take p).flatMap cT)[j]? = some u → w.cell? ((⟨g, 0, none⟩ : Addr).add j) = some u := by
  intro j u hj
  rw [flat_take, List.getElem?_take] at hj
  split at hj
  · have := h.cells j u hj
    rw [show (⟨g, 0, none⟩ : Addr).add j = ⟨g, j, none⟩ by cases j <;> simp [Addr.add]]
    exact this
  · cases hj
theorem OwnT.shape {w : World} {base : Nat} {v : Value} {N : List Tm} (h : OwnT w base v N) : ∃ B c, v = .slice B N.length c := by
  rcases h.2 with ⟨hv, hn⟩ | ⟨g, cap, cur, hv, -⟩
  · exact ⟨none, 0, by rw [hv, hn]⟩
  · exact ⟨_, _, hv⟩
theorem OwnT.low {w : World} {base base' : Nat} {v : Value} {N : List Tm} (h : OwnT w base v N) (hb : base' ≤ base) : OwnT w base' v N := by
  refine ⟨h.1, ?_⟩
  rcases h.2 with hn | ⟨g, cap, cur, hv, hg0, hg, rest⟩
  · exact .inl hn
  · exact .inr ⟨g, cap, cur, hv, Nat.le_trans hb hg0, hg, rest⟩
theorem OwnT.grown0 {W w1 : World} {base : Nat} {v : Value} {N : List Tm} (h : OwnT W base v N) (hb0 : base ≤ W.heap.size) (hg : W.grownBy w1 v.ownBlock) : Below base W w1 :=
  (Below.refl base W).grown hg hb0 fun j ej => by
    rcases h.2 with ⟨rfl, _⟩ | ⟨g, cap, cur, rfl, hb, _, _⟩
    · simp [Value.ownBlock] at ej
    · obtain rfl : g = j := by simpa [Value.ownBlock] using ej
      exact hb
end Go.Proofs.YtmepiogoofmbbaaGreatDoor.chain
namespace Go.Proofs.YtmepiogoofmbbaaGreatDoor.chain
open Go.ChangeShapes Go.WideShapes Go.ChangeAt Go.RowKit
open Go.Proofs.YtmepiogoofmbbaaGreatDoor.tm Go.Proofs.YtmepiogoofmbbaaGreatDoor.opened Go.Proofs.YtmepiogoofmbbaaGreatDoor.block Go.Proofs.YtmepiogoofmbbaaGreatDoor.stamp

theorem opens_times : Opens Tryz.prog 22 (sliceR 5 32 timeR) := opens_slice Tryz.underlying22 (m := 5) (bytes := 32) (by kernel_rfl) (by kernel_rfl) opens_time
def tmOf (p : Int × Int × List Int × Unit) : Tm := ⟨p.1, p.2.1, p.2.2.1.getD 0 0, p.2.2.1.getD 1 0, p.2.2.1.getD 2 0⟩
theorem time_of {w : World} {cs : List Value} {p : Int × Int × List Int × Unit} (h : timeR w cs p) : (tmOf p).In ∧ cs = cT (tmOf p) := by
  obtain ⟨⟨h1, w1⟩, ⟨h2, w2⟩, ⟨l1, l2, h3⟩, h4⟩ := h
  obtain ⟨e, d, l, u⟩ := p
  dsimp only at *
  match l, l2 with
  | [x, y, z], _ =>
    obtain ⟨k0, v0⟩ := h3 0 x rfl
    obtain ⟨k1, v1⟩ := h3 1 y rfl
    obtain ⟨k2, v2⟩ := h3 2 z rfl
    obtain ⟨a0, a1⟩ := bounds_u32 w1
    obtain ⟨a2, a3⟩ := bounds_i64 w2
    obtain ⟨a4, a5⟩ := bounds_u32 v0
    obtain ⟨a6, a7⟩ := bounds_u32 v1
    obtain ⟨a8, a9⟩ := bounds_u32 v2
    refine ⟨⟨a0, by show e ≤ _; omega, a2, a3, a4, by show x ≤ _; omega, a6, by show y ≤ _; omega, a8, by show z ≤ _; omega⟩, ?_⟩
    unfold nilR at h4
    match cs, h1 with
    | c0 :: cs, h1 =>
      simp at h1
      subst h1
      match cs, h2 with
      | c1 :: cs, h2 =>
        simp at h2
        subst h2
        match cs, k0, k1, k2, h4, l1 with
        | [c2, c3, c4], k0, k1, k2, _, _ => simp at k0 k1 k2; subst k0; subst k1; subst k2; rfl
set_option maxRecDepth 100000 in
/-- A slice of times that came in. -/
theorem top_times {w : World} {r : Reach} {b : Nat} {v : Value} {q : Row (Int × Int × List Int × Unit)} (hv : Value.okWide Tryz.prog w r b 22 v) (h : sliceR 5 32 timeR w v.cells.toList q) :
    ∃ (A : Option Addr) (c : Nat) (L : List Tm), v = .slice A L.length c ∧ InL L ∧ Lt w A L ∧ L.length ≤ c ∧ L.length ≤ 4611686018427387903 := by
  have hl := h.2.1
  have hc := h.2.2.1
  have hb := h.2.2.2.2.1
  refine ⟨q.ptr, q.cap, q.elems.map tmOf, ?_, ?_, ?_, ?_, ?_⟩
  · rw [top_slice Tryz.underlying22 hv h, row_val h, List.length_map]
  · intro t ht
    obtain ⟨a, ha, rfl⟩ := List.mem_map.1 ht
    obtain ⟨cs', hcs⟩ := elem_of h a ha
    exact (time_of hcs).1
  · have := liesN_of (f := fun a => cT (tmOf a)) (fun w cs a ha => (time_of ha).2) (by omega) h
    unfold Lt
    rw [List.map_map]
    exact this
  · rw [List.length_map, hl]; exact hc
  · rw [List.length_map, hl]; omega
theorem since_callS {P : Program} {f : FuncId} {args : Array Value} {v : Value} {w0 : World} (h : ∀ x : Since w0, Calls P f args x.1 fun e w' => e = .returned v ∧ Below x.1.heap.size x.1 w') (x : Since w0) :
    Calls P f args x.1 fun e w' => e = .returned v ∧ ∃ y : Since w0, w' = y.1 :=
  (h x).mono fun _ w' ⟨he, hb⟩ => ⟨he, ⟨w', then_below x.2 hb⟩, rfl⟩
theorem same_self (A B : Option Addr) (c d : Nat) (L : List Tm) (mL : L.length ≤ 4611686018427387903) (w : World) (hL : Lt w A L) (hM : Lt w B L) :
    Calls Tryz.prog 11 #[.slice A L.length c, .slice B L.length d] w fun e w' => e = .returned (.bool true) ∧ Below w.heap.size w w' := by
  have := same_any A B c d L L mL mL w hL hM
  rwa [decide_eq_true (p := L = L) rfl] at this
end Go.Proofs.YtmepiogoofmbbaaGreatDoor.chain
