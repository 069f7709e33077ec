/-
  The contract of watershedlaw11.To; append of any row to an empty one that was just made.
  A batch that came in, as the walk wants it.
-/
import Derived.Test.YtkfjgmfokpgcbaaGreatDoorJDg
import Derived.Test.YtkfjgmfokpgcbaaGreatDoorJDo
import Derived.Test.YtkfjgmfokpgcbaaGreatDoorJTm
import Derived.ArgAppend
import Derived.Handy
import Derived.BigQuiet
import Derived.Deep.CutBlock
import Derived.Test.YtkfjgmfokpgcbaaGreatDoorJDe
import Derived.Test.YtkfjgmfokpgcbaaGreatDoorJChk
namespace Go.Proofs.YtkfjgmfokpgcbaaGreatDoor.region
open Go.RowKit Go.Proofs.YtkfjgmfokpgcbaaGreatDoor.block
section
variable {P : Program}
theorem run_append_none (w : World) (t ty e : TypeId) (i : TypeInfo) (ht : P.underlying t = some (.slice e)) (hi : P.info? e = some i) (b : Addr) (A : Option Addr) (c : Nat) :
    (Builtin.append_ #[t, t] ty #[.slice (some b) 0 0, .slice A 0 c]).run P w = .ok (.slice (some b) 0 0) w := by
  cases A <;> simp [Builtin.append_, Builtin.lenOf, Builtin.firstCells, run_underlying ht, sizeOf, typeInfo, hi, storeCells, go_sem, Result.andThen]
/-- append of any row to an empty one that was just made. -/
theorem yields_copied {w : World} {o : Oper} {ρ : Operand → Value} {T : Value → World → Prop} (s x : Operand) (t : TypeId) (ho : o.op = .call { callee := .builtin .append, args := #[s, x], argTypes := #[t, t] })
    (e : TypeId) (i : TypeInfo) (z : Value) (size bytes : Nat) (ht : P.underlying t = some (.slice e)) (hi : P.info? e = some i) (hz : i.zero = some z)
    (hsize : i.size = size) (hby : i.bytes = bytes) (hzs : z.cells.size = size) (hsz : 0 < size)
    (b : Addr) (hs : ρ s = .slice (some b) 0 0) (A : Option Addr) (m c : Nat) (news : List Value) (hx : ρ x = .slice A m c) (hl : news.length = m * size)
    (hA : m ≠ 0 → ∃ ad, A = some ad ∧ ∀ j u, news[j]? = some u → w.cell? (ad.add j) = some u) (h63 : m ≤ maxLen) (hbytes : m * bytes ≤ 140737488355328)
    (h0 : m = 0 → T (.slice (some b) 0 0) w) (h : m ≠ 0 → ∀ (v' : Value) (w' : World), w'.ownsRow w.heap.size e size v' m news → Below w.heap.size w w' → T v' w') : Yields P o ρ w T := by
  by_cases hm : m = 0
  · subst hm
    refine .inl ⟨_, w, ?_, Below.refl _ _, h0 rfl⟩
    unfold execOp
    simp only [ho, resolve, invoke, builtin, Sem.run_bind, Sem.run_pure, Result.andThen_ok, List.map_toArray, List.map_cons, List.map_nil, hs, hx, run_append_none w t o.type e i ht hi b A c]
  · obtain ⟨ad, rfl, hc⟩ := hA hm
    obtain ⟨v', w', hr, h1, h2⟩ := run_append_arg_grows (P := P) w t o.type e i z size bytes ht hi hz hsize hby hzs hsz b 0 0 [] (by simp) (by intro j u hj; simp at hj) ad m c news hl hc (by omega) (by rw [Nat.zero_add]; exact h63) (by rw [Nat.zero_add]; exact hbytes)
    rw [Nat.zero_add, List.nil_append] at h1
    have hB : Below w.heap.size w w' := (Below.refl w.heap.size w).grown h2 (Nat.le_refl _) (fun k e => by cases e)
    refine .inl ⟨v', w', ?_, hB, h hm v' w' h1 hB⟩
    unfold execOp
    simp only [ho, resolve, invoke, builtin, Sem.run_bind, Sem.run_pure, Result.andThen_ok, List.map_toArray, List.map_cons, List.map_nil, hs, hx, hr]
end
theorem yields_storeRow {P : Program} {w : World} {o : Oper} {ρ : Operand → Value} {T : Value → World → Prop} (ty : TypeId) (x y : Operand) (ho : o.op = .store ty x y)
    (g : Nat) (cells : Array Value) (hx : ρ x = .pointer (some ⟨g, 0, none⟩)) (hy : ρ y = .agg cells) (t : TypeId) (old : Array Value) (hg : w.heap[g]? = some (.cells old t (0, 0))) (hi : (P.info? ty).map (·.size) = some cells.size)
    (hold : old.size = cells.size) (h1 : cells.all (·.oneCell') = true) (h : T undef (w.setRow g cells)) : YieldsS P o ρ w T := by
  refine .inr ⟨w.setRow g cells, ?_, h⟩
  unfold execOp
  simp only [ho, hx, hy, Instr.storeAt, Instr.sureAddr, Sem.run_bind, Sem.run_pure, Result.andThen_ok, run_storeVar_row w g t ty old cells hg hi hold h1]
theorem grown_setRow (w : World) (g : Nat) (ds : Array Value) : w.grownBy (w.setRow g ds) (some g) :=
  ⟨rfl, rfl, rfl, by rw [setRow_size]; exact Nat.le_refl _, fun i _ hne => setRow_other w g i ds (fun e => hne (by rw [e]))⟩
end Go.Proofs.YtkfjgmfokpgcbaaGreatDoor.region
namespace Go.Proofs.YtkfjgmfokpgcbaaGreatDoor.data
open Go.ChangeShapes Go.WideShapes Go.ChangeAt Go.RowKit
open Go.Proofs.YtkfjgmfokpgcbaaGreatDoor.tm Go.Proofs.YtkfjgmfokpgcbaaGreatDoor.opened Go.Proofs.YtkfjgmfokpgcbaaGreatDoor.block Go.Proofs.YtkfjgmfokpgcbaaGreatDoor.region

theorem lg_past {α : Type} {m : Nat} {f : α → List Value} {w w' : World} {A : Option Addr} {M : List α} {gx : Nat} (h : Lg m f w A M) (hg : w.grownBy w' (some gx)) (hn : ∀ a, A = some a → a.block ≠ gx) : Lg m f w' A M := by
  rcases h with h | ⟨b, off, hA, hbl, hc⟩
  · exact .inl h
  · have hb := hg.block b hbl (by have := hn _ hA; simpa using this)
    refine .inr ⟨b, off, hA, Nat.lt_of_lt_of_le hbl hg.size, fun i x hx => ⟨(hc i x hx).1, fun j hj => ?_⟩⟩
    rw [← (hc i x hx).2 j hj]
    simp only [World.cell?, hb]
theorem lr_flat0 {w : World} {L : List Rc} {A : Option Addr} (h : Lr w A L) (hn : L ≠ []) : ∃ ad, A = some ad ∧ ∀ j u, (L.flatMap cR)[j]? = some u → w.cell? (ad.add j) = some u := by
  cases L with
  | nil => exact absurd rfl hn
  | cons x r =>
    obtain ⟨b, off, rfl, -⟩ := at_rc h (k := 0) (p := x) rfl
    exact ⟨_, rfl, lr_flat h⟩
/-- A batch as a value. -/
abbrev bt (l : Int) (t : Tm) (A : Option Addr) (n c : Nat) : Array Value := #[.int .i64 l, .int .u32 t.e, .int .i64 t.d, .int .u32 t.a, .int .u32 t.b, .int .u32 t.c, .slice A n c]
theorem bt_one (l : Int) (t : Tm) (A : Option Addr) (n c : Nat) : (bt l t A n c).all (·.oneCell') = true := by simp [Value.oneCell']
def EmptyN (z : Nat) : Value → World → Prop := fun u _ => ∃ b, u = .slice (some ⟨b, 0, none⟩) 0 0 ∧ z < b
theorem keeps_emptyN (z : Nat) : Keeps (EmptyN z) := fun _ _ _ _ h => h
def RowN (z : Nat) (L : List Rc) : Value → World → Prop := fun u w => ∃ B c, u = .slice B L.length c ∧ Lr w B L ∧ ∀ a, B = some a → z < a.block
theorem keeps_rowN (z : Nat) (L : List Rc) : Keeps (RowN z L) := fun _ _ _ hb ⟨B, c, h1, h2, h3⟩ => ⟨B, c, h1, h2.below hb, h3⟩
def BtN (z : Nat) (l : Int) (t : Tm) (L : List Rc) : Value → World → Prop := fun u w => ∃ B c, u = .agg (bt l t B L.length c) ∧ Lr w B L ∧ ∀ a, B = some a → z < a.block
theorem keeps_btN (z : Nat) (l : Int) (t : Tm) (L : List Rc) : Keeps (BtN z l t L) := fun _ _ _ hb ⟨B, c, h1, h2, h3⟩ => ⟨B, c, h1, h2.below hb, h3⟩
set_option maxRecDepth 100000 in
set_option maxHeartbeats 4000000 in
theorem to_any (l : Int) (t : Tm) (L : List Rc) (A : Option Addr) (c : Nat) (mL : L.length ≤ 4096) (w : World) (hL : Lr w A L) :
    Calls Tryz.prog 14 #[.agg (bt l t A L.length c)] w fun e w' => ∃ B c', e = .returned (.agg (bt l t B L.length c')) ∧ Lr w' B L ∧ Below w.heap.size w w' := by
  obtain ⟨i0, hi0, hz0, hz1, hz2⟩ := infoR_parts
  have HL := Lib.hid hL
  clear hL
  go_enter Tryz.func14, Tryz.ntmps14
  go_upto_region 1 with fail
  change Code.wp _ _ _ _ ((w.alloc (.cells (bt l t A L.length c) 43)).alloc (.cells (bt 0 T0 none 0 0) 46))
  have b1 := fresh0 w (.cells (bt l t A L.length c) 43)
  have b2 := fresh0 (w.alloc (.cells (bt l t A L.length c) 43)) (.cells (bt 0 T0 none 0 0) 46)
  have W1 := (Whole.fresh w 43 (bt l t A L.length c)).below b2 (by simp)
  have W2 := Whole.fresh (w.alloc (.cells (bt l t A L.length c) 43)) 46 (bt 0 T0 none 0 0)
  have e2 : (w.alloc (.cells (bt l t A L.length c) 43)).heap.size = w.heap.size + 1 := by simp
  rw [e2] at W2
  have B0 := b1.trans (b2.mono (by simp))
  have S0 : ((w.alloc (.cells (bt l t A L.length c) 43)).alloc (.cells (bt 0 T0 none 0 0) 46)).heap.size = w.heap.size + 2 := by simp
  generalize (w.alloc (.cells (bt l t A L.length c) 43)).alloc (.cells (bt 0 T0 none 0 0) 46) = wx at W1 W2 B0 S0 ⊢
  have HW1 := Lib.hid W1
  have HW2 := Lib.hid W2
  have HB0 := Lib.hid B0
  have HS0 := Lib.hid S0
  obtain ⟨gt, hgt⟩ : ∃ gt, gt = w.heap.size + 1 := ⟨_, rfl⟩
  rw [← hgt] at HW2 ⊢
  have HGT := Lib.hid hgt
  clear b1 b2 W1 W2 B0 S0 hgt
  refine region_full 12 [] [] (fun k => k == 9) (fun w7 => Below w.heap.size w w7 ∧ wx.heap.size ≤ w7.heap.size ∧ Whole w7 w.heap.size 43 (bt l t A L.length c)) ?hR ?r0 [pdOne 0 (Is (.pointer (some ⟨w.heap.size, 0, none⟩))), pdOne 1 (Is (.int .i64 l)), pdOne 2 (Is (.pointer (some ⟨w.heap.size, 1, none⟩))), pdOne 3 (Is (.agg #[.int .u32 t.e, .int .i64 t.d, .int .u32 t.a, .int .u32 t.b, .int .u32 t.c])), pdOne 4 (EmptyN gt), pdOne 5 (Is (.pointer (some ⟨w.heap.size, 6, none⟩))), pdOne 6 (Is (.slice A L.length c)), pdOne 7 (RowN gt L), pdOne 8 (BtN gt l t L), pdOne 9 (fun _ w7 => ∃ B c', Whole w7 gt 46 (bt l t B L.length c') ∧ Lr w7 B L)] (fun k w7 => k = 9 → Whole w7 gt 46 (bt 0 T0 none 0 0)) (by kernel_rfl) rfl (by kernel_rfl) (by kernel_rfl) (by kernel_rfl) (by kernel_rfl) ?keep ?hO ?h0 ?tell
  case hR => exact fun wa wb hb ⟨h1, h2, h3⟩ => ⟨h1.trans (hb.mono h1.size), Nat.le_trans h2 hb.size, h3.below hb h3.inside⟩
  case r0 => exact ⟨HB0.out, Nat.le_refl _, HW1.out⟩
  case keep => exact ⟨keep_one (keeps_is _), keep_one (keeps_is _), keep_one (keeps_is _), keep_one (keeps_is _), keep_one (keeps_emptyN _), keep_one (keeps_is _), keep_one (keeps_is _), keep_one (keeps_rowN _ _), keep_one (keeps_btN _ _ _ _), keep_one (fun _ _ _ hb ⟨B, c', h1, h2⟩ => ⟨B, c', h1.below hb h1.inside, h2.below hb⟩), trivial⟩
  case hO => exact fun k wa wb hb h e => (h e).below hb (h e).inside
  case h0 => exact fun _ _ _ => HW2.out
  case tell =>
    intro fin hfin
    simp [lexPut, Act.put] at hfin
    simp only [TellF]
    refine ⟨⟨?_, ?_, ?_, ?_, ?_, ?_, ?_, ?_, ?_, ?_, trivial⟩, ?_⟩
    · intro v2 w7 hr hd
      refine yields_run (u := .pointer (some ⟨w.heap.size, 0, none⟩)) (w' := w7) ?_ (Below.refl _ _) rfl
      unfold execOp
      simp [go_sem, Act.eval]
    · intro v2 w7 hr hd
      have h0 : v2 0 = _ := hd 0 (by kernel_rfl)
      have k0 := hr.2.2.read 0
      refine yields_run (u := .int .i64 l) (w' := w7) ?_ (Below.refl _ _) rfl
      unfold execOp
      simp [go_sem, Act.eval, Act.put, h0, k0]
    · intro v2 w7 hr hd
      refine yields_run (u := .pointer (some ⟨w.heap.size, 1, none⟩)) (w' := w7) ?_ (Below.refl _ _) rfl
      unfold execOp
      simp [go_sem, Act.eval, Act.put]
    · intro v2 w7 hr hd
      have h2 : v2 2 = _ := hd 2 (by kernel_rfl)
      have k1 := hr.2.2.read 1
      have k2 := hr.2.2.read 2
      have k3 := hr.2.2.read 3
      have k4 := hr.2.2.read 4
      have k5 := hr.2.2.read 5
      refine yields_run (u := .agg #[.int .u32 t.e, .int .i64 t.d, .int .u32 t.a, .int .u32 t.b, .int .u32 t.c]) (w' := w7) ?_ (Below.refl _ _) rfl
      unfold execOp
      simp [go_sem, Act.eval, Act.put, h2, k1, k2, k3, k4, k5]
    · intro v2 w7 hr hd
      refine yields_run (u := .slice (some ⟨w7.heap.size, 0, none⟩) 0 0) (w' := w7.alloc (.cells #[] 33)) ?_ (fresh0 w7 _) ⟨w7.heap.size, rfl, by have := hr.2.1; have := HS0.out; have := HGT.out; omega⟩
      unfold execOp
      simp [go_sem, Act.eval, Act.put]
    · intro v2 w7 hr hd
      refine yields_run (u := .pointer (some ⟨w.heap.size, 6, none⟩)) (w' := w7) ?_ (Below.refl _ _) rfl
      unfold execOp
      simp [go_sem, Act.eval, Act.put]
    · intro v2 w7 hr hd
      have h5 : v2 5 = _ := hd 5 (by kernel_rfl)
      have k6 := hr.2.2.read 6
      refine yields_run (u := .slice A L.length c) (w' := w7) ?_ (Below.refl _ _) rfl
      unfold execOp
      simp [go_sem, Act.eval, Act.put, h5, k6]
    · intro v2 w7 hr hd
      have h6 : v2 6 = _ := hd 6 (by kernel_rfl)
      obtain ⟨b4, h4, hz4⟩ : EmptyN gt (v2 4) w7 := hd 4 (by kernel_rfl)
      refine yields_copied (.tmp 7) (.tmp 9) 22 rfl 33 i0 (.agg #[.int .i64 0, .int .i64 0]) 2 16 Tryz.underlying22 hi0 hz0 hz1 hz2 rfl (by decide) ⟨b4, 0, none⟩ (by simp [Act.eval, Act.put, h4]) A L.length c (L.flatMap cR) (by simp [Act.eval, Act.put, h6]) (flatG_len cellsR L) (fun hn => lr_flat0 (HL.out.below hr.1) (fun e => hn (by rw [e]; rfl))) (by unfold maxLen; omega) (by omega) (fun h0 => ⟨some ⟨b4, 0, none⟩, 0, by rw [h0]; rfl, by rw [List.eq_nil_of_length_eq_zero h0]; exact lg_nil _ _, fun a e => by cases e; exact hz4⟩) ?_
      intro hn v' w' hown _
      obtain ⟨B, c', rfl, -, -⟩ := OwnG.shape (N := L) (m := 2) (f := cR) (T := 33) hown
      refine ⟨B, c', rfl, OwnG.lg cellsR hown, fun a e => ?_⟩
      have := OwnG.gap (m := 2) (f := cR) (T := 33) (N := L) hown a e
      have := hr.2.1
      have := HS0.out
      have := HGT.out
      omega
    · intro v2 w7 hr hd
      have h1 : v2 1 = _ := hd 1 (by kernel_rfl)
      have h3 : v2 3 = _ := hd 3 (by kernel_rfl)
      obtain ⟨B, c', h7, l7, z7⟩ : RowN gt L (v2 7) w7 := hd 7 (by kernel_rfl)
      refine yields_run (u := .agg (bt l t B L.length c')) (w' := w7) ?_ (Below.refl _ _) ⟨B, c', rfl, l7, z7⟩
      unfold execOp
      simp [go_sem, Act.eval, Act.put, h1, h3, h7]
    · intro v2 w7 hr ho hd
      obtain ⟨B, c', h8, l8, z8⟩ : BtN gt l t L (v2 8) w7 := hd 8 (by kernel_rfl)
      have hg7 : Whole w7 gt 46 (bt 0 T0 none 0 0) := ho (by first | rfl | trivial)
      have hset := grown_setRow w7 gt (bt l t B L.length c')
      have hne : ∀ {B : Option Addr}, (∀ a, B = some a → gt < a.block) → ∀ a, B = some a → a.block ≠ gt := fun h a e => by have := h a e; omega
      refine yields_storeRow 46 (.tmp 2) (.tmp 11) rfl gt (bt l t B L.length c') (by simp [Act.eval, Act.put]) (by simp [Act.eval, Act.put, h8]) 46 _ hg7 (by kernel_rfl) rfl (bt_one _ _ _ _ _) ?_
      refine ⟨⟨hr.1.grown hset (by have := hr.2.1; have := HS0.out; omega) (fun j e => by cases e; have := HGT.out; omega), Nat.le_trans hr.2.1 hset.size, hr.2.2.grown hset (by intro e; injection e with e; have := HGT.out; omega)⟩, ?_, ?_, B, c', setRow_heap _ _ _ _ _ _ hg7, lg_past l8 hset (hne z8)⟩
      · intro k2 v' hk2 hc hu
        exact match k2, hk2, hc, hu with
          | 0, _, _, hu => hu
          | 1, _, _, hu => hu
          | 2, _, _, hu => hu
          | 3, _, _, hu => hu
          | 4, _, _, hu => hu
          | 5, _, _, hu => hu
          | 6, _, _, hu => hu
          | 7, _, _, ⟨B, c', h1, h2, h3⟩ => ⟨B, c', h1, lg_past h2 hset (hne h3), h3⟩
          | 8, _, _, ⟨B, c', h1, h2, h3⟩ => ⟨B, c', h1, lg_past h2 hset (hne h3), h3⟩
          | 9, hk2, _, _ => absurd rfl hk2
          | _ + 10, _, _, _ => trivial
      · intro k2 hk2 hn hc2 h e
        exact absurd e hk2
    · intro v2 w7 hr hv
      obtain ⟨B, c', h9, l9⟩ : ∃ B c', Whole w7 gt 46 (bt l t B L.length c') ∧ Lr w7 B L := hv 9 (by decide)
      rw [hfin]
      clear hfin hv
      have q0 := h9.read 0
      have q1 := h9.read 1
      have q2 := h9.read 2
      have q3 := h9.read 3
      have q4 := h9.read 4
      have q5 := h9.read 5
      have q6 := h9.read 6
      go_wp2_with fail
      exact bodyPost_ret (v := .agg (bt l t B L.length c')) (by simp [results, Tryz.results14, go_sem, q0, q1, q2, q3, q4, q5, q6]) rfl ⟨B, c', rfl, l9, hr.1⟩
end Go.Proofs.YtkfjgmfokpgcbaaGreatDoor.data
namespace Go.Proofs.YtkfjgmfokpgcbaaGreatDoor.data
open Go.ChangeShapes Go.WideShapes Go.ChangeAt Go.RowKit
open Go.Proofs.YtkfjgmfokpgcbaaGreatDoor.tm Go.Proofs.YtkfjgmfokpgcbaaGreatDoor.opened Go.Proofs.YtkfjgmfokpgcbaaGreatDoor.block Go.Proofs.YtkfjgmfokpgcbaaGreatDoor.region Go.Proofs.YtkfjgmfokpgcbaaGreatDoor.stamp

def btR : Reader (Int × (Int × Int × List Int × Unit) × Row (Int × Int × Unit) × Unit) := consR 1 (intR .i64) (consR 5 timeR (consR 1 (sliceR 2 16 rcR) nilR))
set_option maxRecDepth 100000 in
theorem opens_bt : Opens Tryz.prog 43 btR :=
  opens_struct Tryz.underlying43 (by kernel_rfl) (by kernel_rfl) (opensFs_cons (opens_int Tryz.underlying3) (m := 1) (by kernel_rfl) (opensFs_cons opens_time (m := 5) (by kernel_rfl) (opensFs_cons opens_recs (m := 1) (by kernel_rfl) opensFs_nil)))
set_option maxRecDepth 100000 in
theorem top_bt {w : World} {r : Reach} {b : Nat} {v : Value} {q : Int × (Int × Int × List Int × Unit) × Row (Int × Int × Unit) × Unit} (hv : Value.okWide Tryz.prog w r b 43 v) (h : btR w v.cells.toList q) :
    ∃ (l : Int) (t : Tm) (A : Option Addr) (c : Nat) (L : List Rc), v = .agg (bt l t A L.length c) ∧ (-9223372036854775808 ≤ l ∧ l ≤ 9223372036854775807) ∧ t.In ∧ InR L ∧ Lr w A L := by
  have hs := top_struct Tryz.underlying43 hv
  obtain ⟨⟨h0, w0⟩, h1, h2, h3⟩ := h
  obtain ⟨t, it, ht⟩ := time_cells h1
  obtain ⟨i1, i2, i3, -⟩ := row_rc h2
  have u0 := bounds_i64 w0
  have hc := h2.1
  unfold nilR at h3
  refine ⟨q.1, t, q.2.2.1.ptr, q.2.2.1.cap, _, ?_, ⟨u0.1, by omega⟩, it, i1, i2⟩
  rw [hs]
  have e : v.cells.toList = (bt q.1 t q.2.2.1.ptr (q.2.2.1.elems.map rcOf).length q.2.2.1.cap).toList := by
    rw [← List.take_append_drop 1 v.cells.toList, h0, ← List.take_append_drop 5 (v.cells.toList.drop 1), ht, ← List.take_append_drop 1 ((v.cells.toList.drop 1).drop 5), hc, h3, i3]
    rfl
  have e2 := congrArg List.toArray e
  rw [Array.toArray_toList, Array.toArray_toList] at e2
  rw [e2]
end Go.Proofs.YtkfjgmfokpgcbaaGreatDoor.data
