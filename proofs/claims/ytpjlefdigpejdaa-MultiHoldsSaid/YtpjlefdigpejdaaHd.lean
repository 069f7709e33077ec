/-
  The contract of chain.Holds; slices.Equal over times.
-/
import Derived.Test.YtpjlefdigpejdaaLay
import Derived.Test.YtpjlefdigpejdaaTi
namespace Go.Proofs.Ytpjlefdigpejdaa.chain
open Go.ChangeShapes Go.WideShapes Go.ChangeAt Go.RowKit Go.Shelf
open Go.Proofs.Ytpjlefdigpejdaa.tm Go.Proofs.Ytpjlefdigpejdaa.opened Go.Proofs.Ytpjlefdigpejdaa.block Go.Proofs.Ytpjlefdigpejdaa.stamp

/-- A time within its kinds. -/
abbrev TI : Type := { t : Tm // t.In }
instance : Inhabited TI := ⟨⟨T0, by constructor <;> decide⟩⟩
def encI (x : TI) : List Value := cT x.1
/-- The list, each with its bounds. -/
def tis (L : List Tm) (h : InL L) : List TI := L.attach.map fun x => ⟨x.1, h x.1 x.2⟩
theorem tis_len (L : List Tm) (h : InL L) : (tis L h).length = L.length := by simp [tis]
theorem tis_val (L : List Tm) (h : InL L) : (tis L h).map (·.1) = L := by
  unfold tis
  rw [List.map_map]
  exact List.attach_map_subtype_val L
theorem tis_get {L : List Tm} {h : InL L} {j : Nat} (hj : j < (tis L h).length) : L[j]? = some ((tis L h)[j]!).1 := by
  have e := congrArg (fun M => M[j]?) (tis_val L h)
  simp only [List.getElem?_map] at e
  rw [← e, getElem!_pos _ j hj, List.getElem?_eq_getElem hj]
  rfl
theorem cell_enc {w : World} {A : Option Addr} {L : List Tm} {h : InL L} {b off : Nat} (hL : Lt w A L) (hA : A = some ⟨b, off, none⟩) (j : Nat) (hj : j < (tis L h).length) (i : Nat) (v : Value) (hi : (encI (tis L h)[j]!)[i]? = some v) : w.cell? ⟨b, off + j * 5 + i, none⟩ = some v := by
  obtain ⟨b', off', hA', -, c0, c1, c2, c3, c4⟩ := hL.at (tis_get hj)
  rw [hA] at hA'
  injection (Option.some.inj hA') with h1 h2
  subst h1 h2
  generalize (tis L h)[j]! = x at hi c0 c1 c2 c3 c4
  match i, hi with
  | 0, hi => simp [encI, cT] at hi; rw [← hi]; exact c0
  | 1, hi => simp [encI, cT] at hi; rw [← hi]; exact c1
  | 2, hi => simp [encI, cT] at hi; rw [← hi]; exact c2
  | 3, hi => simp [encI, cT] at hi; rw [← hi]; exact c3
  | 4, hi => simp [encI, cT] at hi; rw [← hi]; exact c4
  | i + 5, hi => simp [encI, cT] at hi
theorem any_tis (L : List Tm) (h : InL L) (p : Tm → Bool) : (tis L h).any (fun x => p x.1) = L.any p := by
  have e := congrArg (fun M => M.any p) (tis_val L h)
  simp only [List.any_map] at e
  exact e
/-- The function value that Holds hands on: is an element not behind the time? -/
theorem holds1 (t : Tm) (i : t.In) (g : Nat) (w : World) (h : Whole w g 33 #[.int .u32 t.e, .int .i64 t.d, .int .u32 t.a, .int .u32 t.b, .int .u32 t.c]) : PredBelow Try.prog 79 #[.pointer (some ⟨g, 0, none⟩)] (fun x => .agg (encI x).toArray) (fun x => leB x.1 t) w := fun W x hb => by
  have O := h.below hb h.inside
  have LE := Lib.hid (le_any x.1 t x.2 i)
  obtain ⟨x, ix⟩ := x
  show Calls Try.prog 79 #[.agg #[.int .u32 x.e, .int .i64 x.d, .int .u32 x.a, .int .u32 x.b, .int .u32 x.c], .pointer (some ⟨g, 0, none⟩)] W _
  have hB := (hb.alloc hb.size (.cells #[.int .u32 x.e, .int .i64 x.d, .int .u32 x.a, .int .u32 x.b, .int .u32 x.c] 33))
  have O := O.alloc (.cells #[.int .u32 x.e, .int .i64 x.d, .int .u32 x.a, .int .u32 x.b, .int .u32 x.c] 33)
  have O2 := Whole.fresh W 33 #[.int .u32 x.e, .int .i64 x.d, .int .u32 x.a, .int .u32 x.b, .int .u32 x.c]
  clear hb h
  go_enter Try.func79, Try.ntmps79
  go_upto_region 1 with fail
  change Code.wp _ _ _ _ (W.alloc (.cells #[.int .u32 x.e, .int .i64 x.d, .int .u32 x.a, .int .u32 x.b, .int .u32 x.c] 33))
  have hz : W.heap.size ≤ (W.alloc (.cells #[.int .u32 x.e, .int .i64 x.d, .int .u32 x.a, .int .u32 x.b, .int .u32 x.c] 33)).heap.size := by simp
  have hF := fresh1 W (.cells #[.int .u32 x.e, .int .i64 x.d, .int .u32 x.a, .int .u32 x.b, .int .u32 x.c] 33)
  generalize W.alloc (.cells #[.int .u32 x.e, .int .i64 x.d, .int .u32 x.a, .int .u32 x.b, .int .u32 x.c] 33) = W2 at O O2 hB hz hF ⊢
  generalize W.heap.size = m at O2 hz hF ⊢
  obtain ⟨oc, of⟩ := path.all_of O
  obtain ⟨pc, pf⟩ := path.all_of O2
  go_wp2_with fail
  refine (LE.out _).mono ?_
  rintro e w4 ⟨rfl, b4⟩
  go_wp2_with fail
  go_ret
  exact ⟨rfl, hB.trans (b4.mono hB.size)⟩
set_option maxRecDepth 100000 in
theorem holds_none (A : Option Addr) (c : Nat) (t : Tm) (w : World) : Calls Try.prog 37 #[.slice A 0 c, .agg #[.int .u32 t.e, .int .i64 t.d, .int .u32 t.a, .int .u32 t.b, .int .u32 t.c]] w fun e w' => e = .returned (.bool false) ∧ Below w.heap.size w w' := by
  go_enter Try.func37, Try.ntmps37
  go_wp2
  refine wp_loop_rounds 1 ?_
  rw [rounds_succ]
  go_wp2
  go_ret
  exact ⟨rfl, fresh1 _ _⟩
set_option maxRecDepth 100000 in
theorem holds_any (A : Option Addr) (c : Nat) (L : List Tm) (t : Tm) (i : t.In) (iL : InL L) (mL : L.length ≤ 4611686018427387903) (w : World) (hL : Lt w A L) :
    Calls Try.prog 37 #[.slice A L.length c, .agg #[.int .u32 t.e, .int .i64 t.d, .int .u32 t.a, .int .u32 t.b, .int .u32 t.c]] w fun e w' => e = .returned (.bool (holdsB L t)) ∧ Below w.heap.size w w' := by
  cases L with
  | nil => exact holds_none A c t w
  | cons x r =>
    obtain ⟨b, off, hA, hb, -⟩ := hL.at (k := 0) (t := x) rfl
    have O := Whole.fresh w 33 #[.int .u32 t.e, .int .i64 t.d, .int .u32 t.a, .int .u32 t.b, .int .u32 t.c]
    have hL2 := hL.below (fresh1 w (.cells #[.int .u32 t.e, .int .i64 t.d, .int .u32 t.a, .int .u32 t.b, .int .u32 t.c] 33))
    have eg : ∀ args w, (callFunc 79 args).run Try.prog w = .ok (.enter 79 args) w := enters_of Try.func79 (by kernel_rfl) rfl
    have hcon := AnyQ.slices_ContainsFunc Try.lH8 5 Try.isAgg33 Try.sizeOf33 encI (fun _ => rfl) (fun x => leB x.1 t) 79 #[.pointer (some ⟨w.heap.size, 0, none⟩)] eg b off (x :: r).length c (tis (x :: r) iL) (w.alloc (.cells #[.int .u32 t.e, .int .i64 t.d, .int .u32 t.a, .int .u32 t.b, .int .u32 t.c] 33))
      (holds1 t i w.heap.size _ O) (by rw [tis_len]; exact Nat.le_refl _) (by omega) (by simp; omega) (fun j hj k v hv => cell_enc hL2 hA j hj k v hv)
    change Calls Try.prog 78 _ _ _ at hcon
    rw [show ((tis (x :: r) iL).take (x :: r).length).any (fun x => leB x.1 t) = holdsB (x :: r) t by
      rw [List.take_of_length_le (by rw [tis_len]; exact Nat.le_refl _)]; exact any_tis (x :: r) iL (fun y => leB y t)] at hcon
    subst hA
    clear hL hL2 O iL i eg
    generalize (x :: r).length = n at hcon mL ⊢
    generalize holdsB (x :: r) t = v at hcon ⊢
    go_enter Try.func37, Try.ntmps37
    go_wp2_with (go_at_call 78; refine hcon.mono ?_; rintro e w' ⟨rfl, hb'⟩)
    go_ret
    exact ⟨rfl, (fresh1 _ _).trans (hb'.mono (by simp))⟩
end Go.Proofs.Ytpjlefdigpejdaa.chain
