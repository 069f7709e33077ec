/-
  The contract of chain.Holds; slices.Equal over times.
  The contracts of chain.LE, watershedref06.LE and of slices.Equal over times.
  The contract of stamp.Compare once more: the world behind it, as the sort wants it.
  The order of times, as the sort wants it; slices.SortFunc at times.
-/
import Derived.Test.YtmepiogoofmbbaaDoorLay
import Derived.Test.YtmepiogoofmbbaaDoorGF
import Derived.Test.YtmepiogoofmbbaaDoorGC
import Derived.Deep.RegionWith
import Derived.Deep.RegionHeld3
import Derived.Test.YtmepiogoofmbbaaDoorGA
namespace Go.Proofs.YtmepiogoofmbbaaDoor.chain
open Go.ChangeShapes Go.WideShapes Go.ChangeAt Go.RowKit Go.Shelf
open Go.Proofs.YtmepiogoofmbbaaDoor.tm Go.Proofs.YtmepiogoofmbbaaDoor.opened Go.Proofs.YtmepiogoofmbbaaDoor.block Go.Proofs.YtmepiogoofmbbaaDoor.stamp

/-- A time within its kinds. -/
abbrev TI : Type := { t : Tm // t.In }
instance : Inhabited TI := ⟨⟨T0, by constructor <;> decide⟩⟩
def encI (x : TI) : List Value := cT x.1
/-- The list, each with its bounds. -/
def tis (L : List Tm) (h : InL L) : List TI := L.attach.map fun x => ⟨x.1, h x.1 x.2⟩
theorem tis_len (L : List Tm) (h : InL L) : (tis L h).length = L.length := by simp [tis]
theorem tis_val (L : List Tm) (h : InL L) : (tis L h).map (·.1) = L := by
  unfold tis
  rw [List.map_map]
  exact List.attach_map_subtype_val L
theorem tis_get {L : List Tm} {h : InL L} {j : Nat} (hj : j < (tis L h).length) : L[j]? = some ((tis L h)[j]!).1 := by
  have e := congrArg (fun M => M[j]?) (tis_val L h)
  simp only [List.getElem?_map] at e
  rw [← e, getElem!_pos _ j hj, List.getElem?_eq_getElem hj]
  rfl
theorem cell_enc {w : World} {A : Option Addr} {L : List Tm} {h : InL L} {b off : Nat} (hL : Lt w A L) (hA : A = some ⟨b, off, none⟩) (j : Nat) (hj : j < (tis L h).length) (i : Nat) (v : Value) (hi : (encI (tis L h)[j]!)[i]? = some v) : w.cell? ⟨b, off + j * 5 + i, none⟩ = some v := by
  obtain ⟨b', off', hA', -, c0, c1, c2, c3, c4⟩ := hL.at (tis_get hj)
  rw [hA] at hA'
  injection (Option.some.inj hA') with h1 h2
  subst h1 h2
  generalize (tis L h)[j]! = x at hi c0 c1 c2 c3 c4
  match i, hi with
  | 0, hi => simp [encI, cT] at hi; rw [← hi]; exact c0
  | 1, hi => simp [encI, cT] at hi; rw [← hi]; exact c1
  | 2, hi => simp [encI, cT] at hi; rw [← hi]; exact c2
  | 3, hi => simp [encI, cT] at hi; rw [← hi]; exact c3
  | 4, hi => simp [encI, cT] at hi; rw [← hi]; exact c4
  | i + 5, hi => simp [encI, cT] at hi
theorem any_tis (L : List Tm) (h : InL L) (p : Tm → Bool) : (tis L h).any (fun x => p x.1) = L.any p := by
  have e := congrArg (fun M => M.any p) (tis_val L h)
  simp only [List.any_map] at e
  exact e
/-- The function value that Holds hands on: is an element not behind the time? -/
theorem holds1 (t : Tm) (i : t.In) (g : Nat) (w : World) (h : Whole w g 26 #[.int .u32 t.e, .int .i64 t.d, .int .u32 t.a, .int .u32 t.b, .int .u32 t.c]) : PredBelow Tryd.prog 32 #[.pointer (some ⟨g, 0, none⟩)] (fun x => .agg (encI x).toArray) (fun x => leB x.1 t) w := fun W x hb => by
  have O := h.below hb h.inside
  have LE := Lib.hid (le_any x.1 t x.2 i)
  obtain ⟨x, ix⟩ := x
  show Calls Tryd.prog 32 #[.agg #[.int .u32 x.e, .int .i64 x.d, .int .u32 x.a, .int .u32 x.b, .int .u32 x.c], .pointer (some ⟨g, 0, none⟩)] W _
  have hB := (hb.alloc hb.size (.cells #[.int .u32 x.e, .int .i64 x.d, .int .u32 x.a, .int .u32 x.b, .int .u32 x.c] 26))
  have O := O.alloc (.cells #[.int .u32 x.e, .int .i64 x.d, .int .u32 x.a, .int .u32 x.b, .int .u32 x.c] 26)
  have O2 := Whole.fresh W 26 #[.int .u32 x.e, .int .i64 x.d, .int .u32 x.a, .int .u32 x.b, .int .u32 x.c]
  clear hb h
  go_enter Tryd.func32, Tryd.ntmps32
  go_upto_region 1 with fail
  change Code.wp _ _ _ _ (W.alloc (.cells #[.int .u32 x.e, .int .i64 x.d, .int .u32 x.a, .int .u32 x.b, .int .u32 x.c] 26))
  have hz : W.heap.size ≤ (W.alloc (.cells #[.int .u32 x.e, .int .i64 x.d, .int .u32 x.a, .int .u32 x.b, .int .u32 x.c] 26)).heap.size := by simp
  have hF := fresh1 W (.cells #[.int .u32 x.e, .int .i64 x.d, .int .u32 x.a, .int .u32 x.b, .int .u32 x.c] 26)
  generalize W.alloc (.cells #[.int .u32 x.e, .int .i64 x.d, .int .u32 x.a, .int .u32 x.b, .int .u32 x.c] 26) = W2 at O O2 hB hz hF ⊢
  generalize W.heap.size = m at O2 hz hF ⊢
  obtain ⟨oc, of⟩ := path.all_of O
  obtain ⟨pc, pf⟩ := path.all_of O2
  go_wp2_with fail
  refine (LE.out _).mono ?_
  rintro e w4 ⟨rfl, b4⟩
  go_wp2_with fail
  go_ret
  exact ⟨rfl, hB.trans (b4.mono hB.size)⟩
set_option maxRecDepth 100000 in
theorem holds_none (A : Option Addr) (c : Nat) (t : Tm) (w : World) : Calls Tryd.prog 11 #[.slice A 0 c, .agg #[.int .u32 t.e, .int .i64 t.d, .int .u32 t.a, .int .u32 t.b, .int .u32 t.c]] w fun e w' => e = .returned (.bool false) ∧ Below w.heap.size w w' := by
  go_enter Tryd.func11, Tryd.ntmps11
  go_wp2
  refine wp_loop_rounds 1 ?_
  rw [rounds_succ]
  go_wp2
  go_ret
  exact ⟨rfl, fresh1 _ _⟩
set_option maxRecDepth 100000 in
theorem holds_any (A : Option Addr) (c : Nat) (L : List Tm) (t : Tm) (i : t.In) (iL : InL L) (mL : L.length ≤ 4611686018427387903) (w : World) (hL : Lt w A L) :
    Calls Tryd.prog 11 #[.slice A L.length c, .agg #[.int .u32 t.e, .int .i64 t.d, .int .u32 t.a, .int .u32 t.b, .int .u32 t.c]] w fun e w' => e = .returned (.bool (holdsB L t)) ∧ Below w.heap.size w w' := by
  cases L with
  | nil => exact holds_none A c t w
  | cons x r =>
    obtain ⟨b, off, hA, hb, -⟩ := hL.at (k := 0) (t := x) rfl
    have O := Whole.fresh w 26 #[.int .u32 t.e, .int .i64 t.d, .int .u32 t.a, .int .u32 t.b, .int .u32 t.c]
    have hL2 := hL.below (fresh1 w (.cells #[.int .u32 t.e, .int .i64 t.d, .int .u32 t.a, .int .u32 t.b, .int .u32 t.c] 26))
    have eg : ∀ args w, (callFunc 32 args).run Tryd.prog w = .ok (.enter 32 args) w := enters_of Tryd.func32 (by kernel_rfl) rfl
    have hcon := AnyQ.slices_ContainsFunc Tryd.lH8 5 Tryd.isAgg26 Tryd.sizeOf26 encI (fun _ => rfl) (fun x => leB x.1 t) 32 #[.pointer (some ⟨w.heap.size, 0, none⟩)] eg b off (x :: r).length c (tis (x :: r) iL) (w.alloc (.cells #[.int .u32 t.e, .int .i64 t.d, .int .u32 t.a, .int .u32 t.b, .int .u32 t.c] 26))
      (holds1 t i w.heap.size _ O) (by rw [tis_len]; exact Nat.le_refl _) (by omega) (by simp; omega) (fun j hj k v hv => cell_enc hL2 hA j hj k v hv)
    change Calls Tryd.prog 31 _ _ _ at hcon
    rw [show ((tis (x :: r) iL).take (x :: r).length).any (fun x => leB x.1 t) = holdsB (x :: r) t by
      rw [List.take_of_length_le (by rw [tis_len]; exact Nat.le_refl _)]; exact any_tis (x :: r) iL (fun y => leB y t)] at hcon
    subst hA
    clear hL hL2 O iL i eg
    generalize (x :: r).length = n at hcon mL ⊢
    generalize holdsB (x :: r) t = v at hcon ⊢
    go_enter Tryd.func11, Tryd.ntmps11
    go_wp2_with (go_at_call 31; refine hcon.mono ?_; rintro e w' ⟨rfl, hb'⟩)
    go_ret
    exact ⟨rfl, (fresh1 _ _).trans (hb'.mono (by simp))⟩
end Go.Proofs.YtmepiogoofmbbaaDoor.chain
namespace Go.Proofs.YtmepiogoofmbbaaDoor.chain
open Go.ChangeShapes Go.WideShapes Go.ChangeAt Go.RowKit Go.Shelf
open Go.Proofs.YtmepiogoofmbbaaDoor.tm Go.Proofs.YtmepiogoofmbbaaDoor.opened Go.Proofs.YtmepiogoofmbbaaDoor.block Go.Proofs.YtmepiogoofmbbaaDoor.stamp

/-- Is a list of times not behind another one? -/
def leL (L M : List Tm) : Bool := M.all fun t => holdsB L t
theorem all_no {M : List Tm} {k : Nat} {t : Tm} {p : Tm → Bool} (hk : M[k]? = some t) (h : p t = false) : M.all p = false := by
  rw [← Bool.not_eq_true, List.all_eq_true]
  exact fun hh => by rw [hh t (List.mem_of_getElem? hk)] at h; cases h
theorem all_of_take {M : List Tm} {p : Tm → Bool} (h : ∀ y ∈ M, p y = true) : M.all p = true := List.all_eq_true.2 h
set_option maxRecDepth 100000 in
theorem lists_any (A B : Option Addr) (c d : Nat) (L M : List Tm) (iL : InL L) (iM : InL M) (mL : L.length ≤ 4611686018427387903) (mM : M.length ≤ 4611686018427387903) (w : World) (hL : Lt w A L) (hM : Lt w B M) :
    Calls Tryd.prog 15 #[.slice A L.length c, .slice B M.length d] w fun e w' => e = .returned (.bool (leL L M)) ∧ Below w.heap.size w w' := by
  have HL := Lib.hid hL
  have HM := Lib.hid hM
  go_enter Tryd.func15, Tryd.ntmps15
  go_wp2_with fail
  go_loopw [9] (fun s wr => ∃ k : Nat, k ≤ M.length ∧ s = .int .i64 k ∧ Hid (∀ y ∈ M.take k, holdsB L y = true) ∧ Below w.heap.size w wr) (fun s _ => M.length - (intOf s).toNat)
  case atStart => exact ⟨0, Nat.zero_le _, rfl, Lib.hid (by simp), Below.refl _ _⟩
  case round =>
    obtain ⟨k, hk, rfl, HN, hb0⟩ := hrel
    by_cases hlt : k < M.length
    · obtain ⟨x, hx, hm⟩ := get_lt hlt
      obtain ⟨b, off, hA, hb, c0, c1, c2, c3, c4⟩ := (HM.out.below hb0).at hx
      subst hA
      have HX := Lib.hid hx
      have K := Lib.hid (holds_any A c L x (iM x hm) iL mL)
      clear hx hm
      obtain ⟨v, hv⟩ : ∃ v, holdsB L x = v := ⟨_, rfl⟩
      rw [hv] at K
      have HV := Lib.hid hv
      clear hv
      have BW := hb0.alloc hb0.size (.cells #[.int .u32 x.e, .int .i64 x.d, .int .u32 x.a, .int .u32 x.b, .int .u32 x.c] 26)
      go_wp2_with fail
      refine (K.out _ (by exact HL.out.below BW)).mono ?_
      rintro e w4 ⟨rfl, b4⟩
      have B4 : Below w.heap.size w w4 := BW.trans (b4.mono BW.size)
      clear b4 c0 c1 c2 c3 c4 hb hb0 BW
      cases v
      · go_wp2_with fail
        go_ret
        exact ⟨by rw [show leL L M = false from all_no HX.out HV.out]; rfl, B4⟩
      · go_wp2_with fail
        go_roundw
        case rel => exact ⟨k + 1, by omega, by go_num, Lib.hid (more HX.out HN.out HV.out), B4⟩
        case measure => simp [intOf]; omega
    · have hkk : k = M.length := by omega
      have H0 : Hid (∀ y ∈ M, holdsB L y = true) := Lib.hid (by have := HN.out; rwa [hkk, List.take_length] at this)
      clear HN hkk
      go_wp2_with fail
      go_ret
      exact ⟨by rw [show leL L M = true from all_of_take H0.out]; rfl, hb0⟩
/-- Great: are times too many to be asked? -/
theorem great_any (A : Option Addr) (c n : Nat) (hn : n ≤ 4611686018427387903) (w : World) : Calls Tryd.prog 8 #[.slice A n c] w fun e w' => e = .returned (.bool (decide (200 < n))) ∧ w = w' := by
  by_cases h : 200 < n
  · rw [decide_eq_true h]
    go_enter Tryd.func8, Tryd.ntmps8
    go_wp2
    go_ret
    exact ⟨by first | rfl | (simp; omega), rfl⟩
  · rw [decide_eq_false h]
    go_enter Tryd.func8, Tryd.ntmps8
    go_wp2
    go_ret
    exact ⟨by first | rfl | (simp; omega), rfl⟩
instance : Inhabited Tm := ⟨T0⟩
theorem neqT : NeqAt Tryd.prog 26 (fun t : Tm => .agg (cT t).toArray) eqT := ⟨fun x y w => run_neT x y w, GuardAt.agg _ (by kernel_rfl)⟩
theorem cell_cT {w : World} {A : Option Addr} {L : List Tm} {b off : Nat} (hL : Lt w A L) (hA : A = some ⟨b, off, none⟩) (j : Nat) (hj : j < L.length) (i : Nat) (v : Value) (hi : (cT L[j]!)[i]? = some v) : w.cell? ⟨b, off + j * 5 + i, none⟩ = some v := by
  have e : L[j]? = some L[j]! := by rw [getElem!_pos L j hj]; exact List.getElem?_eq_getElem hj
  obtain ⟨b', off', hA', -, c0, c1, c2, c3, c4⟩ := hL.at e
  rw [hA] at hA'
  injection (Option.some.inj hA') with h1 h2
  subst h1 h2
  generalize L[j]! = x at hi c0 c1 c2 c3 c4
  match i, hi with
  | 0, hi => simp [cT] at hi; rw [← hi]; exact c0
  | 1, hi => simp [cT] at hi; rw [← hi]; exact c1
  | 2, hi => simp [cT] at hi; rw [← hi]; exact c2
  | 3, hi => simp [cT] at hi; rw [← hi]; exact c3
  | 4, hi => simp [cT] at hi; rw [← hi]; exact c4
  | i + 5, hi => simp [cT] at hi
end Go.Proofs.YtmepiogoofmbbaaDoor.chain
namespace Go.Proofs.YtmepiogoofmbbaaDoor.stamp
open Go.ChangeShapes Go.WideShapes Go.ChangeAt Go.RowKit Go.Shelf Go.Lib Go.Sort
open Go.Proofs.YtmepiogoofmbbaaDoor.tm Go.Proofs.YtmepiogoofmbbaaDoor.opened Go.Proofs.YtmepiogoofmbbaaDoor.block

theorem compare_sameG (t : Tm) (_i : t.In) (w : World) : Calls Tryd.prog 30 #[.agg #[.int .u32 t.e, .int .i64 t.d, .int .u32 t.a, .int .u32 t.b, .int .u32 t.c], .agg #[.int .u32 t.e, .int .i64 t.d, .int .u32 t.a, .int .u32 t.b, .int .u32 t.c]] w fun e w' => e = .returned (.int .i64 0) ∧ ∃ q os', w' = grow (w.drewN q) os' := by
  have he := run_eq_yes t
  go_enter Tryd.func30, Tryd.ntmps30
  go_wp2_with (fail)
  go_ret
  exact ⟨rfl, 0, _, by rw [alloc_eq_grow, alloc_eq_grow, grow_grow]; rfl⟩
set_option maxHeartbeats 1000000 in
theorem compare_restG (s t : Tm) (_i : s.In) (_j : t.In) (h : s ≠ t) (w : World) : Calls Tryd.prog 30 #[.agg #[.int .u32 s.e, .int .i64 s.d, .int .u32 s.a, .int .u32 s.b, .int .u32 s.c], .agg #[.int .u32 t.e, .int .i64 t.d, .int .u32 t.a, .int .u32 t.b, .int .u32 t.c]] w fun e w' => e = .returned (.int .i64 (cmpT s t)) ∧ ∃ q os', w' = grow (w.drewN q) os' := by
  have he := run_eq_no h
  go_enter Tryd.func30, Tryd.ntmps30
  go_wp2_with (fail)
  clear he
  go_region_held3 (fun w' => w'.cell? ⟨w.heap.size, 0, none⟩ = some (.int .u32 s.e) ∧ w'.cell? ⟨w.heap.size, 1, none⟩ = some (.int .i64 s.d) ∧ w'.cell? ⟨w.heap.size, 2, none⟩ = some (.int .u32 s.a) ∧ w'.cell? ⟨w.heap.size, 3, none⟩ = some (.int .u32 s.b) ∧ w'.cell? ⟨w.heap.size, 4, none⟩ = some (.int .u32 s.c) ∧ w'.cell? ⟨w.heap.size + 1, 0, none⟩ = some (.int .u32 t.e) ∧ w'.cell? ⟨w.heap.size + 1, 1, none⟩ = some (.int .i64 t.d) ∧ w'.cell? ⟨w.heap.size + 1, 2, none⟩ = some (.int .u32 t.a) ∧ w'.cell? ⟨w.heap.size + 1, 3, none⟩ = some (.int .u32 t.b) ∧ w'.cell? ⟨w.heap.size + 1, 4, none⟩ = some (.int .u32 t.c))
    (go_keep)
    (first | (go_at_call 52; refine (cmp_i64 _ _ _).mono ?_; rintro e w' ⟨rfl, rfl⟩) | (go_at_call 53; refine (cmp_u32 _ _ _).mono ?_; rintro e w' ⟨rfl, rfl⟩) | (go_at_call 54; refine (cmp3_any s.a s.b s.c t.a t.b t.c _ _ _ ?_ ?_ ?_ ?_ ?_ ?_).mono ?_ <;> first | (rintro e w2 ⟨rfl, rfl⟩) | (go_split_ands; assumption)) | (go_at_call 51; refine (or_new _ _ _ ?_).mono ?_; (simp); rintro e w2 ⟨rfl, rfl⟩))
  all_goals go_wp2
  all_goals go_ret
  all_goals exact ⟨rfl, 1, _, by rw [alloc_eq_grow, alloc_eq_grow, alloc_eq_grow, grow_grow, grow_grow]; rfl⟩
theorem compare_grown (s t : Tm) (i : s.In) (j : t.In) (w : World) : Calls Tryd.prog 30 #[.agg #[.int .u32 s.e, .int .i64 s.d, .int .u32 s.a, .int .u32 s.b, .int .u32 s.c], .agg #[.int .u32 t.e, .int .i64 t.d, .int .u32 t.a, .int .u32 t.b, .int .u32 t.c]] w fun e w' => e = .returned (.int .i64 (cmpT s t)) ∧ ∃ q os', w' = grow (w.drewN q) os' := by
  by_cases h : s = t
  · subst h
    rw [cmpT_self]
    exact compare_sameG s i w
  · exact compare_restG s t i j h w
end Go.Proofs.YtmepiogoofmbbaaDoor.stamp
namespace Go.Proofs.YtmepiogoofmbbaaDoor.chain
open Go.ChangeShapes Go.WideShapes Go.ChangeAt Go.RowKit Go.Shelf Go.Lib Go.Sort
open Go.Proofs.YtmepiogoofmbbaaDoor.tm Go.Proofs.YtmepiogoofmbbaaDoor.opened Go.Proofs.YtmepiogoofmbbaaDoor.block Go.Proofs.YtmepiogoofmbbaaDoor.stamp

/-- What the sort is handed: the order of times. -/
def cfT (x y : TI) : Int := cmpT x.1 y.1
theorem lt_num (x y : TI) : ltOf cfT x y = decide (numT x.1 < numT y.1) := by
  unfold ltOf cfT
  rw [decide_eq_decide]
  exact cmpT_num x.2 y.2
theorem swoT : SWO (ltOf cfT) where
  irrefl x := by rw [lt_num]; simp
  trans x y z h1 h2 := by rw [lt_num] at *; simp at *; omega
  ntrans x y z h1 h2 := by rw [lt_num] at *; simp at *; omega
theorem totT (x y : TI) (h : ltOf cfT x y = false) (k : ltOf cfT y x = false) : x = y := by
  rw [lt_num] at h k
  simp at h k
  exact Subtype.ext (num_eq x.2 y.2 (by omega))
theorem oneT (x : TI) : ∀ v ∈ encI x, v.oneCell' = true := by
  intro v hv
  simp [encI, cT] at hv
  rcases hv with rfl | rfl | rfl | rfl | rfl <;> rfl
theorem laysT (blk off size : Nat) (w : World) : CmpLays Tryd.prog 30 #[] encI 5 cfT blk off size w := fun _ _ _ _ x y => compare_grown x.1 y.1 x.2 y.2 _
/-- The list, sorted. -/
def srt (M : List TI) : List TI := M.mergeSort fun x y => !ltOf cfT y x
theorem sort_any (blk off cap : Nat) (M : List TI) (w : World) (hH : HoldsK encI 5 w blk off M.toArray) (hblk : blk < w.heap.size) (hsz : M.length < 4611686018427387904) :
    Calls Tryd.prog 49 #[.slice (some ⟨blk, off, none⟩) M.length cap, .func (.func 30) #[] #[]] w fun e w' => e = .returned (.tuple #[]) ∧ ∃ n os, w' = sortWorldK encI 5 w blk off n (srt M).toArray os := by
  have eg : ∀ args w, (callFunc 30 args).run Tryd.prog w = .ok (.enter 30 args) w := enters_of Tryd.func30 (by kernel_rfl) rfl
  exact AnyQ.slices_SortFunc_total Tryd.lF6 5 Tryd.isAgg26 Tryd.sizeOf26 encI (fun _ => rfl) oneT cfT swoT 30 #[] blk off cap M.toArray w eg (laysT blk off _ w) hH hblk (by simpa using hsz) totT
theorem sort_none (A : Option Addr) (cap : Nat) (w : World) :
    Calls Tryd.prog 49 #[.slice A 0 cap, .func (.func 30) #[] #[]] w fun e w' => e = .returned (.tuple #[]) ∧ w' = w :=
  AnyF.slices_SortFunc_none { Tryd.lF6 with } A cap _ w
end Go.Proofs.YtmepiogoofmbbaaDoor.chain
