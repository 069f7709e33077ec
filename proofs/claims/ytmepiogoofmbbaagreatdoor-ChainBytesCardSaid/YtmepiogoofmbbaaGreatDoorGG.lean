/-
  The contract of chain.Holds; slices.Equal over times.
  The contracts of chain.LE, watershedref06.LE and of slices.Equal over times.
  The contract of stamp.Compare once more: the world behind it, as the sort wants it.
  The order of times, as the sort wants it; slices.SortFunc at times.
-/
import Derived.Test.YtmepiogoofmbbaaGreatDoorLay
import Derived.Test.YtmepiogoofmbbaaGreatDoorGF
import Derived.Test.YtmepiogoofmbbaaGreatDoorGC
import Derived.Deep.RegionWith
import Derived.Deep.RegionHeld3
import Derived.Test.YtmepiogoofmbbaaGreatDoorGA
namespace Go.Proofs.YtmepiogoofmbbaaGreatDoor.chain
open Go.ChangeShapes Go.WideShapes Go.ChangeAt Go.RowKit Go.Shelf
open Go.Proofs.YtmepiogoofmbbaaGreatDoor.tm Go.Proofs.YtmepiogoofmbbaaGreatDoor.opened Go.Proofs.YtmepiogoofmbbaaGreatDoor.block Go.Proofs.YtmepiogoofmbbaaGreatDoor.stamp

/-- A time within its kinds. -/
abbrev TI : Type := { t : Tm // t.In }
instance : Inhabited TI := ⟨⟨T0, by constructor <;> decide⟩⟩
def encI (x : TI) : List Value := cT x.1
/-- The list, each with its bounds. -/
def tis (L : List Tm) (h : InL L) : List TI := L.attach.map fun x => ⟨x.1, h x.1 x.2⟩
theorem tis_len (L : List Tm) (h : InL L) : (tis L h).length = L.length := by simp [tis]
theorem tis_val (L : List Tm) (h : InL L) : (tis L h).map (·.1) = L := by
  unfold tis
  rw [List.map_map]
  exact List.attach_map_subtype_val L
theorem tis_get {L : List Tm} {h : InL L} {j : Nat} (hj : j < (tis L h).length) : L[j]? = some ((tis L h)[j]!).1 := by
  have e := congrArg (fun M => M[j]?) (tis_val L h)
  simp only [List.getElem?_map] at e
  rw [← e, getElem!_pos _ j hj, List.getElem?_eq_getElem hj]
  rfl
theorem cell_enc {w : World} {A : Option Addr} {L : List Tm} {h : InL L} {b off : Nat} (hL : Lt w A L) (hA : A = some ⟨b, off, none⟩) (j : Nat) (hj : j < (tis L h).length) (i : Nat) (v : Value) (hi : (encI (tis L h)[j]!)[i]? = some v) : w.cell? ⟨b, off + j * 5 + i, none⟩ = some v := by
  obtain ⟨b', off', hA', -, c0, c1, c2, c3, c4⟩ := hL.at (tis_get hj)
  rw [hA] at hA'
  injection (Option.some.inj hA') with h1 h2
  subst h1 h2
  generalize (tis L h)[j]! = x at hi c0 c1 c2 c3 c4
  match i, hi with
  | 0, hi => simp [encI, cT] at hi; rw [← hi]; exact c0
  | 1, hi => simp [encI, cT] at hi; rw [← hi]; exact c1
  | 2, hi => simp [encI, cT] at hi; rw [← hi]; exact c2
  | 3, hi => simp [encI, cT] at hi; rw [← hi]; exact c3
  | 4, hi => simp [encI, cT] at hi; rw [← hi]; exact c4
  | i + 5, hi => simp [encI, cT] at hi
theorem any_tis (L : List Tm) (h : InL L) (p : Tm → Bool) : (tis L h).any (fun x => p x.1) = L.any p := by
  have e := congrArg (fun M => M.any p) (tis_val L h)
  simp only [List.any_map] at e
  exact e
end Go.Proofs.YtmepiogoofmbbaaGreatDoor.chain
namespace Go.Proofs.YtmepiogoofmbbaaGreatDoor.chain
open Go.ChangeShapes Go.WideShapes Go.ChangeAt Go.RowKit Go.Shelf
open Go.Proofs.YtmepiogoofmbbaaGreatDoor.tm Go.Proofs.YtmepiogoofmbbaaGreatDoor.opened Go.Proofs.YtmepiogoofmbbaaGreatDoor.block Go.Proofs.YtmepiogoofmbbaaGreatDoor.stamp

/-- Is a list of times not behind another one? -/
def leL (L M : List Tm) : Bool := M.all fun t => holdsB L t
theorem all_no {M : List Tm} {k : Nat} {t : Tm} {p : Tm → Bool} (hk : M[k]? = some t) (h : p t = false) : M.all p = false := by
  rw [← Bool.not_eq_true, List.all_eq_true]
  exact fun hh => by rw [hh t (List.mem_of_getElem? hk)] at h; cases h
theorem all_of_take {M : List Tm} {p : Tm → Bool} (h : ∀ y ∈ M, p y = true) : M.all p = true := List.all_eq_true.2 h
/-- Great: are times too many to be asked? -/
theorem great_any (A : Option Addr) (c n : Nat) (hn : n ≤ 4611686018427387903) (w : World) : Calls Tryz.prog 4 #[.slice A n c] w fun e w' => e = .returned (.bool (decide (200 < n))) ∧ w = w' := by
  by_cases h : 200 < n
  · rw [decide_eq_true h]
    go_enter Tryz.func4, Tryz.ntmps4
    go_wp2
    go_ret
    exact ⟨by first | rfl | (simp; omega), rfl⟩
  · rw [decide_eq_false h]
    go_enter Tryz.func4, Tryz.ntmps4
    go_wp2
    go_ret
    exact ⟨by first | rfl | (simp; omega), rfl⟩
instance : Inhabited Tm := ⟨T0⟩
theorem neqT : NeqAt Tryz.prog 49 (fun t : Tm => .agg (cT t).toArray) eqT := ⟨fun x y w => run_neT x y w, GuardAt.agg _ (by kernel_rfl)⟩
theorem cell_cT {w : World} {A : Option Addr} {L : List Tm} {b off : Nat} (hL : Lt w A L) (hA : A = some ⟨b, off, none⟩) (j : Nat) (hj : j < L.length) (i : Nat) (v : Value) (hi : (cT L[j]!)[i]? = some v) : w.cell? ⟨b, off + j * 5 + i, none⟩ = some v := by
  have e : L[j]? = some L[j]! := by rw [getElem!_pos L j hj]; exact List.getElem?_eq_getElem hj
  obtain ⟨b', off', hA', -, c0, c1, c2, c3, c4⟩ := hL.at e
  rw [hA] at hA'
  injection (Option.some.inj hA') with h1 h2
  subst h1 h2
  generalize L[j]! = x at hi c0 c1 c2 c3 c4
  match i, hi with
  | 0, hi => simp [cT] at hi; rw [← hi]; exact c0
  | 1, hi => simp [cT] at hi; rw [← hi]; exact c1
  | 2, hi => simp [cT] at hi; rw [← hi]; exact c2
  | 3, hi => simp [cT] at hi; rw [← hi]; exact c3
  | 4, hi => simp [cT] at hi; rw [← hi]; exact c4
  | i + 5, hi => simp [cT] at hi
end Go.Proofs.YtmepiogoofmbbaaGreatDoor.chain
namespace Go.Proofs.YtmepiogoofmbbaaGreatDoor.stamp
open Go.ChangeShapes Go.WideShapes Go.ChangeAt Go.RowKit Go.Shelf Go.Lib Go.Sort
open Go.Proofs.YtmepiogoofmbbaaGreatDoor.tm Go.Proofs.YtmepiogoofmbbaaGreatDoor.opened Go.Proofs.YtmepiogoofmbbaaGreatDoor.block

theorem compare_sameG (t : Tm) (_i : t.In) (w : World) : Calls Tryz.prog 59 #[.agg #[.int .u32 t.e, .int .i64 t.d, .int .u32 t.a, .int .u32 t.b, .int .u32 t.c], .agg #[.int .u32 t.e, .int .i64 t.d, .int .u32 t.a, .int .u32 t.b, .int .u32 t.c]] w fun e w' => e = .returned (.int .i64 0) ∧ ∃ q os', w' = grow (w.drewN q) os' := by
  have he := run_eq_yes t
  go_enter Tryz.func59, Tryz.ntmps59
  go_wp2_with (fail)
  go_ret
  exact ⟨rfl, 0, _, by rw [alloc_eq_grow, alloc_eq_grow, grow_grow]; rfl⟩
set_option maxHeartbeats 1000000 in
theorem compare_restG (s t : Tm) (_i : s.In) (_j : t.In) (h : s ≠ t) (w : World) : Calls Tryz.prog 59 #[.agg #[.int .u32 s.e, .int .i64 s.d, .int .u32 s.a, .int .u32 s.b, .int .u32 s.c], .agg #[.int .u32 t.e, .int .i64 t.d, .int .u32 t.a, .int .u32 t.b, .int .u32 t.c]] w fun e w' => e = .returned (.int .i64 (cmpT s t)) ∧ ∃ q os', w' = grow (w.drewN q) os' := by
  have he := run_eq_no h
  go_enter Tryz.func59, Tryz.ntmps59
  go_wp2_with (fail)
  clear he
  go_region_held3 (fun w' => w'.cell? ⟨w.heap.size, 0, none⟩ = some (.int .u32 s.e) ∧ w'.cell? ⟨w.heap.size, 1, none⟩ = some (.int .i64 s.d) ∧ w'.cell? ⟨w.heap.size, 2, none⟩ = some (.int .u32 s.a) ∧ w'.cell? ⟨w.heap.size, 3, none⟩ = some (.int .u32 s.b) ∧ w'.cell? ⟨w.heap.size, 4, none⟩ = some (.int .u32 s.c) ∧ w'.cell? ⟨w.heap.size + 1, 0, none⟩ = some (.int .u32 t.e) ∧ w'.cell? ⟨w.heap.size + 1, 1, none⟩ = some (.int .i64 t.d) ∧ w'.cell? ⟨w.heap.size + 1, 2, none⟩ = some (.int .u32 t.a) ∧ w'.cell? ⟨w.heap.size + 1, 3, none⟩ = some (.int .u32 t.b) ∧ w'.cell? ⟨w.heap.size + 1, 4, none⟩ = some (.int .u32 t.c))
    (go_keep)
    (first | (go_at_call 73; refine (cmp_i64 _ _ _).mono ?_; rintro e w' ⟨rfl, rfl⟩) | (go_at_call 74; refine (cmp_u32 _ _ _).mono ?_; rintro e w' ⟨rfl, rfl⟩) | (go_at_call 75; refine (cmp3_any s.a s.b s.c t.a t.b t.c _ _ _ ?_ ?_ ?_ ?_ ?_ ?_).mono ?_ <;> first | (rintro e w2 ⟨rfl, rfl⟩) | (go_split_ands; assumption)) | (go_at_call 72; refine (or_new _ _ _ ?_).mono ?_; (simp); rintro e w2 ⟨rfl, rfl⟩))
  all_goals go_wp2
  all_goals go_ret
  all_goals exact ⟨rfl, 1, _, by rw [alloc_eq_grow, alloc_eq_grow, alloc_eq_grow, grow_grow, grow_grow]; rfl⟩
theorem compare_grown (s t : Tm) (i : s.In) (j : t.In) (w : World) : Calls Tryz.prog 59 #[.agg #[.int .u32 s.e, .int .i64 s.d, .int .u32 s.a, .int .u32 s.b, .int .u32 s.c], .agg #[.int .u32 t.e, .int .i64 t.d, .int .u32 t.a, .int .u32 t.b, .int .u32 t.c]] w fun e w' => e = .returned (.int .i64 (cmpT s t)) ∧ ∃ q os', w' = grow (w.drewN q) os' := by
  by_cases h : s = t
  · subst h
    rw [cmpT_self]
    exact compare_sameG s i w
  · exact compare_restG s t i j h w
end Go.Proofs.YtmepiogoofmbbaaGreatDoor.stamp
namespace Go.Proofs.YtmepiogoofmbbaaGreatDoor.chain
open Go.ChangeShapes Go.WideShapes Go.ChangeAt Go.RowKit Go.Shelf Go.Lib Go.Sort
open Go.Proofs.YtmepiogoofmbbaaGreatDoor.tm Go.Proofs.YtmepiogoofmbbaaGreatDoor.opened Go.Proofs.YtmepiogoofmbbaaGreatDoor.block Go.Proofs.YtmepiogoofmbbaaGreatDoor.stamp

/-- What the sort is handed: the order of times. -/
def cfT (x y : TI) : Int := cmpT x.1 y.1
theorem lt_num (x y : TI) : ltOf cfT x y = decide (numT x.1 < numT y.1) := by
  unfold ltOf cfT
  rw [decide_eq_decide]
  exact cmpT_num x.2 y.2
theorem swoT : SWO (ltOf cfT) where
  irrefl x := by rw [lt_num]; simp
  trans x y z h1 h2 := by rw [lt_num] at *; simp at *; omega
  ntrans x y z h1 h2 := by rw [lt_num] at *; simp at *; omega
theorem totT (x y : TI) (h : ltOf cfT x y = false) (k : ltOf cfT y x = false) : x = y := by
  rw [lt_num] at h k
  simp at h k
  exact Subtype.ext (num_eq x.2 y.2 (by omega))
theorem oneT (x : TI) : ∀ v ∈ encI x, v.oneCell' = true := by
  intro v hv
  simp [encI, cT] at hv
  rcases hv with rfl | rfl | rfl | rfl | rfl <;> rfl
theorem laysT (blk off size : Nat) (w : World) : CmpLays Tryz.prog 59 #[] encI 5 cfT blk off size w := fun _ _ _ _ x y => compare_grown x.1 y.1 x.2 y.2 _
/-- The list, sorted. -/
def srt (M : List TI) : List TI := M.mergeSort fun x y => !ltOf cfT y x
theorem sort_any (blk off cap : Nat) (M : List TI) (w : World) (hH : HoldsK encI 5 w blk off M.toArray) (hblk : blk < w.heap.size) (hsz : M.length < 4611686018427387904) :
    Calls Tryz.prog 70 #[.slice (some ⟨blk, off, none⟩) M.length cap, .func (.func 59) #[] #[]] w fun e w' => e = .returned (.tuple #[]) ∧ ∃ n os, w' = sortWorldK encI 5 w blk off n (srt M).toArray os := by
  have eg : ∀ args w, (callFunc 59 args).run Tryz.prog w = .ok (.enter 59 args) w := enters_of Tryz.func59 (by kernel_rfl) rfl
  exact AnyQ.slices_SortFunc_total Tryz.lF6 5 Tryz.isAgg49 Tryz.sizeOf49 encI (fun _ => rfl) oneT cfT swoT 59 #[] blk off cap M.toArray w eg (laysT blk off _ w) hH hblk (by simpa using hsz) totT
theorem sort_none (A : Option Addr) (cap : Nat) (w : World) :
    Calls Tryz.prog 70 #[.slice A 0 cap, .func (.func 59) #[] #[]] w fun e w' => e = .returned (.tuple #[]) ∧ w' = w :=
  AnyF.slices_SortFunc_none { Tryz.lF6 with } A cap _ w
end Go.Proofs.YtmepiogoofmbbaaGreatDoor.chain
