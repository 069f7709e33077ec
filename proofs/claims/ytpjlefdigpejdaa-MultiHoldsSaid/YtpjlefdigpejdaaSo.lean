/-
  The order of times, as the sort wants it; slices.SortFunc at times.
-/
import Derived.Test.YtpjlefdigpejdaaCg
import Derived.Test.YtpjlefdigpejdaaNm
namespace Go.Proofs.Ytpjlefdigpejdaa.chain
open Go.ChangeShapes Go.WideShapes Go.ChangeAt Go.RowKit Go.Shelf Go.Lib Go.Sort
open Go.Proofs.Ytpjlefdigpejdaa.tm Go.Proofs.Ytpjlefdigpejdaa.opened Go.Proofs.Ytpjlefdigpejdaa.block Go.Proofs.Ytpjlefdigpejdaa.stamp

/-- What the sort is handed: the order of times. -/
def cfT (x y : TI) : Int := cmpT x.1 y.1
theorem lt_num (x y : TI) : ltOf cfT x y = decide (numT x.1 < numT y.1) := by
  unfold ltOf cfT
  rw [decide_eq_decide]
  exact cmpT_num x.2 y.2
theorem swoT : SWO (ltOf cfT) where
  irrefl x := by rw [lt_num]; simp
  trans x y z h1 h2 := by rw [lt_num] at *; simp at *; omega
  ntrans x y z h1 h2 := by rw [lt_num] at *; simp at *; omega
theorem totT (x y : TI) (h : ltOf cfT x y = false) (k : ltOf cfT y x = false) : x = y := by
  rw [lt_num] at h k
  simp at h k
  exact Subtype.ext (num_eq x.2 y.2 (by omega))
theorem oneT (x : TI) : ∀ v ∈ encI x, v.oneCell' = true := by
  intro v hv
  simp [encI, cT] at hv
  rcases hv with rfl | rfl | rfl | rfl | rfl <;> rfl
theorem laysT (blk off size : Nat) (w : World) : CmpLays Try.prog 76 #[] encI 5 cfT blk off size w := fun _ _ _ _ x y => compare_grown x.1 y.1 x.2 y.2 _
/-- The list, sorted. -/
def srt (M : List TI) : List TI := M.mergeSort fun x y => !ltOf cfT y x
theorem sort_any (blk off cap : Nat) (M : List TI) (w : World) (hH : HoldsK encI 5 w blk off M.toArray) (hblk : blk < w.heap.size) (hsz : M.length < 4611686018427387904) :
    Calls Try.prog 101 #[.slice (some ⟨blk, off, none⟩) M.length cap, .func (.func 76) #[] #[]] w fun e w' => e = .returned (.tuple #[]) ∧ ∃ n os, w' = sortWorldK encI 5 w blk off n (srt M).toArray os := by
  have eg : ∀ args w, (callFunc 76 args).run Try.prog w = .ok (.enter 76 args) w := enters_of Try.func76 (by kernel_rfl) rfl
  exact AnyQ.slices_SortFunc_total Try.lF6 5 Try.isAgg33 Try.sizeOf33 encI (fun _ => rfl) oneT cfT swoT 76 #[] blk off cap M.toArray w eg (laysT blk off _ w) hH hblk (by simpa using hsz) totT
theorem sort_none (A : Option Addr) (cap : Nat) (w : World) :
    Calls Try.prog 101 #[.slice A 0 cap, .func (.func 76) #[] #[]] w fun e w' => e = .returned (.tuple #[]) ∧ w' = w :=
  AnyF.slices_SortFunc_none { Try.lF6 with } A cap _ w
end Go.Proofs.Ytpjlefdigpejdaa.chain
