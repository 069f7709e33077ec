/-
  The contracts of what a disk's small functions do: check, step, used, stepOn, New, Arm, Down.
-/
import Derived.Test.YtkfjgmfokpgcbaaKx
import Derived.Test.YtkfjgmfokpgcbaaWn
import Derived.Test.YtkfjgmfokpgcbaaRt3
import Derived.Deep.QuietTactic
import Derived.BigQuiet
namespace Go.Proofs.Ytkfjgmfokpgcbaa.disk
open Go.ChangeShapes Go.WideShapes Go.ChangeAt Go.RowKit Go.Maps Go.WideMaps
open Go.Proofs.Ytkfjgmfokpgcbaa.words Go.Proofs.Ytkfjgmfokpgcbaa.opened Go.Proofs.Ytkfjgmfokpgcbaa.block

theorem check_any {g mb : Nat} {D : Dk} {E : List Fe} (n : Bs) (hn : n.length ≤ 100000) (w : World) (h : DiskE w g mb D E) :
    Calls Try.prog 30 #[.pointer (some ⟨g, 0, none⟩), sV n] w fun e w' => e = .returned (.int .i64 (chk D n)) ∧ Below w.heap.size w w' := by
  have c1 : w.cell? ⟨g, 1, none⟩ = some (.bool D.off) := h.cells.read 1
  have f1 : w.frozen? ⟨g, 1, none⟩ = false := h.cells.soft 1
  have HN := Lib.hid (name_any n hn w)
  have HC : Hid (chk D n = if D.off = true then 14 else if nameB n = true then 0 else 6) := Lib.hid rfl
  clear h
  generalize chk D n = k at HC ⊢
  generalize nameB n = q at HN HC
  generalize D.off = o at c1 HC
  cases o
  · cases q
    · have e : k = 6 := HC.out
      subst e
      go_enter Try.func30, Try.ntmps30
      go_wp2_with (go_at_call 43; refine HN.out.mono ?_; rintro e w1 ⟨rfl, b1⟩; have B1 := Lib.hid b1; clear b1)
      go_ret
      exact ⟨rfl, B1.out⟩
    · have e : k = 0 := HC.out
      subst e
      go_enter Try.func30, Try.ntmps30
      go_wp2_with (go_at_call 43; refine HN.out.mono ?_; rintro e w1 ⟨rfl, b1⟩; have B1 := Lib.hid b1; clear b1)
      go_ret
      exact ⟨rfl, B1.out⟩
  · have e : k = 14 := HC.out
    subst e
    go_enter Try.func30, Try.ntmps30
    go_wp2_with fail
    go_ret
    exact ⟨rfl, Below.refl _ _⟩
theorem step_any {g mb : Nat} {D : Dk} {E : List Fe} (h1 : D.left ≤ 9223372036854775807) (w : World) (h : DiskE w g mb D E) :
    Calls Try.prog 32 #[.pointer (some ⟨g, 0, none⟩)] w fun e w' => e = .returned (.int .i64 (stpE D)) ∧ DiskE w' g mb (stpV D) E ∧ w.grownBy w' (some g) ∧ w'.heap.size = w.heap.size := by
  have c1 : w.cell? ⟨g, 1, none⟩ = some (.bool D.off) := h.cells.read 1
  have f1 : w.frozen? ⟨g, 1, none⟩ = false := h.cells.soft 1
  have c2 : w.cell? ⟨g, 2, none⟩ = some (.int .i64 D.left) := h.cells.read 2
  have f2 : w.frozen? ⟨g, 2, none⟩ = false := h.cells.soft 2
  have hs1 := h.cells.store 1 (.bool true)
  have hs2 := h.cells.store 2 (.int .i64 (D.left - 1))
  have hg0 : w.grownBy w (some g) := ⟨rfl, rfl, rfl, Nat.le_refl _, fun _ _ _ => rfl⟩
  by_cases z : D.left = 0
  · have HV : Hid (DiskE (w.setCell ⟨g, 1, none⟩ (.bool true)) g mb (stpV D) E) := Lib.hid (by
      unfold stpV
      rw [if_pos z]
      exact h.write { D with off := true } rfl (by simpa using hs1) (only_store hg0 _))
    have HG : Hid (w.grownBy (w.setCell ⟨g, 1, none⟩ (.bool true)) (some g)) := Lib.hid (only_store hg0 _)
    have HE : Hid (stpE D = 14) := Lib.hid (by unfold stpE; rw [if_pos z])
    rw [z] at c2
    generalize stpE D = k at HE ⊢
    generalize stpV D = D' at HV ⊢
    obtain rfl : k = 14 := HE.out
    clear h hs1 hs2 z h1 hg0 HE
    go_enter Try.func32, Try.ntmps32
    go_wp2_with fail
    go_ret
    exact ⟨rfl, HV.out, HG.out, by simp [World.setCell]⟩
  · by_cases p : 0 < D.left
    · have HV : Hid (DiskE (w.setCell ⟨g, 2, none⟩ (.int .i64 (D.left - 1))) g mb (stpV D) E) := Lib.hid (by
        unfold stpV
        rw [if_neg z, if_pos p]
        exact h.write { D with left := D.left - 1 } rfl (by simpa using hs2) (only_store hg0 _))
      have HG : Hid (w.grownBy (w.setCell ⟨g, 2, none⟩ (.int .i64 (D.left - 1))) (some g)) := Lib.hid (only_store hg0 _)
      have HE : Hid (stpE D = 0) := Lib.hid (by unfold stpE; rw [if_neg z])
      generalize stpE D = k at HE ⊢
      generalize stpV D = D' at HV ⊢
      obtain rfl : k = 0 := HE.out
      clear h hs1 hs2 z hg0 HE
      generalize D.left = lf at c2 p h1 HV HG
      have hz : (lf == 0) = false := by simp; omega
      have hw : wrap64 (lf - 1) = lf - 1 := by unfold wrap64; omega
      go_enter Try.func32, Try.ntmps32
      go_wp2_with fail
      go_ret
      exact ⟨rfl, HV.out, HG.out, by simp [World.setCell]⟩
    · have HV : Hid (DiskE w g mb (stpV D) E) := Lib.hid (by
        unfold stpV
        rw [if_neg z, if_neg p]
        exact h)
      have HE : Hid (stpE D = 0) := Lib.hid (by unfold stpE; rw [if_neg z])
      have HG := Lib.hid hg0
      generalize stpE D = k at HE ⊢
      generalize stpV D = D' at HV ⊢
      obtain rfl : k = 0 := HE.out
      clear h hs1 hs2 hg0 HE h1
      generalize D.left = lf at c2 p z
      have hz : (lf == 0) = false := by simp; omega
      clear z
      go_enter Try.func32, Try.ntmps32
      go_wp2_with fail
      go_ret
      exact ⟨rfl, HV.out, HG.out, rfl⟩
theorem down_any {g mb : Nat} {D : Dk} {E : List Fe} (w : World) (h : DiskE w g mb D E) :
    Calls Try.prog 28 #[.pointer (some ⟨g, 0, none⟩)] w fun e w' => e = .returned (.bool D.off) ∧ w = w' := by
  have c1 : w.cell? ⟨g, 1, none⟩ = some (.bool D.off) := h.cells.read 1
  have f1 : w.frozen? ⟨g, 1, none⟩ = false := h.cells.soft 1
  clear h
  generalize D.off = o at c1 ⊢
  go_enter Try.func28, Try.ntmps28
  go_wp2_with fail
  go_ret
  exact ⟨rfl, rfl⟩
theorem arm_any {g mb : Nat} {D : Dk} {E : List Fe} (n : Int) (w : World) (h : DiskE w g mb D E) :
    Calls Try.prog 15 #[.pointer (some ⟨g, 0, none⟩), .int .i64 n] w fun e w' => e = .returned (.tuple #[]) ∧ DiskE w' g mb (armV D n) E ∧ w.grownBy w' (some g) ∧ w'.heap.size = w.heap.size := by
  have c2 : w.cell? ⟨g, 2, none⟩ = some (.int .i64 D.left) := h.cells.read 2
  have f2 : w.frozen? ⟨g, 2, none⟩ = false := h.cells.soft 2
  have hg0 : w.grownBy w (some g) := ⟨rfl, rfl, rfl, Nat.le_refl _, fun _ _ _ => rfl⟩
  have HV : Hid (DiskE (w.setCell ⟨g, 2, none⟩ (.int .i64 n)) g mb (armV D n) E) := Lib.hid (h.write (armV D n) rfl (by simpa [armV] using h.cells.store 2 (.int .i64 n)) (only_store hg0 _))
  have HG : Hid (w.grownBy (w.setCell ⟨g, 2, none⟩ (.int .i64 n)) (some g)) := Lib.hid (only_store hg0 _)
  clear h hg0
  generalize armV D n = D' at HV ⊢
  generalize D.left = lf at c2
  go_enter Try.func15, Try.ntmps15
  go_wp2_with fail
  go_end0
  exact ⟨rfl, HV.out, HG.out, by simp [World.setCell]⟩
theorem diskE_made (w : World) : DiskE ((w.alloc (.map #[] 0)).alloc (.cells #[.map (some w.heap.size), .bool false, .int .i64 (-1)] 54)) (w.heap.size + 1) w.heap.size ⟨[], false, -1⟩ [] := by
  have W := Whole.fresh (w.alloc (.map #[] 0)) 54 #[.map (some w.heap.size), .bool false, .int .i64 (-1)]
  have hz : (w.alloc (.map #[] 0)).heap.size = w.heap.size + 1 := by simp
  rw [hz] at W
  refine ⟨rfl, W, (ownF_made w).same ((Below.heap_alloc _ _ _ (by rw [hz]; omega))), fun _ h => (nomatch h), List.Pairwise.nil, by omega, fun _ h => (nomatch h)⟩
theorem new_any (w : World) : Calls Try.prog 7 #[] w fun e w' => e = .returned (.pointer (some ⟨w.heap.size + 1, 0, none⟩)) ∧ DiskE w' (w.heap.size + 1) w.heap.size ⟨[], false, -1⟩ [] ∧ Below w.heap.size w w' := by
  have hmm := @run_makeMap Try.prog
  have HV := Lib.hid (diskE_made w)
  go_enter Try.func7, Try.ntmps7
  go_wp2_with fail
  go_ret
  exact ⟨rfl, HV.out, ((Below.refl _ _).alloc (Nat.le_refl _) _).alloc (by simp) _⟩
end Go.Proofs.Ytkfjgmfokpgcbaa.disk
