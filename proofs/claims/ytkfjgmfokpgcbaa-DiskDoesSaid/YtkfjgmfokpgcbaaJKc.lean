/-
  The contracts of what a disk's small functions do: check, step, used, stepOn, New, Arm, Down.
  The document's disk: what it lies in, and the contracts of its small functions.
-/
import Derived.Test.YtkfjgmfokpgcbaaJKw
import Derived.Test.YtkfjgmfokpgcbaaJWn
import Derived.Test.YtkfjgmfokpgcbaaJRt3
import Derived.Deep.QuietTactic
import Derived.BigQuiet
import Derived.Test.YtkfjgmfokpgcbaaJWu
import Derived.Test.YtkfjgmfokpgcbaaJAp
namespace Go.Proofs.Ytkfjgmfokpgcbaa.disk
open Go.ChangeShapes Go.WideShapes Go.ChangeAt Go.RowKit Go.Maps Go.WideMaps
open Go.Proofs.Ytkfjgmfokpgcbaa.words Go.Proofs.Ytkfjgmfokpgcbaa.opened Go.Proofs.Ytkfjgmfokpgcbaa.block

theorem check_any {g mb : Nat} {D : Dk} {E : List Fe} (n : Bs) (hn : n.length ≤ 100000) (w : World) (h : DiskE w g mb D E) :
    Calls Try.prog 30 #[.pointer (some ⟨g, 0, none⟩), sV n] w fun e w' => e = .returned (.int .i64 (chk D n)) ∧ Below w.heap.size w w' := by
  have c1 : w.cell? ⟨g, 1, none⟩ = some (.bool D.off) := h.cells.read 1
  have f1 : w.frozen? ⟨g, 1, none⟩ = false := h.cells.soft 1
  have HN := Lib.hid (name_any n hn w)
  have HC : Hid (chk D n = if D.off = true then 14 else if nameB n = true then 0 else 6) := Lib.hid rfl
  clear h
  generalize chk D n = k at HC ⊢
  generalize nameB n = q at HN HC
  generalize D.off = o at c1 HC
  cases o
  · cases q
    · have e : k = 6 := HC.out
      subst e
      go_enter Try.func30, Try.ntmps30
      go_wp2_with (go_at_call 43; refine HN.out.mono ?_; rintro e w1 ⟨rfl, b1⟩; have B1 := Lib.hid b1; clear b1)
      go_ret
      exact ⟨rfl, B1.out⟩
    · have e : k = 0 := HC.out
      subst e
      go_enter Try.func30, Try.ntmps30
      go_wp2_with (go_at_call 43; refine HN.out.mono ?_; rintro e w1 ⟨rfl, b1⟩; have B1 := Lib.hid b1; clear b1)
      go_ret
      exact ⟨rfl, B1.out⟩
  · have e : k = 14 := HC.out
    subst e
    go_enter Try.func30, Try.ntmps30
    go_wp2_with fail
    go_ret
    exact ⟨rfl, Below.refl _ _⟩
theorem step_any {g mb : Nat} {D : Dk} {E : List Fe} (h1 : D.left ≤ 9223372036854775807) (w : World) (h : DiskE w g mb D E) :
    Calls Try.prog 32 #[.pointer (some ⟨g, 0, none⟩)] w fun e w' => e = .returned (.int .i64 (stpE D)) ∧ DiskE w' g mb (stpV D) E ∧ w.grownBy w' (some g) ∧ w'.heap.size = w.heap.size := by
  have c1 : w.cell? ⟨g, 1, none⟩ = some (.bool D.off) := h.cells.read 1
  have f1 : w.frozen? ⟨g, 1, none⟩ = false := h.cells.soft 1
  have c2 : w.cell? ⟨g, 2, none⟩ = some (.int .i64 D.left) := h.cells.read 2
  have f2 : w.frozen? ⟨g, 2, none⟩ = false := h.cells.soft 2
  have hs1 := h.cells.store 1 (.bool true)
  have hs2 := h.cells.store 2 (.int .i64 (D.left - 1))
  have hg0 : w.grownBy w (some g) := ⟨rfl, rfl, rfl, Nat.le_refl _, fun _ _ _ => rfl⟩
  by_cases z : D.left = 0
  · have HV : Hid (DiskE (w.setCell ⟨g, 1, none⟩ (.bool true)) g mb (stpV D) E) := Lib.hid (by
      unfold stpV
      rw [if_pos z]
      exact h.write { D with off := true } rfl (by simpa using hs1) (only_store hg0 _))
    have HG : Hid (w.grownBy (w.setCell ⟨g, 1, none⟩ (.bool true)) (some g)) := Lib.hid (only_store hg0 _)
    have HE : Hid (stpE D = 14) := Lib.hid (by unfold stpE; rw [if_pos z])
    rw [z] at c2
    generalize stpE D = k at HE ⊢
    generalize stpV D = D' at HV ⊢
    obtain rfl : k = 14 := HE.out
    clear h hs1 hs2 z h1 hg0 HE
    go_enter Try.func32, Try.ntmps32
    go_wp2_with fail
    go_ret
    exact ⟨rfl, HV.out, HG.out, by simp [World.setCell]⟩
  · by_cases p : 0 < D.left
    · have HV : Hid (DiskE (w.setCell ⟨g, 2, none⟩ (.int .i64 (D.left - 1))) g mb (stpV D) E) := Lib.hid (by
        unfold stpV
        rw [if_neg z, if_pos p]
        exact h.write { D with left := D.left - 1 } rfl (by simpa using hs2) (only_store hg0 _))
      have HG : Hid (w.grownBy (w.setCell ⟨g, 2, none⟩ (.int .i64 (D.left - 1))) (some g)) := Lib.hid (only_store hg0 _)
      have HE : Hid (stpE D = 0) := Lib.hid (by unfold stpE; rw [if_neg z])
      generalize stpE D = k at HE ⊢
      generalize stpV D = D' at HV ⊢
      obtain rfl : k = 0 := HE.out
      clear h hs1 hs2 z hg0 HE
      generalize D.left = lf at c2 p h1 HV HG
      have hz : (lf == 0) = false := by simp; omega
      have hw : wrap64 (lf - 1) = lf - 1 := by unfold wrap64; omega
      go_enter Try.func32, Try.ntmps32
      go_wp2_with fail
      go_ret
      exact ⟨rfl, HV.out, HG.out, by simp [World.setCell]⟩
    · have HV : Hid (DiskE w g mb (stpV D) E) := Lib.hid (by
        unfold stpV
        rw [if_neg z, if_neg p]
        exact h)
      have HE : Hid (stpE D = 0) := Lib.hid (by unfold stpE; rw [if_neg z])
      have HG := Lib.hid hg0
      generalize stpE D = k at HE ⊢
      generalize stpV D = D' at HV ⊢
      obtain rfl : k = 0 := HE.out
      clear h hs1 hs2 hg0 HE h1
      generalize D.left = lf at c2 p z
      have hz : (lf == 0) = false := by simp; omega
      clear z
      go_enter Try.func32, Try.ntmps32
      go_wp2_with fail
      go_ret
      exact ⟨rfl, HV.out, HG.out, rfl⟩
theorem down_any {g mb : Nat} {D : Dk} {E : List Fe} (w : World) (h : DiskE w g mb D E) :
    Calls Try.prog 28 #[.pointer (some ⟨g, 0, none⟩)] w fun e w' => e = .returned (.bool D.off) ∧ w = w' := by
  have c1 : w.cell? ⟨g, 1, none⟩ = some (.bool D.off) := h.cells.read 1
  have f1 : w.frozen? ⟨g, 1, none⟩ = false := h.cells.soft 1
  clear h
  generalize D.off = o at c1 ⊢
  go_enter Try.func28, Try.ntmps28
  go_wp2_with fail
  go_ret
  exact ⟨rfl, rfl⟩
theorem arm_any {g mb : Nat} {D : Dk} {E : List Fe} (n : Int) (w : World) (h : DiskE w g mb D E) :
    Calls Try.prog 15 #[.pointer (some ⟨g, 0, none⟩), .int .i64 n] w fun e w' => e = .returned (.tuple #[]) ∧ DiskE w' g mb (armV D n) E ∧ w.grownBy w' (some g) ∧ w'.heap.size = w.heap.size := by
  have c2 : w.cell? ⟨g, 2, none⟩ = some (.int .i64 D.left) := h.cells.read 2
  have f2 : w.frozen? ⟨g, 2, none⟩ = false := h.cells.soft 2
  have hg0 : w.grownBy w (some g) := ⟨rfl, rfl, rfl, Nat.le_refl _, fun _ _ _ => rfl⟩
  have HV : Hid (DiskE (w.setCell ⟨g, 2, none⟩ (.int .i64 n)) g mb (armV D n) E) := Lib.hid (h.write (armV D n) rfl (by simpa [armV] using h.cells.store 2 (.int .i64 n)) (only_store hg0 _))
  have HG : Hid (w.grownBy (w.setCell ⟨g, 2, none⟩ (.int .i64 n)) (some g)) := Lib.hid (only_store hg0 _)
  clear h hg0
  generalize armV D n = D' at HV ⊢
  generalize D.left = lf at c2
  go_enter Try.func15, Try.ntmps15
  go_wp2_with fail
  go_end0
  exact ⟨rfl, HV.out, HG.out, by simp [World.setCell]⟩
theorem diskE_made (w : World) : DiskE ((w.alloc (.map #[] 0)).alloc (.cells #[.map (some w.heap.size), .bool false, .int .i64 (-1)] 54)) (w.heap.size + 1) w.heap.size ⟨[], false, -1⟩ [] := by
  have W := Whole.fresh (w.alloc (.map #[] 0)) 54 #[.map (some w.heap.size), .bool false, .int .i64 (-1)]
  have hz : (w.alloc (.map #[] 0)).heap.size = w.heap.size + 1 := by simp
  rw [hz] at W
  refine ⟨rfl, W, (ownF_made w).same ((Below.heap_alloc _ _ _ (by rw [hz]; omega))), fun _ h => (nomatch h), List.Pairwise.nil, by omega, fun _ h => (nomatch h)⟩
theorem new_any (w : World) : Calls Try.prog 7 #[] w fun e w' => e = .returned (.pointer (some ⟨w.heap.size + 1, 0, none⟩)) ∧ DiskE w' (w.heap.size + 1) w.heap.size ⟨[], false, -1⟩ [] ∧ Below w.heap.size w w' := by
  have hmm := @run_makeMap Try.prog
  have HV := Lib.hid (diskE_made w)
  go_enter Try.func7, Try.ntmps7
  go_wp2_with fail
  go_ret
  exact ⟨rfl, HV.out, ((Below.refl _ _).alloc (Nat.le_refl _) _).alloc (by simp) _⟩
end Go.Proofs.Ytkfjgmfokpgcbaa.disk
set_option linter.unusedSimpArgs false
set_option linter.unusedVariables false
namespace Go.Proofs.Ytkfjgmfokpgcbaa.disk
open Go.ChangeShapes Go.WideShapes Go.ChangeAt Go.RowKit
open Go.Proofs.Ytkfjgmfokpgcbaa.words Go.Proofs.Ytkfjgmfokpgcbaa.opened Go.Proofs.Ytkfjgmfokpgcbaa.block Go.Proofs.Ytkfjgmfokpgcbaa.data

def cF (f : Fl) : List Value := [sV f.n, sV f.b, .int .i64 (f.l : Int)]
theorem cellsF : Cells 3 cF := ⟨fun _ => rfl, fun x v hv => by
  simp [cF] at hv
  rcases hv with rfl | rfl | rfl <;> rfl⟩
abbrev Lf (w : World) (A : Option Addr) (F : List Fl) : Prop := Lg 3 cF w A F
theorem at_f {w : World} {A : Option Addr} {F : List Fl} (h : Lf w A F) {k : Nat} {f : Fl} (hk : F[k]? = some f) : ∃ b off, A = some ⟨b, off, none⟩ ∧ b < w.heap.size ∧
    w.cell? ⟨b, off + k * 3, none⟩ = some (sV f.n) ∧ w.cell? ⟨b, off + k * 3 + 1, none⟩ = some (sV f.b) ∧ w.cell? ⟨b, off + k * 3 + 2, none⟩ = some (.int .i64 (f.l : Int)) := by
  obtain ⟨b, off, hA, hb, hc⟩ := h.cells hk
  exact ⟨b, off, hA, hb, hc 0 (by omega), by have := hc 1 (by omega); rwa [← Nat.add_assoc] at this, by have := hc 2 (by omega); rwa [← Nat.add_assoc] at this⟩
/-- The document's disk, at a block. -/
structure RefE (w : World) (g : Nat) (D : Dk) (V : Value) (n : Int) : Prop where
  cells : Whole w g 28 #[V, .bool (decide (0 ≤ D.left)), .int .i64 n, .bool D.off]
  left : 0 ≤ D.left → n = D.left
  own : OwnG 61 3 cF w 0 V D.F
  far : V.ownBlock ≠ some g
def RefP (w : World) (S : Nat → Prop) (g : Nat) (D : Dk) : Prop := ∃ V n, RefE w g D V n ∧ S g ∧ ∀ k, V.ownBlock = some k → S k

/-! ### Where a file is -/
def plV (F : List Fl) (n : Bs) : Int := if lk F n = none then -1 else ((F.takeWhile fun x => !decide (x.n = n)).length : Int)
theorem pl_none {F : List Fl} {n : Bs} (h : lk F n = none) : plV F n = -1 := by unfold plV; rw [if_pos h]
theorem pl_mid {A R : List Fl} {f : Fl} (h : ∀ x ∈ A, x.n ≠ f.n) : plV (A ++ f :: R) f.n = (A.length : Int) ∧ lk (A ++ f :: R) f.n = some f := by
  have hl : lk (A ++ f :: R) f.n = some f := by
    unfold lk
    rw [List.find?_append, List.find?_eq_none.2 (fun x hx => by simpa using h x hx)]
    simp
  refine ⟨?_, hl⟩
  unfold plV
  rw [hl, if_neg (by simp), List.takeWhile_append_of_pos (fun x hx => by simpa using h x hx)]
  simp
theorem pl_hit {F : List Fl} {n : Bs} {k : Nat} {f : Fl} (hk : F[k]? = some f) (e : f.n = n) (h : ∀ x ∈ F.take k, x.n ≠ n) : plV F n = (k : Int) := by
  obtain ⟨hlt, rfl⟩ := List.getElem?_eq_some_iff.1 hk
  have e2 : F = F.take k ++ F[k] :: F.drop (k + 1) := by rw [← List.drop_eq_getElem_cons hlt, List.take_append_drop]
  subst e
  have := (pl_mid (A := F.take k) (R := F.drop (k + 1)) (f := F[k]) h).1
  rw [← e2, List.length_take] at this
  rw [this]
  congr 1
  omega
theorem lk_split {F : List Fl} {n : Bs} {f : Fl} (h : lk F n = some f) : ∃ A R, F = A ++ f :: R ∧ f.n = n ∧ (∀ x ∈ A, x.n ≠ n) ∧ plV F n = (A.length : Int) := by
  unfold lk at h
  obtain ⟨h1, A, R, rfl, h2⟩ := List.find?_eq_some_iff_append.1 h
  have e : f.n = n := by simpa using h1
  subst e
  have h3 : ∀ x ∈ A, x.n ≠ f.n := fun x hx => by simpa using h2 x hx
  exact ⟨A, R, rfl, rfl, h3, (pl_mid h3).1⟩
set_option maxRecDepth 100000 in
theorem place_any {g : Nat} {D : Dk} {V : Value} {n0 : Int} (hF : D.F.length ≤ 100000) (n : Bs) (w : World) (h : RefE w g D V n0) :
    Calls Try.prog 35 #[.pointer (some ⟨g, 0, none⟩), sV n] w fun e w' => e = .returned (.int .i64 (plV D.F n)) ∧ w = w' := by
  obtain ⟨A, c, rfl, -, -⟩ := h.own.shape
  have HL := Lib.hid (h.own.lg cellsF)
  have k0 : w.cell? ⟨g, 0, none⟩ = some (.slice A D.F.length c) := h.cells.read 0
  clear h
  generalize D.F = F at *
  go_enter Try.func35, Try.ntmps35
  go_wp2_with fail
  go_loopw [5] (fun s wr => ∃ k : Nat, k ≤ F.length ∧ s = .int .i64 k ∧ Hid (∀ x ∈ F.take k, x.n ≠ n) ∧ wr = w) (fun s _ => F.length - (intOf s).toNat)
  case atStart => exact ⟨0, Nat.zero_le _, rfl, Lib.hid (by simp), rfl⟩
  case round =>
    obtain ⟨k, hk, rfl, HN, rfl⟩ := hrel
    by_cases hlt : k < F.length
    · obtain ⟨f, hf⟩ : ∃ f, F[k]? = some f := ⟨_, List.getElem?_eq_getElem hlt⟩
      obtain ⟨b, off, rfl, hb, c0, -, -⟩ := at_f HL.out hf
      by_cases e : f.n = n
      · have HP := Lib.hid (pl_hit hf e HN.out)
        have he : (f.n == n) = true := by rw [beq_iff_eq]; exact e
        clear hf e
        go_wp2_with fail
        go_ret
        exact ⟨by rw [HP.out]; rfl, rfl⟩
      · have HN2 : Hid (∀ x ∈ F.take (k + 1), x.n ≠ n) := Lib.hid (fun x hx => by
          rw [List.take_add_one, hf] at hx
          rcases List.mem_append.1 hx with hx | hx
          · exact HN.out x hx
          · simp at hx
            rw [hx]; exact e)
        have he : (f.n == n) = false := by rw [beq_eq_false_iff_ne]; exact e
        clear hf e
        go_wp2_with fail
        go_roundw
        case rel => exact ⟨k + 1, by omega, by go_num, HN2, by trivial⟩
        case measure => simp [intOf]; omega
    · have HP : Hid (plV F n = -1) := Lib.hid (pl_none (lk_none.2 (by have := HN.out; rwa [List.take_of_length_le (by omega)] at this)))
      go_wp2_with fail
      go_ret
      exact ⟨by rw [HP.out]; rfl, rfl⟩
theorem ahead_any {g : Nat} {D : Dk} {V : Value} {n0 : Int} (n : Bs) (w : World) (h : RefE w g D V n0) :
    Calls Try.prog 33 #[.pointer (some ⟨g, 0, none⟩), sV n] w fun e w' => e = .returned (.int .i64 (chk D n)) ∧ Below w.heap.size w w' := by
  have c1 : w.cell? ⟨g, 3, none⟩ = some (.bool D.off) := h.cells.read 3
  have HN := Lib.hid (nameR_any n w)
  have HC : Hid (chk D n = if D.off = true then 14 else if nameB n = true then 0 else 6) := Lib.hid rfl
  clear h
  generalize chk D n = k at HC ⊢
  generalize nameB n = q at HN HC
  generalize D.off = o at c1 HC
  cases o
  · cases q
    · have e : k = 6 := HC.out
      subst e
      go_enter Try.func33, Try.ntmps33
      go_wp2_with (go_at_call 44; refine HN.out.mono ?_; rintro e w1 ⟨rfl, b1⟩; have B1 := Lib.hid b1; clear b1)
      go_ret
      exact ⟨rfl, B1.out⟩
    · have e : k = 0 := HC.out
      subst e
      go_enter Try.func33, Try.ntmps33
      go_wp2_with (go_at_call 44; refine HN.out.mono ?_; rintro e w1 ⟨rfl, b1⟩; have B1 := Lib.hid b1; clear b1)
      go_ret
      exact ⟨rfl, B1.out⟩
  · have e : k = 14 := HC.out
    subst e
    go_enter Try.func33, Try.ntmps33
    go_wp2_with fail
    go_ret
    exact ⟨rfl, Below.refl _ _⟩
end Go.Proofs.Ytkfjgmfokpgcbaa.disk
