/-
  So many steps are done: the mathematics of DiskArmed.
-/
import Derived.Test.YtkfjgmfokpgcbaaJKgr
namespace Go.Proofs.Ytkfjgmfokpgcbaa.disk
open Go.Proofs.Ytkfjgmfokpgcbaa.words

/-- What an act on a file answers, and what becomes of the disk. -/
structure Does (D : Dk) (e : Int) (D' : Dk) : Prop where
  off : D.off = true → e = 14 ∧ D'.off = true
  up : D.off = false → (e ≠ 0 ∧ e ≠ 14 ∧ D'.off = false ∧ D'.left = D.left) ∨ (e = stpE D ∧ D'.off = (stpV D).off ∧ D'.left = (stpV D).left)
theorem chk_off {D : Dk} {n : Bs} (h : D.off = true) : chk D n = 14 := by unfold chk; rw [if_pos h]
theorem chk_up {D : Dk} {n : Bs} (h : D.off = false) : chk D n = 0 ∨ chk D n = 6 := by
  unfold chk
  rw [if_neg (by simp [h])]
  split <;> simp
theorem does_app (D : Dk) (n s : Bs) : Does D (appE D n s) (appV D n s) := by
  refine ⟨fun h => ?_, fun h => ?_⟩
  · have hc := chk_off (n := n) h
    have he : appE D n s = 14 := by unfold appE; rw [hc, if_pos (by decide)]
    refine ⟨he, ?_⟩
    unfold appV
    rw [he, if_neg (by decide), hc, if_neg (by simp)]
    exact h
  · rcases chk_up (n := n) h with hc | hc
    · by_cases hu : 262144 < used D.F + s.length
      · have he : appE D n s = 2 := by unfold appE; rw [hc, if_neg (by decide), if_pos hu]
        left
        refine ⟨by rw [he]; decide, by rw [he]; decide, ?_, ?_⟩
        · unfold appV; rw [he, if_neg (by decide), if_neg (by omega)]; exact h
        · unfold appV; rw [he, if_neg (by decide), if_neg (by omega)]
      · have he : appE D n s = stpE D := by unfold appE; rw [hc, if_neg (by decide), if_neg hu]
        right
        refine ⟨he, ?_, ?_⟩
        · unfold appV
          split
          · rfl
          · rw [if_pos ⟨hc, by omega⟩]
        · unfold appV
          split
          · rfl
          · rw [if_pos ⟨hc, by omega⟩]
    · have he : appE D n s = 6 := by unfold appE; rw [hc, if_pos (by decide)]
      left
      refine ⟨by rw [he]; decide, by rw [he]; decide, ?_, ?_⟩
      · unfold appV; rw [he, if_neg (by decide), hc, if_neg (by simp)]; exact h
      · unfold appV; rw [he, if_neg (by decide), hc, if_neg (by simp)]
theorem does_on (D : Dk) (n : Bs) : Does D (onE D n) (onV D n) := by
  refine ⟨fun h => ?_, fun h => ?_⟩
  · have hc := chk_off (n := n) h
    refine ⟨by unfold onE; rw [hc, if_pos (by decide)], ?_⟩
    unfold onV
    rw [hc, if_neg (by simp)]
    exact h
  · rcases chk_up (n := n) h with hc | hc
    · by_cases hu : lk D.F n = none
      · have he : onE D n = 3 := by unfold onE; rw [hc, if_neg (by decide), if_pos hu]
        have hv : onV D n = D := by unfold onV; rw [if_neg (by simp [hu])]
        left
        rw [he, hv]
        exact ⟨by decide, by decide, h, rfl⟩
      · have he : onE D n = stpE D := by unfold onE; rw [hc, if_neg (by decide), if_neg hu]
        have hv : onV D n = stpV D := by unfold onV; rw [if_pos ⟨hc, hu⟩]
        right
        rw [hv]
        exact ⟨he, rfl, rfl⟩
    · have he : onE D n = 6 := by unfold onE; rw [hc, if_pos (by decide)]
      have hv : onV D n = D := by unfold onV; rw [hc, if_neg (by simp)]
      left
      rw [he, hv]
      exact ⟨by decide, by decide, h, rfl⟩
theorem does_same {D : Dk} {e : Int} {D1 D2 : Dk} (h : Does D e D1) (h1 : D2.off = D1.off) (h2 : D2.left = D1.left) : Does D e D2 := by
  refine ⟨fun k => ?_, fun k => ?_⟩
  · rw [h1]
    exact h.off k
  · rw [h1, h2]
    exact h.up k
theorem does_syn (D : Dk) (n : Bs) : Does D (onE D n) (synV D n) := by
  by_cases he : onE D n = 0
  · refine does_same (does_on D n) ?_ ?_ <;> · unfold synV; rw [if_pos he, on_stp he]
  · have : synV D n = onV D n := by unfold synV; rw [if_neg he]
    rw [this]
    exact does_on D n
theorem does_rem (D : Dk) (n : Bs) : Does D (onE D n) (remV D n) := by
  by_cases he : onE D n = 0
  · refine does_same (does_on D n) ?_ ?_ <;> · unfold remV; rw [if_pos he, on_stp he]
  · have : remV D n = onV D n := by unfold remV; rw [if_neg he]
    rw [this]
    exact does_on D n
/-- So many are done, of so many. -/
structure Armed (r d : Nat) (D : Dk) : Prop where
  le : d ≤ r
  up : D.off = false → D.left = (r : Int) - d
  off : D.off = true → d = r
theorem armed_step {r d : Nat} {D D' : Dk} {e : Int} (h : Armed r d D) (k : Does D e D') :
    (e = 14 ∧ D'.off = true ∧ d = r ∧ Armed r d D') ∨ (e = 0 ∧ D'.off = false ∧ d + 1 ≤ r ∧ Armed r (d + 1) D') ∨ (e ≠ 0 ∧ e ≠ 14 ∧ D'.off = false ∧ Armed r d D') := by
  have hle := h.le
  cases ho : D.off with
  | true =>
    obtain ⟨h1, h2⟩ := k.off ho
    have := h.off ho
    exact .inl ⟨h1, h2, this, hle, fun e => by (rw [h2] at e; cases e), fun _ => this⟩
  | false =>
    have hl := h.up ho
    rcases k.up ho with ⟨h1, h2, h3, h4⟩ | ⟨h1, h2, h3⟩
    · exact .inr (.inr ⟨h1, h2, h3, hle, fun _ => by rw [h4, hl], fun e => by (rw [h3] at e; cases e)⟩)
    · by_cases hz : D.left = 0
      · have e1 : e = 14 := by rw [h1]; unfold stpE; rw [if_pos hz]
        have e2 : D'.off = true := by rw [h2]; unfold stpV; rw [if_pos hz]
        have e3 : d = r := by omega
        exact .inl ⟨e1, e2, e3, hle, fun e => by (rw [e2] at e; cases e), fun _ => e3⟩
      · have e1 : e = 0 := by rw [h1]; unfold stpE; rw [if_neg hz]
        have e2 : D'.off = false := by
          rw [h2]; unfold stpV; rw [if_neg hz]
          split <;> exact ho
        have e3 : D'.left = D.left - 1 := by rw [h3]; unfold stpV; rw [if_neg hz, if_pos (by omega)]
        exact .inr (.inl ⟨e1, e2, by omega, by omega, fun _ => by rw [e3, hl]; omega, fun e => by (rw [e2] at e; cases e)⟩)
theorem syn_F (D : Dk) (n : Bs) : (synV D n).F.length ≤ D.F.length + 1 := by
  have hon : (onV D n).F = D.F := by unfold onV; split <;> first | exact stpV_F D | rfl
  unfold synV
  split
  · show (put _ D.F).length ≤ _
    rw [(put_perm _ _).length_eq, List.length_cons]
    have : (del n D.F).length ≤ D.F.length := List.length_filter_le _ _
    show (del n D.F).length + 1 ≤ _
    omega
  · rw [hon]; omega
theorem rem_F (D : Dk) (n : Bs) : (remV D n).F.length ≤ D.F.length + 1 := by
  have hon : (onV D n).F = D.F := by unfold onV; split <;> first | exact stpV_F D | rfl
  unfold remV
  split
  · have : (del n D.F).length ≤ D.F.length := List.length_filter_le _ _
    show (del n D.F).length ≤ _
    omega
  · rw [hon]; omega
end Go.Proofs.Ytkfjgmfokpgcbaa.disk
