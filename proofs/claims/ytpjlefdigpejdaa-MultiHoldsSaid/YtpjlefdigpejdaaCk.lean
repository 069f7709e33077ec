/-
  The contracts of slices.Equal at times, of chain.Check and of watershedlaw06.own's callers.
-/
import Derived.Test.YtpjlefdigpejdaaMa
import Derived.Test.YtpjlefdigpejdaaLeC
namespace Go.Proofs.Ytpjlefdigpejdaa.chain
open Go.ChangeShapes Go.WideShapes Go.ChangeAt Go.RowKit Go.Shelf Go.Sort
open Go.Proofs.Ytpjlefdigpejdaa.tm Go.Proofs.Ytpjlefdigpejdaa.opened Go.Proofs.Ytpjlefdigpejdaa.block Go.Proofs.Ytpjlefdigpejdaa.stamp

theorem allEq_dec : ∀ L M : List Tm, Lib.allEq eqT L M = decide (L = M)
  | [], [] => by simp [Lib.allEq]
  | x :: r, y :: s => by
    rw [Lib.allEq, allEq_dec r s]
    by_cases h : x = y
    · subst h; rw [eqT_self]; simp
    · rw [eqT_no h]; simp [h]
  | [], _ :: _ => by simp [Lib.allEq]
  | _ :: _, [] => by simp [Lib.allEq]
set_option maxRecDepth 100000 in
theorem equal_none (A B : Option Addr) (c d : Nat) (w : World) : Calls Try.prog 81 #[.slice A 0 c, .slice B 0 d] w fun e w' => e = .returned (.bool true) ∧ Below w.heap.size w w' := by
  go_enter Try.func81, Try.ntmps81
  go_wp2
  refine wp_loop_rounds 1 ?_
  rw [rounds_succ]
  go_wp2
  go_ret
  exact ⟨rfl, Below.refl _ _⟩
set_option maxRecDepth 100000 in
theorem equal_len (A B : Option Addr) (n m c d : Nat) (h : n ≠ m) (_hn : n ≤ 4611686018427387903) (_hm : m ≤ 4611686018427387903) (w : World) : Calls Try.prog 81 #[.slice A n c, .slice B m d] w fun e w' => e = .returned (.bool false) ∧ Below w.heap.size w w' := by
  go_enter Try.func81, Try.ntmps81
  go_wp2
  go_ret
  exact ⟨rfl, Below.refl _ _⟩
theorem equal_any (A B : Option Addr) (c d : Nat) (L M : List Tm) (mL : L.length ≤ 4611686018427387903) (mM : M.length ≤ 4611686018427387903) (w : World) (hL : Lt w A L) (hM : Lt w B M) :
    Calls Try.prog 81 #[.slice A L.length c, .slice B M.length d] w fun e w' => e = .returned (.bool (decide (L = M))) ∧ Below w.heap.size w w' := by
  by_cases h : L.length = M.length
  · cases L with
    | nil =>
      have : M = [] := List.eq_nil_of_length_eq_zero (by simpa using h.symm)
      subst this
      exact equal_none A B c d w
    | cons x r =>
      cases M with
      | nil => simp at h
      | cons y s =>
        obtain ⟨b1, o1, hA, -⟩ := hL.at (k := 0) (t := x) rfl
        obtain ⟨b2, o2, hB, -⟩ := hM.at (k := 0) (t := y) rfl
        have K := AnyQ.slices_Equal Try.lQ8 5 Try.isAgg33 Try.sizeOf33 cT (fun _ => rfl) eqT neqT b1 o1 (x :: r).length c b2 o2 (y :: s).length d (x :: r) (y :: s) w (Nat.le_refl _) (Nat.le_refl _) (by omega) (by omega) (fun j hj i v hv => cell_cT hL hA j hj i v hv) (fun j hj i v hv => cell_cT hM hB j hj i v hv)
        rw [List.take_length, List.take_length, allEq_dec] at K
        subst hA hB
        exact K.mono fun e w' ⟨he, q, hw⟩ => ⟨he, by rw [hw]; exact below_drewN (Below.refl _ w) q⟩
  · rw [show decide (L = M) = false by simp only [decide_eq_false_iff_not]; intro e; exact h (by rw [e])]
    exact equal_len A B _ _ c d h mL mM w
/-- What Check says is wrong. -/
def checkE (L : List Tm) (h : InL L) : Int := if 64 < L.length then 7 else if makeE L h ≠ 0 then makeE L h else if makeV L h = L then 0 else 6
theorem keep_len (K : List Tm) (t : Tm) : (keep K t).length ≤ K.length + 1 := by
  unfold keep
  split
  · omega
  · simp
theorem minF_len : ∀ (L K : List Tm), (minF L K).length ≤ K.length + L.length
  | [], K => by simp [minF]
  | t :: r, K => by
    have h1 := keep_len K t
    have h2 := minF_len r (keep K t)
    unfold minF
    split
    · simp; omega
    · simp; omega
theorem makeV_len (L : List Tm) (h : InL L) : (makeV L h).length ≤ L.length := by
  unfold makeV makeS
  split
  · have := minF_len (srtL L h) []
    rw [srtL_len] at this
    simpa using this
  · simp
set_option maxRecDepth 100000 in
theorem check_chain (A : Option Addr) (c : Nat) (L : List Tm) (iL : InL L) (mL : L.length ≤ 4611686018427387903) (w : World) (hL : Lt w A L) :
    Calls Try.prog 38 #[.slice A L.length c] w fun e W' => e = .returned (.int .i64 (checkE L iL)) ∧ Below w.heap.size w W' := by
  have HL := Lib.hid hL
  have HM := Lib.hid (make_any A c L iL mL)
  by_cases hl : 64 < L.length
  · rw [show checkE L iL = 7 by unfold checkE; rw [if_pos hl]]
    clear hL
    go_enter Try.func38, Try.ntmps38
    go_wp2
    go_ret
    exact ⟨rfl, Below.refl _ _⟩
  · by_cases he : makeE L iL = 0
    · have EQ := Lib.hid (fun (B : Option Addr) (c' : Nat) (W : World) => equal_any B A c' c (makeV L iL) L (by have := makeV_len L iL; omega) mL W)
      rw [show checkE L iL = if makeV L iL = L then 0 else 6 by unfold checkE; rw [if_neg hl, if_neg (by rw [he]; simp)]]
      rw [he] at HM
      clear hL he
      generalize makeV L iL = V at HM EQ ⊢
      by_cases hv : V = L
      · rw [if_pos hv]
        rw [show decide (V = L) = true by simpa using hv] at EQ
        clear hv
        go_enter Try.func38, Try.ntmps38
        go_wp2_with fail
        refine (HM.out _ HL.out).mono ?_
        rintro e w1 ⟨B, c1, rfl, h1, b1⟩
        have h1 := Lib.hid h1
        go_wp2_with fail
        refine (EQ.out B c1 w1 h1.out (HL.out.below b1)).mono ?_
        rintro e w2 ⟨rfl, b2⟩
        go_wp2_with fail
        go_ret
        exact ⟨rfl, b1.trans (b2.mono b1.size)⟩
      · rw [if_neg hv]
        rw [show decide (V = L) = false by simpa using hv] at EQ
        clear hv
        go_enter Try.func38, Try.ntmps38
        go_wp2_with fail
        refine (HM.out _ HL.out).mono ?_
        rintro e w1 ⟨B, c1, rfl, h1, b1⟩
        have h1 := Lib.hid h1
        go_wp2_with fail
        refine (EQ.out B c1 w1 h1.out (HL.out.below b1)).mono ?_
        rintro e w2 ⟨rfl, b2⟩
        go_wp2_with fail
        go_ret
        exact ⟨rfl, b1.trans (b2.mono b1.size)⟩
    · rw [show checkE L iL = makeE L iL by unfold checkE; rw [if_neg hl, if_pos he]]
      clear hL
      generalize makeE L iL = m at HM he ⊢
      go_enter Try.func38, Try.ntmps38
      go_wp2_with fail
      refine (HM.out _ HL.out).mono ?_
      rintro e w1 ⟨B, c1, rfl, h1, b1⟩
      have h1 := Lib.hid h1
      go_wp2_with fail
      go_ret
      exact ⟨rfl, b1⟩
end Go.Proofs.Ytpjlefdigpejdaa.chain
