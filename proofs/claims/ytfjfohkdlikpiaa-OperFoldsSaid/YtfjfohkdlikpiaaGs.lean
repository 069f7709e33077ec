/-
  Goes of the program and of the document; To of the laws.
-/
import Derived.Test.YtfjfohkdlikpiaaFo
import Derived.Test.YtfjfohkdlikpiaaOn2
import Derived.Test.YtfjfohkdlikpiaaOn2R
import Derived.Test.YtfjfohkdlikpiaaFr11
import Derived.Test.YtfjfohkdlikpiaaFr12
import Derived.Test.YtfjfohkdlikpiaaFr13
import Derived.Test.YtfjfohkdlikpiaaFr14
namespace Go.Proofs.Ytfjfohkdlikpiaa.oper
open Go.ChangeShapes Go.WideShapes Go.ChangeAt Go.RowKit
open Go.Proofs.Ytfjfohkdlikpiaa.tm Go.Proofs.Ytfjfohkdlikpiaa.opened Go.Proofs.Ytfjfohkdlikpiaa.block Go.Proofs.Ytfjfohkdlikpiaa.region Go.Proofs.Ytfjfohkdlikpiaa.data

def foV (k : Int) (L : List Rc) : List Rc := if keepsB k then foldV k L else []
def foE (k : Int) : Int := if keepsB k then 0 else 70
def goV (k a b : Int) (L : List Rc) : List Rc := if keepsB k then foldV k L else eachV k a b L
theorem foV_len (k : Int) (L : List Rc) : (foV k L).length ≤ L.length := by
  unfold foV
  split
  · exact fold_len _ _
  · simp
theorem goV_len (k a b : Int) (L : List Rc) : (goV k a b L).length ≤ L.length := by
  unfold goV
  split
  · exact fold_len _ _
  · exact eachV_len _ _ _ _
theorem foldR_any (kd : Int) (A : Option Addr) (c : Nat) (L : List Rc) (iL : InR L) (mL : L.length ≤ 4096) (w : World) (hL : Lr w A L) :
    Calls Try.prog 15 #[.int .i64 kd, .slice A L.length c] w fun e W' => ∃ B c', e = .returned (.tuple #[.slice B (foV kd L).length c', .int .i64 (foE kd)]) ∧ Lr W' B (foV kd L) ∧ Below w.heap.size w W' := by
  unfold foV foE
  cases hk : keepsB kd with
  | false =>
    simp only [Bool.false_eq_true, if_false]
    exact (foldR_no kd hk A L.length c w).mono fun e W' ⟨he, hb⟩ => ⟨none, 0, he, lg_nil _ _, hb⟩
  | true =>
    simp only [if_true]
    have h := of_decide_eq_true hk
    by_cases h1 : kd = 11
    · subst h1; exact foldR_11 A c L iL mL w hL
    by_cases h2 : kd = 12
    · subst h2; exact foldR_12 A c L iL mL w hL
    by_cases h3 : kd = 13
    · subst h3; exact foldR_13 A c L iL mL w hL
    have h4 : kd = 14 := by omega
    subst h4
    exact foldR_14 A c L iL mL w hL
theorem foldP_any (kd : Int) (A : Option Addr) (c : Nat) (L : List Rc) (iL : InR L) (mL : L.length ≤ 4096) (w : World) (hL : Lr w A L) :
    Calls Try.prog 14 #[.int .i64 kd, .slice A L.length c] w fun e W' => ∃ B c', e = .returned (.tuple #[.slice B (foV kd L).length c', .int .i64 (foE kd)]) ∧ Lr W' B (foV kd L) ∧ Below w.heap.size w W' := fold_any kd A c L iL mL w hL
theorem to_any (o : Od) (w : World) : Calls Try.prog 6 #[.agg (odV o)] w fun e w' => e = .returned (.agg (odV o)) ∧ Below w.heap.size w w' := by
  have W1 := Whole.fresh w 23 (odV o)
  have B1 := Lib.hid ((fresh0 w (.cells (odV o) 23)).trans ((fresh0 (w.alloc (.cells (odV o) 23)) (.cells (odV o) 29)).mono (fresh0 w (.cells (odV o) 23)).size))
  clear W1
  go_enter Try.func6, Try.ntmps6
  go_wp2_with fail
  exact bodyPost_ret (v := .agg (odV o)) (by simp [results, Try.results6, go_sem]) rfl ⟨rfl, B1.out⟩
set_option maxRecDepth 100000 in
set_option maxHeartbeats 2000000 in
theorem goes_any (o : Od) (io : o.In) (A : Option Addr) (c : Nat) (L : List Rc) (iL : InR L) (mL : L.length ≤ 4096) (w : World) (hL : Lr w A L) :
    Calls Try.prog 16 #[.agg (odV o), .slice A L.length c] w fun e W' => ∃ B c', e = .returned (.slice B (goV o.k o.x o.y L).length c') ∧ Lr W' B (goV o.k o.x o.y L) ∧ Below w.heap.size w W' := by
  have W1 := Whole.fresh w 29 (odV o)
  have b1 := fresh0 w (.cells (odV o) 29)
  have KP := Lib.hid (fun w0 => keeps_any o.k w0)
  have EC := Lib.hid (each_any o io A c L iL mL _ (hL.below b1))
  have FC := Lib.hid (fold_any o.k A c L iL mL _ (hL.below b1))
  have B1 := Lib.hid b1
  clear W1 b1 hL iL mL
  unfold goV
  cases hk : keepsB o.k with
  | false =>
    rw [hk] at KP FC
    simp only [Bool.false_eq_true, if_false] at FC ⊢
    clear FC hk
    generalize eachV o.k o.x o.y L = M at EC ⊢
    go_enter Try.func16, Try.ntmps16
    go_wp2_with (first | (go_at_call 11; refine EC.out.mono ?_; rintro e w3 ⟨B, c', rfl, ho, b3⟩; have HO := Lib.hid (ho.lg cellsR); have B3 := Lib.hid (B1.out.trans (b3.mono B1.out.size)); clear ho b3) | (go_at_call 8; refine (KP.out _).mono ?_; rintro e w2 ⟨rfl, rfl⟩))
    go_ret
    exact ⟨B, c', rfl, HO.out, B3.out⟩
  | true =>
    rw [hk] at KP FC
    simp only [if_true] at FC ⊢
    clear EC hk
    generalize foldV o.k L = M at FC ⊢
    go_enter Try.func16, Try.ntmps16
    go_wp2_with (first | (go_at_call 14; refine FC.out.mono ?_; rintro e w3 ⟨B, c', rfl, ho, b3⟩; have HO := Lib.hid ho; have B3 := Lib.hid (B1.out.trans (b3.mono B1.out.size)); clear ho b3) | (go_at_call 8; refine (KP.out _).mono ?_; rintro e w2 ⟨rfl, rfl⟩))
    go_ret
    exact ⟨B, c', rfl, HO.out, B3.out⟩
set_option maxRecDepth 100000 in
set_option maxHeartbeats 2000000 in
theorem goesR_any (o : Od) (io : o.In) (A : Option Addr) (c : Nat) (L : List Rc) (iL : InR L) (mL : L.length ≤ 4096) (w : World) (hL : Lr w A L) :
    Calls Try.prog 17 #[.agg (odV o), .slice A L.length c] w fun e W' => ∃ B c', e = .returned (.slice B (goV o.k o.x o.y L).length c') ∧ Lr W' B (goV o.k o.x o.y L) ∧ Below w.heap.size w W' := by
  have W1 := Lib.hid (Whole.fresh w 23 (odV o))
  have b1 := fresh0 w (.cells (odV o) 23)
  have KP := Lib.hid (fun w0 => keepsR_any o.k w0)
  have EC := Lib.hid (fun w0 b => eachR_any o io A c L iL mL w0 ((hL.below b1).below b))
  have FC := Lib.hid (fun w0 b => foldR_any o.k A c L iL mL w0 ((hL.below b1).below b))
  have B1 := Lib.hid b1
  clear b1 hL iL mL
  unfold goV
  cases hk : keepsB o.k with
  | false =>
    rw [hk] at KP
    simp only [Bool.false_eq_true, if_false]
    clear FC hk
    generalize eachV o.k o.x o.y L = M at EC ⊢
    go_enter Try.func17, Try.ntmps17
    go_wp2_with (first | (go_at_call 13; refine (EC.out _ B2.out).mono ?_; rintro e w3 ⟨B, c', rfl, ho, b3⟩; have HO := Lib.hid (ho.lg cellsR); have B3 := Lib.hid ((B1.out.trans (B2.out.mono B1.out.size)).trans (b3.mono (B1.out.trans (B2.out.mono B1.out.size)).size)); clear ho b3) | (go_at_call 9; refine (KP.out _).mono ?_; rintro e w2 ⟨rfl, b2⟩; have B2 := Lib.hid b2; obtain ⟨k0, k1, k2, k3, k4, k5⟩ : _ ∧ _ ∧ _ ∧ _ ∧ _ ∧ _ := ⟨(W1.out.below b2 W1.out.inside).read 0, (W1.out.below b2 W1.out.inside).read 1, (W1.out.below b2 W1.out.inside).read 2, (W1.out.below b2 W1.out.inside).read 3, (W1.out.below b2 W1.out.inside).read 4, (W1.out.below b2 W1.out.inside).read 5⟩; clear b2))
    go_ret
    exact ⟨B, c', rfl, HO.out, B3.out⟩
  | true =>
    rw [hk] at KP
    unfold foV at FC
    rw [hk] at FC
    simp only [if_true] at FC ⊢
    clear EC hk
    generalize foldV o.k L = M at FC ⊢
    generalize foE o.k = e0 at FC
    go_enter Try.func17, Try.ntmps17
    go_wp2_with (first | (go_at_call 15; refine (FC.out _ B2.out).mono ?_; rintro e w3 ⟨B, c', rfl, ho, b3⟩; have HO := Lib.hid ho; have B3 := Lib.hid ((B1.out.trans (B2.out.mono B1.out.size)).trans (b3.mono (B1.out.trans (B2.out.mono B1.out.size)).size)); clear ho b3) | (go_at_call 9; refine (KP.out _).mono ?_; rintro e w2 ⟨rfl, b2⟩; have B2 := Lib.hid b2; obtain ⟨k0, k1, k2, k3, k4, k5⟩ : _ ∧ _ ∧ _ ∧ _ ∧ _ ∧ _ := ⟨(W1.out.below b2 W1.out.inside).read 0, (W1.out.below b2 W1.out.inside).read 1, (W1.out.below b2 W1.out.inside).read 2, (W1.out.below b2 W1.out.inside).read 3, (W1.out.below b2 W1.out.inside).read 4, (W1.out.below b2 W1.out.inside).read 5⟩; clear b2))
    go_ret
    exact ⟨B, c', rfl, HO.out, B3.out⟩
end Go.Proofs.Ytfjfohkdlikpiaa.oper
