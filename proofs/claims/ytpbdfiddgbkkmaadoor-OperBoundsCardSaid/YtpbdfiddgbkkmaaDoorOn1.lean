/-
  oper.One (by gen_on.py).
-/
import Derived.Test.YtpbdfiddgbkkmaaDoorOon2
namespace Go.Proofs.YtpbdfiddgbkkmaaDoor.oper
open Go.ChangeShapes Go.WideShapes Go.ChangeAt Go.RowKit
open Go.Proofs.YtpbdfiddgbkkmaaDoor.tm Go.Proofs.YtpbdfiddgbkkmaaDoor.opened Go.Proofs.YtpbdfiddgbkkmaaDoor.block Go.Proofs.YtpbdfiddgbkkmaaDoor.region Go.Proofs.YtpbdfiddgbkkmaaDoor.data Go.Proofs.YtpbdfiddgbkkmaaDoor.num
set_option maxRecDepth 100000 in
set_option maxHeartbeats 1000000 in
theorem one_any (o : Od) (x : Rc) (io : o.In) (ix : x.In) (w : World) :
    Calls Tryd.prog 16 #[.agg (odV o), .agg #[.int .i64 x.k, .int .i64 x.v]] w fun e w' => e = .returned (resV (oneV o.k o.x o.y x)) ∧ Below w.heap.size w w' := by
  have W1 := Lib.hid (fresh3 w (odV o) #[.int .i64 x.k, .int .i64 x.v] #[.int .i64 0, .int .i64 0] 27 33 33).1
  have W2 := Lib.hid (fresh3 w (odV o) #[.int .i64 x.k, .int .i64 x.v] #[.int .i64 0, .int .i64 0] 27 33 33).2.1
  have W3 := Lib.hid (fresh3 w (odV o) #[.int .i64 x.k, .int .i64 x.v] #[.int .i64 0, .int .i64 0] 27 33 33).2.2.1
  have B3 := Lib.hid (fresh3 w (odV o) #[.int .i64 x.k, .int .i64 x.v] #[.int .i64 0, .int .i64 0] 27 33 33).2.2.2
  by_cases c3 : o.k = 3
  · have HV : Hid (oneV o.k o.x o.y x = some ⟨x.k, w64 (w64 (o.x * x.v) + o.y)⟩) := Lib.hid (by unfold oneV; rw [if_pos c3])
    rw [HV.out]
    clear HV
    have e3 : (o.k == 3) = true := by simpa using c3
    clear c3
    have m1 : IntKind.i64.wrap (o.x * x.v) = w64 (o.x * x.v) := w64_wrap _
    have m2 : IntKind.i64.wrap (w64 (o.x * x.v) + o.y) = w64 (w64 (o.x * x.v) + o.y) := w64_wrap _
    generalize w64 (w64 (o.x * x.v) + o.y) = r2 at m2 ⊢
    generalize w64 (o.x * x.v) = r1 at m1 m2 ⊢
    clear io ix
    go_enter Tryd.func16, Tryd.ntmps16
    go_wp2_with fail
    have BZ := (fresh3 w (odV o) #[.int .i64 x.k, .int .i64 x.v] #[.int .i64 x.k, .int .i64 r2] 27 33 33).2.2.2
    exact bodyPost_ret (v := .tuple #[.agg #[.int .i64 x.k, .int .i64 r2], .bool true]) (by simp [results, Tryd.results16, go_sem]) rfl ⟨rfl, BZ⟩
  by_cases c4 : o.k = 4
  · have HV : Hid (oneV o.k o.x o.y x = if 1 ≤ o.x ∧ x.v % o.x = o.y then some x else none) := Lib.hid (by unfold oneV; rw [if_neg c3, if_pos c4])
    rw [HV.out]
    clear HV
    have e4 : (o.k == 4) = true := by simpa using c4
    have e3 : (o.k == 3) = false := by simpa using c3
    clear c3 c4
    have K := Lib.hid (fun w0 => filter_any o x io ix w0)
    clear io ix
    by_cases h : 1 ≤ o.x ∧ x.v % o.x = o.y
    · simp only [if_pos h, resV] at K ⊢
      clear h
      go_enter Tryd.func16, Tryd.ntmps16
      go_wp2_with (go_at_call 22; refine (K.out _).mono ?_; rintro e w1 ⟨rfl, b1⟩; have V1 := W1.out.below b1 W1.out.inside; have V2 := W2.out.below b1 W2.out.inside; have V3 := W3.out.below b1 W3.out.inside; have HB := Lib.hid (B3.out.trans (b1.mono B3.out.size)); obtain ⟨k0, k1, k2, k3, k4, k5⟩ : _ ∧ _ ∧ _ ∧ _ ∧ _ ∧ _ := ⟨V1.read 0, V1.read 1, V1.read 2, V1.read 3, V1.read 4, V1.read 5⟩; obtain ⟨l0, l1⟩ : _ ∧ _ := ⟨V2.read 0, V2.read 1⟩; obtain ⟨m0, m1, f0, f1⟩ : _ ∧ _ ∧ _ ∧ _ := ⟨V3.read 0, V3.read 1, V3.soft 0, V3.soft 1⟩; clear b1)
      clear k0 k1 k2 k3 k4 k5 l0 l1 m0 m1 f0 f1
      have Z3 : Whole ((w1.setCell ⟨w.heap.size + 1 + 1, 0, none⟩ (.int .i64 x.k)).setCell ⟨w.heap.size + 1 + 1, 1, none⟩ (.int .i64 x.v)) (w.heap.size + 1 + 1) 33 #[.int .i64 x.k, .int .i64 x.v] := (V3.store 0 _).store 1 _
      have BZ := below_only HB.out (only_store (only_store (World.grownBy.refl w1 (some (w.heap.size + 1 + 1))) (i := 0) (.int .i64 x.k)) (i := 1) (.int .i64 x.v)) HB.out.size (by omega)
      generalize ((w1.setCell ⟨w.heap.size + 1 + 1, 0, none⟩ (.int .i64 x.k)).setCell ⟨w.heap.size + 1 + 1, 1, none⟩ (.int .i64 x.v)) = wz at Z3 BZ ⊢
      have q0 := Z3.read 0
      have q1 := Z3.read 1
      exact bodyPost_ret (v := .tuple #[.agg #[.int .i64 x.k, .int .i64 x.v], .bool true]) (by simp [results, Tryd.results16, go_sem, q0, q1]) rfl ⟨rfl, BZ⟩
    · simp only [if_neg h, resV] at K ⊢
      clear h
      go_enter Tryd.func16, Tryd.ntmps16
      go_wp2_with (go_at_call 22; refine (K.out _).mono ?_; rintro e w1 ⟨rfl, b1⟩; have V1 := W1.out.below b1 W1.out.inside; have V2 := W2.out.below b1 W2.out.inside; have V3 := W3.out.below b1 W3.out.inside; have HB := Lib.hid (B3.out.trans (b1.mono B3.out.size)); obtain ⟨k0, k1, k2, k3, k4, k5⟩ : _ ∧ _ ∧ _ ∧ _ ∧ _ ∧ _ := ⟨V1.read 0, V1.read 1, V1.read 2, V1.read 3, V1.read 4, V1.read 5⟩; obtain ⟨l0, l1⟩ : _ ∧ _ := ⟨V2.read 0, V2.read 1⟩; obtain ⟨m0, m1, f0, f1⟩ : _ ∧ _ ∧ _ ∧ _ := ⟨V3.read 0, V3.read 1, V3.soft 0, V3.soft 1⟩; clear b1)
      clear k0 k1 k2 k3 k4 k5 l0 l1 m0 m1 f0 f1
      have Z3 : Whole ((w1.setCell ⟨w.heap.size + 1 + 1, 0, none⟩ (.int .i64 0)).setCell ⟨w.heap.size + 1 + 1, 1, none⟩ (.int .i64 0)) (w.heap.size + 1 + 1) 33 #[.int .i64 0, .int .i64 0] := (V3.store 0 _).store 1 _
      have BZ := below_only HB.out (only_store (only_store (World.grownBy.refl w1 (some (w.heap.size + 1 + 1))) (i := 0) (.int .i64 0)) (i := 1) (.int .i64 0)) HB.out.size (by omega)
      generalize ((w1.setCell ⟨w.heap.size + 1 + 1, 0, none⟩ (.int .i64 0)).setCell ⟨w.heap.size + 1 + 1, 1, none⟩ (.int .i64 0)) = wz at Z3 BZ ⊢
      have q0 := Z3.read 0
      have q1 := Z3.read 1
      exact bodyPost_ret (v := .tuple #[.agg #[.int .i64 0, .int .i64 0], .bool false]) (by simp [results, Tryd.results16, go_sem, q0, q1]) rfl ⟨rfl, BZ⟩
  by_cases c5 : o.k = 5
  · have HV : Hid (oneV o.k o.x o.y x = some ⟨x.v, x.k⟩) := Lib.hid (by unfold oneV; rw [if_neg c3, if_neg c4, if_pos c5])
    rw [HV.out]
    clear HV io ix
    have e5 : (o.k == 5) = true := by simpa using c5
    have e3 : (o.k == 3) = false := by simpa using c3
    have e4 : (o.k == 4) = false := by simpa using c4
    clear c3 c4 c5
    go_enter Tryd.func16, Tryd.ntmps16
    go_wp2_with fail
    have BZ := (fresh3 w (odV o) #[.int .i64 x.k, .int .i64 x.v] #[.int .i64 x.v, .int .i64 x.k] 27 33 33).2.2.2
    exact bodyPost_ret (v := .tuple #[.agg #[.int .i64 x.v, .int .i64 x.k], .bool true]) (by simp [results, Tryd.results16, go_sem]) rfl ⟨rfl, BZ⟩
  by_cases c6 : o.k = 6
  · have HV : Hid (oneV o.k o.x o.y x = if 1 ≤ o.x then some ⟨x.v % o.x, x.v⟩ else none) := Lib.hid (by unfold oneV; rw [if_neg c3, if_neg c4, if_neg c5, if_pos c6])
    rw [HV.out]
    clear HV
    have e6 : (o.k == 6) = true := by simpa using c6
    have e3 : (o.k == 3) = false := by simpa using c3
    have e4 : (o.k == 4) = false := by simpa using c4
    have e5 : (o.k == 5) = false := by simpa using c5
    clear c3 c4 c5 c6
    have K := Lib.hid (fun w0 => rekey_any o x io ix w0)
    clear io ix
    by_cases h : 1 ≤ o.x
    · simp only [if_pos h, resV] at K ⊢
      generalize x.v % o.x = r at K ⊢
      clear h
      go_enter Tryd.func16, Tryd.ntmps16
      go_wp2_with (go_at_call 23; refine (K.out _).mono ?_; rintro e w1 ⟨rfl, b1⟩; have V1 := W1.out.below b1 W1.out.inside; have V2 := W2.out.below b1 W2.out.inside; have V3 := W3.out.below b1 W3.out.inside; have HB := Lib.hid (B3.out.trans (b1.mono B3.out.size)); obtain ⟨k0, k1, k2, k3, k4, k5⟩ : _ ∧ _ ∧ _ ∧ _ ∧ _ ∧ _ := ⟨V1.read 0, V1.read 1, V1.read 2, V1.read 3, V1.read 4, V1.read 5⟩; obtain ⟨l0, l1⟩ : _ ∧ _ := ⟨V2.read 0, V2.read 1⟩; obtain ⟨m0, m1, f0, f1⟩ : _ ∧ _ ∧ _ ∧ _ := ⟨V3.read 0, V3.read 1, V3.soft 0, V3.soft 1⟩; clear b1)
      clear k0 k1 k2 k3 k4 k5 l0 l1 m0 m1 f0 f1
      have Z3 : Whole ((w1.setCell ⟨w.heap.size + 1 + 1, 0, none⟩ (.int .i64 r)).setCell ⟨w.heap.size + 1 + 1, 1, none⟩ (.int .i64 x.v)) (w.heap.size + 1 + 1) 33 #[.int .i64 r, .int .i64 x.v] := (V3.store 0 _).store 1 _
      have BZ := below_only HB.out (only_store (only_store (World.grownBy.refl w1 (some (w.heap.size + 1 + 1))) (i := 0) (.int .i64 r)) (i := 1) (.int .i64 x.v)) HB.out.size (by omega)
      generalize ((w1.setCell ⟨w.heap.size + 1 + 1, 0, none⟩ (.int .i64 r)).setCell ⟨w.heap.size + 1 + 1, 1, none⟩ (.int .i64 x.v)) = wz at Z3 BZ ⊢
      have q0 := Z3.read 0
      have q1 := Z3.read 1
      exact bodyPost_ret (v := .tuple #[.agg #[.int .i64 r, .int .i64 x.v], .bool true]) (by simp [results, Tryd.results16, go_sem, q0, q1]) rfl ⟨rfl, BZ⟩
    · simp only [if_neg h, resV] at K ⊢
      clear h
      go_enter Tryd.func16, Tryd.ntmps16
      go_wp2_with (go_at_call 23; refine (K.out _).mono ?_; rintro e w1 ⟨rfl, b1⟩; have V1 := W1.out.below b1 W1.out.inside; have V2 := W2.out.below b1 W2.out.inside; have V3 := W3.out.below b1 W3.out.inside; have HB := Lib.hid (B3.out.trans (b1.mono B3.out.size)); obtain ⟨k0, k1, k2, k3, k4, k5⟩ : _ ∧ _ ∧ _ ∧ _ ∧ _ ∧ _ := ⟨V1.read 0, V1.read 1, V1.read 2, V1.read 3, V1.read 4, V1.read 5⟩; obtain ⟨l0, l1⟩ : _ ∧ _ := ⟨V2.read 0, V2.read 1⟩; obtain ⟨m0, m1, f0, f1⟩ : _ ∧ _ ∧ _ ∧ _ := ⟨V3.read 0, V3.read 1, V3.soft 0, V3.soft 1⟩; clear b1)
      clear k0 k1 k2 k3 k4 k5 l0 l1 m0 m1 f0 f1
      have Z3 : Whole ((w1.setCell ⟨w.heap.size + 1 + 1, 0, none⟩ (.int .i64 0)).setCell ⟨w.heap.size + 1 + 1, 1, none⟩ (.int .i64 0)) (w.heap.size + 1 + 1) 33 #[.int .i64 0, .int .i64 0] := (V3.store 0 _).store 1 _
      have BZ := below_only HB.out (only_store (only_store (World.grownBy.refl w1 (some (w.heap.size + 1 + 1))) (i := 0) (.int .i64 0)) (i := 1) (.int .i64 0)) HB.out.size (by omega)
      generalize ((w1.setCell ⟨w.heap.size + 1 + 1, 0, none⟩ (.int .i64 0)).setCell ⟨w.heap.size + 1 + 1, 1, none⟩ (.int .i64 0)) = wz at Z3 BZ ⊢
      have q0 := Z3.read 0
      have q1 := Z3.read 1
      exact bodyPost_ret (v := .tuple #[.agg #[.int .i64 0, .int .i64 0], .bool false]) (by simp [results, Tryd.results16, go_sem, q0, q1]) rfl ⟨rfl, BZ⟩
  have HV : Hid (oneV o.k o.x o.y x = some x) := Lib.hid (by unfold oneV; rw [if_neg c3, if_neg c4, if_neg c5, if_neg c6])
  rw [HV.out]
  have e3 : (o.k == 3) = false := by simpa using c3
  have e4 : (o.k == 4) = false := by simpa using c4
  have e5 : (o.k == 5) = false := by simpa using c5
  have e6 : (o.k == 6) = false := by simpa using c6
  clear HV c3 c4 c5 c6 io ix
  go_enter Tryd.func16, Tryd.ntmps16
  go_wp2_with fail
  have BZ := (fresh3 w (odV o) #[.int .i64 x.k, .int .i64 x.v] #[.int .i64 x.k, .int .i64 x.v] 27 33 33).2.2.2
  exact bodyPost_ret (v := .tuple #[.agg #[.int .i64 x.k, .int .i64 x.v], .bool true]) (by simp [results, Tryd.results16, go_sem]) rfl ⟨rfl, BZ⟩
end Go.Proofs.YtpbdfiddgbkkmaaDoor.oper
