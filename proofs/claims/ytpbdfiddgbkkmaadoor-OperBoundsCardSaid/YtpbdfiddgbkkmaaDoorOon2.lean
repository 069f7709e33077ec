/-
  One record by an operator: oper.One and the document's, oper.Keeps and the document's.
-/
import Derived.Test.YtpbdfiddgbkkmaaDoorOm
import Derived.Test.YtpbdfiddgbkkmaaDoorDa
import Derived.Test.YtpbdfiddgbkkmaaDoorNum
import Derived.Laws.BitsLemmas
namespace Go.Proofs.YtpbdfiddgbkkmaaDoor.oper
open Go.ChangeShapes Go.WideShapes Go.ChangeAt Go.RowKit
open Go.Proofs.YtpbdfiddgbkkmaaDoor.tm Go.Proofs.YtpbdfiddgbkkmaaDoor.opened Go.Proofs.YtpbdfiddgbkkmaaDoor.block Go.Proofs.YtpbdfiddgbkkmaaDoor.region Go.Proofs.YtpbdfiddgbkkmaaDoor.data Go.Proofs.YtpbdfiddgbkkmaaDoor.num

structure Od where
  n : ByteArray
  k : Int
  l : Int
  a : Int
  x : Int
  y : Int
abbrev odV (o : Od) : Array Value := #[.string o.n, .int .i64 o.k, .int .i64 o.l, .int .i64 o.a, .int .i64 o.x, .int .i64 o.y]
structure Od.In (o : Od) : Prop where
  k : I64 o.k
  x : I64 o.x
  y : I64 o.y
theorem own_off {w : World} {base g : Nat} {v : Value} {N : List Rc} (h : OwnR w base v N) (hg : g < base) : some g ≠ v.ownBlock := fun e => by
  have := (h.lt g e.symm).1
  omega
def resV : Option Rc → Value
  | none => .tuple #[.agg #[.int .i64 0, .int .i64 0], .bool false]
  | some r => .tuple #[.agg #[.int .i64 r.k, .int .i64 r.v], .bool true]
theorem w64_wrap (n : Int) : IntKind.i64.wrap n = w64 n := IntKind.wrap_i64 n
theorem keeps_any (k : Int) (w : World) : Calls Tryd.prog 13 #[.int .i64 k] w fun e w' => e = .returned (.bool (keepsB k)) ∧ w = w' := by
  by_cases h1 : k = 11
  · subst h1
    go_enter Tryd.func13, Tryd.ntmps13
    go_wp2_with fail
    go_ret
    exact ⟨rfl, rfl⟩
  by_cases h2 : k = 12
  · subst h2
    go_enter Tryd.func13, Tryd.ntmps13
    go_wp2_with fail
    go_ret
    exact ⟨rfl, rfl⟩
  by_cases h3 : k = 13
  · subst h3
    go_enter Tryd.func13, Tryd.ntmps13
    go_wp2_with fail
    go_ret
    exact ⟨rfl, rfl⟩
  by_cases h4 : k = 14
  · subst h4
    go_enter Tryd.func13, Tryd.ntmps13
    go_wp2_with fail
    go_ret
    exact ⟨rfl, rfl⟩
  have hz : keepsB k = false := by
    unfold keepsB
    rw [decide_eq_false_iff_not]
    omega
  have HZ := Lib.hid hz
  have e1 : (k == 11) = false := by simpa using h1
  have e2 : (k == 12) = false := by simpa using h2
  have e3 : (k == 13) = false := by simpa using h3
  have e4 : (k == 14) = false := by simpa using h4
  clear hz h1 h2 h3 h4
  go_enter Tryd.func13, Tryd.ntmps13
  go_wp2_with fail
  go_ret
  exact ⟨by rw [HZ.out]; rfl, rfl⟩
theorem floorB_any (a b : Int) (l : -9223372036854775808 ≤ a) (h : a ≤ 9223372036854775807) (h' : b ≤ 9223372036854775807) (w : World) :
    Calls Tryd.prog 32 #[.int .i64 a, .int .i64 b] w fun e w' => e = .returned (.tuple #[.int .i64 (floorQ a b), .int .i64 (floorR a b), .int .i64 (floorE b)]) ∧ Below w.heap.size w w' := by
  by_cases l' : 1 ≤ b
  · have hE : floorE b = 0 := by simp [floorE, l']
    by_cases hr : a.tmod b < 0
    · obtain ⟨fq, fr, fw, fw'⟩ := floor_neg a b l l' h' hr
      have hfin : floorQ a b = wrap64 (a.tdiv b - 1) ∧ floorR a b = wrap64 (a.tmod b + b) := by simp only [floorQ, floorR, if_pos l']; omega
      have HF := Lib.hid hfin; have HE := Lib.hid hE; clear hfin hE fq fr fw fw'
      go_enter Tryd.func32, Tryd.ntmps32
      go_wp2
      go_quiet (fail)
      go_wp2
      go_ret3
      exact ⟨three HF.out.1.symm HF.out.2.symm HE.out.symm, (by first | exact Below.refl _ _ | exact (Below.refl _ _).drew | exact below_drewN (Below.refl _ _) _)⟩
    · obtain ⟨fq, fr⟩ := floor_pos a b l' hr
      have hfin : floorQ a b = a.tdiv b ∧ floorR a b = a.tmod b := by simp only [floorQ, floorR, if_pos l']; omega
      have HF := Lib.hid hfin; have HE := Lib.hid hE; clear hfin hE fq fr
      go_enter Tryd.func32, Tryd.ntmps32
      go_wp2
      go_quiet (fail)
      go_wp2
      go_ret3
      exact ⟨three HF.out.1.symm HF.out.2.symm HE.out.symm, (by first | exact Below.refl _ _ | exact (Below.refl _ _).drew | exact below_drewN (Below.refl _ _) _)⟩
  · have c : b < 1 := by omega
    have hfin : floorQ a b = 0 ∧ floorR a b = 0 ∧ floorE b = 1 := by simp [floorQ, floorR, floorE, l']
    have HF := Lib.hid hfin; clear hfin l'
    go_enter Tryd.func32, Tryd.ntmps32
    go_wp2
    go_ret3
    exact ⟨three HF.out.1.symm HF.out.2.1.symm HF.out.2.2.symm, (by first | exact Below.refl _ _ | exact (Below.refl _ _).drew | exact below_drewN (Below.refl _ _) _)⟩
theorem fresh3 (w : World) (a b c : Array Value) (ta tb tc : TypeId) : Whole (((w.alloc (.cells a ta)).alloc (.cells b tb)).alloc (.cells c tc)) w.heap.size ta a ∧ Whole (((w.alloc (.cells a ta)).alloc (.cells b tb)).alloc (.cells c tc)) (w.heap.size + 1) tb b ∧
    Whole (((w.alloc (.cells a ta)).alloc (.cells b tb)).alloc (.cells c tc)) (w.heap.size + 1 + 1) tc c ∧ Below w.heap.size w (((w.alloc (.cells a ta)).alloc (.cells b tb)).alloc (.cells c tc)) := by
  have h1 := Whole.fresh w ta a
  have e1 : (w.alloc (.cells a ta)).heap.size = w.heap.size + 1 := World.size_alloc _ _
  have h2 := Whole.fresh (w.alloc (.cells a ta)) tb b
  have e2 : ((w.alloc (.cells a ta)).alloc (.cells b tb)).heap.size = w.heap.size + 1 + 1 := by rw [World.size_alloc, e1]
  have h3 := Whole.fresh ((w.alloc (.cells a ta)).alloc (.cells b tb)) tc c
  have b1 := fresh0 w (.cells a ta)
  have b2 := fresh0 (w.alloc (.cells a ta)) (.cells b tb)
  have b3 := fresh0 ((w.alloc (.cells a ta)).alloc (.cells b tb)) (.cells c tc)
  have h12 := h1.below b2 h1.inside
  have h13 := h12.below b3 h12.inside
  have h23 := h2.below b3 h2.inside
  rw [e1] at h23
  rw [e2] at h3
  exact ⟨h13, h23, h3, (b1.trans (b2.mono b1.size)).trans (b3.mono (b1.trans (b2.mono b1.size)).size)⟩
set_option maxRecDepth 100000 in
set_option maxHeartbeats 1000000 in
theorem filter_any (o : Od) (x : Rc) (io : o.In) (ix : x.In) (w : World) :
    Calls Tryd.prog 22 #[.agg (odV o), .agg #[.int .i64 x.k, .int .i64 x.v]] w fun e w' => e = .returned (resV (if 1 ≤ o.x ∧ x.v % o.x = o.y then some x else none)) ∧ Below w.heap.size w w' := by
  have W1 := Lib.hid (fresh3 w (odV o) #[.int .i64 x.k, .int .i64 x.v] #[.int .i64 0, .int .i64 0] 27 33 33).1
  have W2 := Lib.hid (fresh3 w (odV o) #[.int .i64 x.k, .int .i64 x.v] #[.int .i64 0, .int .i64 0] 27 33 33).2.1
  have W3 := Lib.hid (fresh3 w (odV o) #[.int .i64 x.k, .int .i64 x.v] #[.int .i64 0, .int .i64 0] 27 33 33).2.2.1
  have B3 := Lib.hid (fresh3 w (odV o) #[.int .i64 x.k, .int .i64 x.v] #[.int .i64 0, .int .i64 0] 27 33 33).2.2.2
  have K := Lib.hid (fun w0 => floorB_any x.v o.x ix.2.1 ix.2.2 io.x.2 w0)
  by_cases h1 : 1 ≤ o.x
  rotate_left
  · have e1 : floorE o.x = 1 := by simp [floorE, h1]
    rw [e1] at K
    generalize floorR x.v o.x = r at K
    generalize floorQ x.v o.x = q at K
    rw [if_neg (by rintro ⟨h, -⟩; exact h1 h)]
    clear h1 e1 io ix
    go_enter Tryd.func22, Tryd.ntmps22
    go_wp2_with (go_at_call 32; refine (K.out _).mono ?_; rintro e w1 ⟨rfl, b1⟩; have V1 := W1.out.below b1 W1.out.inside; have V2 := W2.out.below b1 W2.out.inside; have V3 := W3.out.below b1 W3.out.inside; have HB := Lib.hid (B3.out.trans (b1.mono B3.out.size)); obtain ⟨k0, k1, k2, k3, k4, k5⟩ : _ ∧ _ ∧ _ ∧ _ ∧ _ ∧ _ := ⟨V1.read 0, V1.read 1, V1.read 2, V1.read 3, V1.read 4, V1.read 5⟩; obtain ⟨l0, l1⟩ : _ ∧ _ := ⟨V2.read 0, V2.read 1⟩; obtain ⟨m0, m1, f0, f1⟩ : _ ∧ _ ∧ _ ∧ _ := ⟨V3.read 0, V3.read 1, V3.soft 0, V3.soft 1⟩; clear b1)
    clear k0 k1 k2 k3 k4 k5 l0 l1 m0 m1 f0 f1
    have Z3 : Whole ((w1.setCell ⟨w.heap.size + 1 + 1, 0, none⟩ (.int .i64 0)).setCell ⟨w.heap.size + 1 + 1, 1, none⟩ (.int .i64 0)) (w.heap.size + 1 + 1) 33 #[.int .i64 0, .int .i64 0] := (V3.store 0 _).store 1 _
    have BZ := below_only HB.out (only_store (only_store (World.grownBy.refl w1 (some (w.heap.size + 1 + 1))) (i := 0) (.int .i64 0)) (i := 1) (.int .i64 0)) HB.out.size (by omega)
    generalize ((w1.setCell ⟨w.heap.size + 1 + 1, 0, none⟩ (.int .i64 0)).setCell ⟨w.heap.size + 1 + 1, 1, none⟩ (.int .i64 0)) = wz at Z3 BZ ⊢
    have q0 := Z3.read 0
    have q1 := Z3.read 1
    exact bodyPost_ret (v := .tuple #[.agg #[.int .i64 0, .int .i64 0], .bool false]) (by simp [results, Tryd.results22, go_sem, q0, q1]) rfl ⟨rfl, BZ⟩

  have e1 : floorE o.x = 0 := by simp [floorE, h1]
  have e2 : floorR x.v o.x = x.v % o.x := by simp [floorR, h1]
  rw [e1, e2] at K
  generalize floorQ x.v o.x = q at K
  clear e1 e2 io ix
  by_cases h2 : x.v % o.x = o.y
  · rw [if_pos ⟨h1, h2⟩]
    rw [h2] at K
    clear h1 h2
    go_enter Tryd.func22, Tryd.ntmps22
    go_wp2_with (go_at_call 32; refine (K.out _).mono ?_; rintro e w1 ⟨rfl, b1⟩; have V1 := W1.out.below b1 W1.out.inside; have V2 := W2.out.below b1 W2.out.inside; have V3 := W3.out.below b1 W3.out.inside; have HB := Lib.hid (B3.out.trans (b1.mono B3.out.size)); obtain ⟨k0, k1, k2, k3, k4, k5⟩ : _ ∧ _ ∧ _ ∧ _ ∧ _ ∧ _ := ⟨V1.read 0, V1.read 1, V1.read 2, V1.read 3, V1.read 4, V1.read 5⟩; obtain ⟨l0, l1⟩ : _ ∧ _ := ⟨V2.read 0, V2.read 1⟩; obtain ⟨m0, m1, f0, f1⟩ : _ ∧ _ ∧ _ ∧ _ := ⟨V3.read 0, V3.read 1, V3.soft 0, V3.soft 1⟩; clear b1)
    clear k0 k1 k2 k3 k4 k5 l0 l1 m0 m1 f0 f1
    have Z3 : Whole ((w1.setCell ⟨w.heap.size + 1 + 1, 0, none⟩ (.int .i64 x.k)).setCell ⟨w.heap.size + 1 + 1, 1, none⟩ (.int .i64 x.v)) (w.heap.size + 1 + 1) 33 #[.int .i64 x.k, .int .i64 x.v] := (V3.store 0 _).store 1 _
    have BZ := below_only HB.out (only_store (only_store (World.grownBy.refl w1 (some (w.heap.size + 1 + 1))) (i := 0) (.int .i64 x.k)) (i := 1) (.int .i64 x.v)) HB.out.size (by omega)
    generalize ((w1.setCell ⟨w.heap.size + 1 + 1, 0, none⟩ (.int .i64 x.k)).setCell ⟨w.heap.size + 1 + 1, 1, none⟩ (.int .i64 x.v)) = wz at Z3 BZ ⊢
    have q0 := Z3.read 0
    have q1 := Z3.read 1
    exact bodyPost_ret (v := .tuple #[.agg #[.int .i64 x.k, .int .i64 x.v], .bool true]) (by simp [results, Tryd.results22, go_sem, q0, q1]) rfl ⟨rfl, BZ⟩
  · rw [if_neg (by rintro ⟨-, h⟩; exact h2 h)]
    have hne : (x.v % o.x == o.y) = false := by simpa using h2
    generalize x.v % o.x = r at K hne
    clear h1 h2
    go_enter Tryd.func22, Tryd.ntmps22
    go_wp2_with (go_at_call 32; refine (K.out _).mono ?_; rintro e w1 ⟨rfl, b1⟩; have V1 := W1.out.below b1 W1.out.inside; have V2 := W2.out.below b1 W2.out.inside; have V3 := W3.out.below b1 W3.out.inside; have HB := Lib.hid (B3.out.trans (b1.mono B3.out.size)); obtain ⟨k0, k1, k2, k3, k4, k5⟩ : _ ∧ _ ∧ _ ∧ _ ∧ _ ∧ _ := ⟨V1.read 0, V1.read 1, V1.read 2, V1.read 3, V1.read 4, V1.read 5⟩; obtain ⟨l0, l1⟩ : _ ∧ _ := ⟨V2.read 0, V2.read 1⟩; obtain ⟨m0, m1, f0, f1⟩ : _ ∧ _ ∧ _ ∧ _ := ⟨V3.read 0, V3.read 1, V3.soft 0, V3.soft 1⟩; clear b1)
    clear k0 k1 k2 k3 k4 k5 l0 l1 m0 m1 f0 f1
    have Z3 : Whole ((w1.setCell ⟨w.heap.size + 1 + 1, 0, none⟩ (.int .i64 0)).setCell ⟨w.heap.size + 1 + 1, 1, none⟩ (.int .i64 0)) (w.heap.size + 1 + 1) 33 #[.int .i64 0, .int .i64 0] := (V3.store 0 _).store 1 _
    have BZ := below_only HB.out (only_store (only_store (World.grownBy.refl w1 (some (w.heap.size + 1 + 1))) (i := 0) (.int .i64 0)) (i := 1) (.int .i64 0)) HB.out.size (by omega)
    generalize ((w1.setCell ⟨w.heap.size + 1 + 1, 0, none⟩ (.int .i64 0)).setCell ⟨w.heap.size + 1 + 1, 1, none⟩ (.int .i64 0)) = wz at Z3 BZ ⊢
    have q0 := Z3.read 0
    have q1 := Z3.read 1
    exact bodyPost_ret (v := .tuple #[.agg #[.int .i64 0, .int .i64 0], .bool false]) (by simp [results, Tryd.results22, go_sem, q0, q1]) rfl ⟨rfl, BZ⟩
set_option maxRecDepth 100000 in
set_option maxHeartbeats 1000000 in
theorem rekey_any (o : Od) (x : Rc) (io : o.In) (ix : x.In) (w : World) :
    Calls Tryd.prog 23 #[.agg (odV o), .agg #[.int .i64 x.k, .int .i64 x.v]] w fun e w' => e = .returned (resV (if 1 ≤ o.x then some ⟨x.v % o.x, x.v⟩ else none)) ∧ Below w.heap.size w w' := by
  have W1 := Lib.hid (fresh3 w (odV o) #[.int .i64 x.k, .int .i64 x.v] #[.int .i64 0, .int .i64 0] 27 33 33).1
  have W2 := Lib.hid (fresh3 w (odV o) #[.int .i64 x.k, .int .i64 x.v] #[.int .i64 0, .int .i64 0] 27 33 33).2.1
  have W3 := Lib.hid (fresh3 w (odV o) #[.int .i64 x.k, .int .i64 x.v] #[.int .i64 0, .int .i64 0] 27 33 33).2.2.1
  have B3 := Lib.hid (fresh3 w (odV o) #[.int .i64 x.k, .int .i64 x.v] #[.int .i64 0, .int .i64 0] 27 33 33).2.2.2
  have K := Lib.hid (fun w0 => floorB_any x.v o.x ix.2.1 ix.2.2 io.x.2 w0)
  by_cases h1 : 1 ≤ o.x
  rotate_left
  · have e1 : floorE o.x = 1 := by simp [floorE, h1]
    rw [e1] at K
    generalize floorR x.v o.x = r at K
    generalize floorQ x.v o.x = q at K
    rw [if_neg h1]
    clear h1 e1 io ix
    go_enter Tryd.func23, Tryd.ntmps23
    go_wp2_with (go_at_call 32; refine (K.out _).mono ?_; rintro e w1 ⟨rfl, b1⟩; have V1 := W1.out.below b1 W1.out.inside; have V2 := W2.out.below b1 W2.out.inside; have V3 := W3.out.below b1 W3.out.inside; have HB := Lib.hid (B3.out.trans (b1.mono B3.out.size)); obtain ⟨k0, k1, k2, k3, k4, k5⟩ : _ ∧ _ ∧ _ ∧ _ ∧ _ ∧ _ := ⟨V1.read 0, V1.read 1, V1.read 2, V1.read 3, V1.read 4, V1.read 5⟩; obtain ⟨l0, l1⟩ : _ ∧ _ := ⟨V2.read 0, V2.read 1⟩; obtain ⟨m0, m1, f0, f1⟩ : _ ∧ _ ∧ _ ∧ _ := ⟨V3.read 0, V3.read 1, V3.soft 0, V3.soft 1⟩; clear b1)
    clear k0 k1 k2 k3 k4 k5 l0 l1 m0 m1 f0 f1
    have Z3 : Whole ((w1.setCell ⟨w.heap.size + 1 + 1, 0, none⟩ (.int .i64 0)).setCell ⟨w.heap.size + 1 + 1, 1, none⟩ (.int .i64 0)) (w.heap.size + 1 + 1) 33 #[.int .i64 0, .int .i64 0] := (V3.store 0 _).store 1 _
    have BZ := below_only HB.out (only_store (only_store (World.grownBy.refl w1 (some (w.heap.size + 1 + 1))) (i := 0) (.int .i64 0)) (i := 1) (.int .i64 0)) HB.out.size (by omega)
    generalize ((w1.setCell ⟨w.heap.size + 1 + 1, 0, none⟩ (.int .i64 0)).setCell ⟨w.heap.size + 1 + 1, 1, none⟩ (.int .i64 0)) = wz at Z3 BZ ⊢
    have q0 := Z3.read 0
    have q1 := Z3.read 1
    exact bodyPost_ret (v := .tuple #[.agg #[.int .i64 0, .int .i64 0], .bool false]) (by simp [results, Tryd.results23, go_sem, q0, q1]) rfl ⟨rfl, BZ⟩

  have e1 : floorE o.x = 0 := by simp [floorE, h1]
  have e2 : floorR x.v o.x = x.v % o.x := by simp [floorR, h1]
  rw [e1, e2] at K
  generalize floorQ x.v o.x = q at K
  clear e1 e2 io ix
  rw [if_pos h1]
  generalize x.v % o.x = r at K ⊢
  clear h1
  go_enter Tryd.func23, Tryd.ntmps23
  go_wp2_with (go_at_call 32; refine (K.out _).mono ?_; rintro e w1 ⟨rfl, b1⟩; have V1 := W1.out.below b1 W1.out.inside; have V2 := W2.out.below b1 W2.out.inside; have V3 := W3.out.below b1 W3.out.inside; have HB := Lib.hid (B3.out.trans (b1.mono B3.out.size)); obtain ⟨k0, k1, k2, k3, k4, k5⟩ : _ ∧ _ ∧ _ ∧ _ ∧ _ ∧ _ := ⟨V1.read 0, V1.read 1, V1.read 2, V1.read 3, V1.read 4, V1.read 5⟩; obtain ⟨l0, l1⟩ : _ ∧ _ := ⟨V2.read 0, V2.read 1⟩; obtain ⟨m0, m1, f0, f1⟩ : _ ∧ _ ∧ _ ∧ _ := ⟨V3.read 0, V3.read 1, V3.soft 0, V3.soft 1⟩; clear b1)
  clear k0 k1 k2 k3 k4 k5 l0 l1 m0 m1 f0 f1
  have Z3 : Whole ((w1.setCell ⟨w.heap.size + 1 + 1, 0, none⟩ (.int .i64 r)).setCell ⟨w.heap.size + 1 + 1, 1, none⟩ (.int .i64 x.v)) (w.heap.size + 1 + 1) 33 #[.int .i64 r, .int .i64 x.v] := (V3.store 0 _).store 1 _
  have BZ := below_only HB.out (only_store (only_store (World.grownBy.refl w1 (some (w.heap.size + 1 + 1))) (i := 0) (.int .i64 r)) (i := 1) (.int .i64 x.v)) HB.out.size (by omega)
  generalize ((w1.setCell ⟨w.heap.size + 1 + 1, 0, none⟩ (.int .i64 r)).setCell ⟨w.heap.size + 1 + 1, 1, none⟩ (.int .i64 x.v)) = wz at Z3 BZ ⊢
  have q0 := Z3.read 0
  have q1 := Z3.read 1
  exact bodyPost_ret (v := .tuple #[.agg #[.int .i64 r, .int .i64 x.v], .bool true]) (by simp [results, Tryd.results23, go_sem, q0, q1]) rfl ⟨rfl, BZ⟩
end Go.Proofs.YtpbdfiddgbkkmaaDoor.oper
