/-
  The law's example: it answers true.
-/
import Derived.Test.YtmepiogoofmbbaaDoorWk6M
namespace Go.Proofs.YtmepiogoofmbbaaDoor.chain
open Go.ChangeShapes Go.WideShapes Go.ChangeAt Go.RowKit Go.Shelf Go.Sort
open Go.Proofs.YtmepiogoofmbbaaDoor.tm Go.Proofs.YtmepiogoofmbbaaDoor.opened Go.Proofs.YtmepiogoofmbbaaDoor.block Go.Proofs.YtmepiogoofmbbaaDoor.stamp Go.Proofs.YtmepiogoofmbbaaDoor.code

theorem at6 (x y : Int) (w : World) : Calls Tryd.prog 24 #[.int .u32 x, .int .u32 y] w fun e w' => e = .returned (.agg #[.int .u32 x, .int .i64 1, .int .u32 y, .int .u32 0, .int .u32 0]) ∧ Below w.heap.size w w' := by
  go_enter Tryd.func24, Tryd.ntmps24
  go_wp2
  exact bodyPost_ret (v := .agg #[.int .u32 x, .int .i64 1, .int .u32 y, .int .u32 0, .int .u32 0]) (by simp [results, Tryd.results24, go_sem]) rfl ⟨rfl, by
    repeat (with_reducible refine Below.setCell ?_ (by simp) _)
    exact fresh1 _ _⟩
theorem mkK (A : Option Addr) (c : Nat) (w : World) (h : Lt w A kL) : Calls Tryd.prog 9 #[.slice A 4 c] w fun e W' => ∃ B c', e = .returned (.tuple #[.slice B 2 c', .int .i64 0]) ∧ Lt W' B kV ∧ Below w.heap.size w W' := by
  have k := make_any A c kL in_kL (by decide) w h
  rw [makeK.1, makeK.2] at k
  exact k
theorem txK (A : Option Addr) (c : Nat) (w : World) (h : Lt w A kV) (hE : Env w) : Calls Tryd.prog 25 #[.slice A 2 c] w fun e W' => e = .returned (.tuple #[.string ⟨#[123, 48, 46, 51, 32, 49, 46, 50, 125]⟩, .int .i64 0]) ∧ Below w.heap.size w W' := by
  have k := chText A c kV in_kV (by decide) w h hE
  rw [txtK, check_front front_kV] at k
  exact k
theorem wrK (A : Option Addr) (c : Nat) (w : World) (h : Lt w A kV) : Calls Tryd.prog 19 #[.slice A 2 c] w fun e W' => e = .returned (.tuple #[.string ⟨kB.toArray⟩, .int .i64 0]) ∧ Below w.heap.size w W' := by
  have k := chWrite A c kV in_kV (by decide) w h
  rw [wrtK, check_front front_kV] at k
  exact k
theorem jnK (A B : Option Addr) (c d : Nat) (w : World) (h : Lt w A [k1]) (h2 : Lt w B [k2]) : Calls Tryd.prog 17 #[.slice A 1 c, .slice B 1 d] w fun e W' => ∃ D c', e = .returned (.tuple #[.slice D 1 c', .int .i64 0]) ∧ Lt W' D [k2] ∧ Below w.heap.size w W' := by
  have k := join_chain A B c d [k1] [k2] in_k1 in_k2 (by decide) (by decide) w h h2
  rw [joinK.1, joinK.2] at k
  exact k
theorem meK (A B : Option Addr) (c d : Nat) (w : World) (h : Lt w A [k1]) (h2 : Lt w B [k2]) : Calls Tryd.prog 16 #[.slice A 1 c, .slice B 1 d] w fun e W' => ∃ D c', e = .returned (.tuple #[.slice D 1 c', .int .i64 0]) ∧ Lt W' D [k1] ∧ Below w.heap.size w W' := by
  have k := meet_chain A B c d [k1] [k2] in_k1 in_k2 (by decide) (by decide) w h h2
  rw [meetK.1, meetK.2] at k
  exact k
theorem rdK (g : Nat) (w : World) (h : QA w g (kB, 0)) : Calls Tryd.prog 21 #[.pointer (some ⟨g, 0, none⟩)] w fun e W' => ∃ D c', e = .returned (.slice D 2 c') ∧ Lt W' D kV ∧ w.grownBy W' (some g) := by
  have k := chRead_any g (kB, 0) (by decide) w h
  rw [readVK] at k
  exact k.mono fun e W' ⟨D, c', he, h1, _, h3⟩ => ⟨D, c', he, h1, h3⟩
theorem ho1 (A : Option Addr) (c : Nat) (w : World) (h : Lt w A kV) : Calls Tryd.prog 11 #[.slice A 2 c, .agg #[.int .u32 1, .int .i64 1, .int .u32 5, .int .u32 0, .int .u32 0]] w fun e w' => e = .returned (.bool true) ∧ Below w.heap.size w w' := by
  have k := holds_any A c kV ⟨1, 1, 5, 0, 0⟩ (by constructor <;> decide) in_kV (by decide) w h
  rw [show holdsB kV ⟨1, 1, 5, 0, 0⟩ = true by decide] at k
  exact k
theorem ho2 (A : Option Addr) (c : Nat) (w : World) (h : Lt w A kV) : Calls Tryd.prog 11 #[.slice A 2 c, .agg #[.int .u32 0, .int .i64 1, .int .u32 2, .int .u32 0, .int .u32 0]] w fun e w' => e = .returned (.bool false) ∧ Below w.heap.size w w' := by
  have k := holds_any A c kV ⟨0, 1, 2, 0, 0⟩ (by constructor <;> decide) in_kV (by decide) w h
  rw [show holdsB kV ⟨0, 1, 2, 0, 0⟩ = false by decide] at k
  exact k
theorem in_nil : InL [] := by intro t h; simp at h
theorem le1 (w : World) : Calls Tryd.prog 15 #[.slice none 0 0, .slice none 0 0] w fun e w' => e = .returned (.bool true) ∧ Below w.heap.size w w' := lists_any none none 0 0 [] [] in_nil in_nil (by decide) (by decide) w (Lt.nil _ _) (Lt.nil _ _)
theorem le2 (A : Option Addr) (c : Nat) (w : World) (h : Lt w A kV) : Calls Tryd.prog 15 #[.slice none 0 0, .slice A 2 c] w fun e w' => e = .returned (.bool false) ∧ Below w.heap.size w w' := lists_any none A 0 c [] kV in_nil in_kV (by decide) (by decide) w (Lt.nil _ _) h
theorem le3 (A : Option Addr) (c : Nat) (w : World) (h : Lt w A kV) : Calls Tryd.prog 15 #[.slice A 2 c, .slice none 0 0] w fun e w' => e = .returned (.bool true) ∧ Below w.heap.size w w' := lists_any A none c 0 kV [] in_kV in_nil (by decide) (by decide) w h (Lt.nil _ _)
theorem smK (A B : Option Addr) (c d : Nat) (w : World) (h : Lt w A kV) (h2 : Lt w B kV) : Calls Tryd.prog 14 #[.slice A 2 c, .slice B 2 d] w fun e w' => e = .returned (.bool true) ∧ Below w.heap.size w w' := same_self A B c d kV (by decide) w h h2
theorem lt_head {w : World} {A : Option Addr} {t : Tm} (h : Lt w A [t]) : ∃ b off, A = some ⟨b, off, none⟩ ∧ w.cell? ⟨b, off, none⟩ = some (.int .u32 t.e) := by
  obtain ⟨b, off, hA, -, c0, -⟩ := h.at (k := 0) (t := t) rfl
  exact ⟨b, off, hA, by simpa using c0⟩
set_option maxRecDepth 100000 in
set_option maxHeartbeats 8000000 in
theorem works6 (w : World) (hE : Env w) : Calls Tryd.prog 7 #[] w fun e w' => e = .returned (.bool true) ∧ Below w.heap.size w w' := by
  have HE := Lib.hid hE
  clear hE
  go_enter Tryd.func7, Tryd.ntmps7
  go_wp2_with fail
  refine (at6 1 2 _).mono ?_
  rintro e w1 ⟨rfl, b1⟩
  have HE := Lib.hid (HE.out.below b1)
  have B1 := b1
  clear b1
  go_wp2_with fail
  refine (at6 0 3 _).mono ?_
  rintro e w2 ⟨rfl, b2⟩
  have HE := Lib.hid (HE.out.below b2)
  have B2 := B1.trans (b2.mono B1.size)
  clear B1
  clear b2
  go_wp2_with fail
  refine (at6 1 3 _).mono ?_
  rintro e w3 ⟨rfl, b3⟩
  have HE := Lib.hid (HE.out.below b3)
  have B3 := B2.trans (b3.mono B2.size)
  clear B2
  clear b3
  go_wp2_with fail
  refine (at6 0 3 _).mono ?_
  rintro e w4 ⟨rfl, b4⟩
  have HE := Lib.hid (HE.out.below b4)
  have B4 := B3.trans (b4.mono B3.size)
  clear B3
  clear b4
  have f4 := fresh1 w4 (.cells #[.int .u32 1, .int .i64 1, .int .u32 2, .int .u32 0, .int .u32 0, .int .u32 0, .int .i64 1, .int .u32 3, .int .u32 0, .int .u32 0, .int .u32 1, .int .i64 1, .int .u32 3, .int .u32 0, .int .u32 0, .int .u32 0, .int .i64 1, .int .u32 3, .int .u32 0, .int .u32 0] 26)
  have HE := Lib.hid (HE.out.below f4)
  have LL := Lib.hid (lt_lit w4 kL #[.int .u32 1, .int .i64 1, .int .u32 2, .int .u32 0, .int .u32 0, .int .u32 0, .int .i64 1, .int .u32 3, .int .u32 0, .int .u32 0, .int .u32 1, .int .i64 1, .int .u32 3, .int .u32 0, .int .u32 0, .int .u32 0, .int .i64 1, .int .u32 3, .int .u32 0, .int .u32 0] rfl 26)
  go_wp2_with fail
  refine (mkK _ _ _ LL.out).mono ?_
  rintro e w5 ⟨A1, c1, rfl, h5, b5⟩
  have HE := Lib.hid (HE.out.below b5)
  have b5 := f4.trans (b5.mono f4.size)
  have B5 := B4.trans (b5.mono B4.size)
  clear B4 f4 b5
  have HL := Lib.hid h5
  clear h5 LL
  go_wp2_with fail
  refine (txK _ _ _ HL.out HE.out).mono ?_
  rintro e w6 ⟨rfl, b6⟩
  have HE := Lib.hid (HE.out.below b6)
  have HL := Lib.hid (HL.out.below b6)
  have B6 := B5.trans (b6.mono B5.size)
  clear B5
  clear b6
  have f6 := (fresh1 w6 (.cells #[.int .u32 1, .int .i64 0, .int .u32 0, .int .u32 0, .int .u32 0] 26)).trans ((fresh1 (w6.alloc (.cells #[.int .u32 1, .int .i64 0, .int .u32 0, .int .u32 0, .int .u32 0] 26)) (.cells #[.int .u32 2, .int .i64 0, .int .u32 0, .int .u32 0, .int .u32 0] 26)).mono (by simp))
  have HE := Lib.hid (HE.out.below f6)
  have HL := Lib.hid (HL.out.below f6)
  have LA := Lib.hid ((lt_lit w6 [k1] #[.int .u32 1, .int .i64 0, .int .u32 0, .int .u32 0, .int .u32 0] rfl 26).below (fresh1 _ (.cells #[.int .u32 2, .int .i64 0, .int .u32 0, .int .u32 0, .int .u32 0] 26)))
  have LB := Lib.hid (lt_lit (w6.alloc (.cells #[.int .u32 1, .int .i64 0, .int .u32 0, .int .u32 0, .int .u32 0] 26)) [k2] #[.int .u32 2, .int .i64 0, .int .u32 0, .int .u32 0, .int .u32 0] rfl 26)
  rw [World.size_alloc] at LB
  go_wp2_with fail
  refine (jnK _ _ _ _ _ LA.out LB.out).mono ?_
  rintro e w7 ⟨A2, c2, rfl, h7, b7⟩
  have HE := Lib.hid (HE.out.below b7)
  have HL := Lib.hid (HL.out.below b7)
  have b7 := f6.trans (b7.mono f6.size)
  have B7 := B6.trans (b7.mono B6.size)
  clear B6 f6 b7
  obtain ⟨bj, oj, rfl, -⟩ := lt_head h7
  have HJ := Lib.hid h7
  clear h7 LA LB
  have f7 := (fresh1 w7 (.cells #[.int .u32 1, .int .i64 0, .int .u32 0, .int .u32 0, .int .u32 0] 26)).trans ((fresh1 (w7.alloc (.cells #[.int .u32 1, .int .i64 0, .int .u32 0, .int .u32 0, .int .u32 0] 26)) (.cells #[.int .u32 2, .int .i64 0, .int .u32 0, .int .u32 0, .int .u32 0] 26)).mono (by simp))
  have HE := Lib.hid (HE.out.below f7)
  have HL := Lib.hid (HL.out.below f7)
  have HJ := Lib.hid (HJ.out.below f7)
  have LA := Lib.hid ((lt_lit w7 [k1] #[.int .u32 1, .int .i64 0, .int .u32 0, .int .u32 0, .int .u32 0] rfl 26).below (fresh1 _ (.cells #[.int .u32 2, .int .i64 0, .int .u32 0, .int .u32 0, .int .u32 0] 26)))
  have LB := Lib.hid (lt_lit (w7.alloc (.cells #[.int .u32 1, .int .i64 0, .int .u32 0, .int .u32 0, .int .u32 0] 26)) [k2] #[.int .u32 2, .int .i64 0, .int .u32 0, .int .u32 0, .int .u32 0] rfl 26)
  rw [World.size_alloc] at LB
  go_wp2_with fail
  refine (meK _ _ _ _ _ LA.out LB.out).mono ?_
  rintro e w8 ⟨A3, c3, rfl, h8, b8⟩
  have HE := Lib.hid (HE.out.below b8)
  have HL := Lib.hid (HL.out.below b8)
  have HJ := Lib.hid (HJ.out.below b8)
  have b8 := f7.trans (b8.mono f7.size)
  have B8 := B7.trans (b8.mono B7.size)
  clear B7 f7 b8
  obtain ⟨bm, om, rfl, -⟩ := lt_head h8
  have HM := Lib.hid h8
  clear h8 LA LB
  go_wp2_with fail
  refine (wrK _ _ _ HL.out).mono ?_
  rintro e w9 ⟨rfl, b9⟩
  have HE := Lib.hid (HE.out.below b9)
  have HL := Lib.hid (HL.out.below b9)
  have HJ := Lib.hid (HJ.out.below b9)
  have HM := Lib.hid (HM.out.below b9)
  have B9 := B8.trans (b9.mono B8.size)
  clear B8
  clear b9
  go_wp2_with fail
  refine (new_l kB _).mono ?_
  rintro e w10 ⟨rfl, hq, gb⟩
  have b10 : Below w9.heap.size w9 w10 := (Below.refl _ _).grown gb (Nat.le_refl _) (fun j ej => by cases ej)
  have HQ : Hid (QA w10 w9.heap.size (kB, 0)) := Lib.hid hq
  go_wp2_with fail
  refine (rdK _ _ HQ.out).mono ?_
  rintro e w11 ⟨A4, c4, rfl, h11, gr⟩
  have b11 : Below w9.heap.size w9 w11 := b10.grown gr (b10.size) (fun j ej => by have := Option.some.inj ej; omega)
  have HE := Lib.hid (HE.out.below b11)
  have HL := Lib.hid (HL.out.below b11)
  have HJ := Lib.hid (HJ.out.below b11)
  have HM := Lib.hid (HM.out.below b11)
  have B11 := B9.trans (b11.mono B9.size)
  have HR := Lib.hid h11
  clear h11 gb gr hq HQ b10 b11 B9
  go_wp2_with fail
  refine (at6 1 5 _).mono ?_
  rintro e w12 ⟨rfl, b12⟩
  have HE := Lib.hid (HE.out.below b12)
  have HL := Lib.hid (HL.out.below b12)
  have HJ := Lib.hid (HJ.out.below b12)
  have HM := Lib.hid (HM.out.below b12)
  have HR := Lib.hid (HR.out.below b12)
  have B12 := B11.trans (b12.mono B11.size)
  clear B11
  clear b12
  go_wp2_with fail
  refine (ho1 _ _ _ HL.out).mono ?_
  rintro e w13 ⟨rfl, b13⟩
  have HE := Lib.hid (HE.out.below b13)
  have HL := Lib.hid (HL.out.below b13)
  have HJ := Lib.hid (HJ.out.below b13)
  have HM := Lib.hid (HM.out.below b13)
  have HR := Lib.hid (HR.out.below b13)
  have B13 := B12.trans (b13.mono B12.size)
  clear B12
  clear b13
  go_wp2_with fail
  refine (at6 0 2 _).mono ?_
  rintro e w14 ⟨rfl, b14⟩
  have HE := Lib.hid (HE.out.below b14)
  have HL := Lib.hid (HL.out.below b14)
  have HJ := Lib.hid (HJ.out.below b14)
  have HM := Lib.hid (HM.out.below b14)
  have HR := Lib.hid (HR.out.below b14)
  have B14 := B13.trans (b14.mono B13.size)
  clear B13
  clear b14
  go_wp2_with fail
  refine (ho2 _ _ _ HL.out).mono ?_
  rintro e w15 ⟨rfl, b15⟩
  have HE := Lib.hid (HE.out.below b15)
  have HL := Lib.hid (HL.out.below b15)
  have HJ := Lib.hid (HJ.out.below b15)
  have HM := Lib.hid (HM.out.below b15)
  have HR := Lib.hid (HR.out.below b15)
  have B15 := B14.trans (b15.mono B14.size)
  clear B14
  clear b15
  obtain ⟨b0, o0, e0, cj⟩ := lt_head HJ.out
  cases e0
  obtain ⟨b0, o0, e0, cm⟩ := lt_head HM.out
  cases e0
  rw [show k2.e = 2 from rfl] at cj
  rw [show k1.e = 1 from rfl] at cm
  go_wp2_with fail
  refine (smK _ _ _ _ _ HR.out HL.out).mono ?_
  rintro e w16 ⟨rfl, b16⟩
  have HE := Lib.hid (HE.out.below b16)
  have HL := Lib.hid (HL.out.below b16)
  have HJ := Lib.hid (HJ.out.below b16)
  have HM := Lib.hid (HM.out.below b16)
  have HR := Lib.hid (HR.out.below b16)
  have B16 := B15.trans (b16.mono B15.size)
  clear B15
  clear b16
  clear cj cm
  go_wp2_with fail
  refine (le1 _).mono ?_
  rintro e w17 ⟨rfl, b17⟩
  have HE := Lib.hid (HE.out.below b17)
  have HL := Lib.hid (HL.out.below b17)
  have HJ := Lib.hid (HJ.out.below b17)
  have HM := Lib.hid (HM.out.below b17)
  have HR := Lib.hid (HR.out.below b17)
  have B17 := B16.trans (b17.mono B16.size)
  clear B16
  clear b17
  go_wp2_with fail
  refine (le2 _ _ _ HL.out).mono ?_
  rintro e w18 ⟨rfl, b18⟩
  have HE := Lib.hid (HE.out.below b18)
  have HL := Lib.hid (HL.out.below b18)
  have HJ := Lib.hid (HJ.out.below b18)
  have HM := Lib.hid (HM.out.below b18)
  have HR := Lib.hid (HR.out.below b18)
  have B18 := B17.trans (b18.mono B17.size)
  clear B17
  clear b18
  go_wp2_with fail
  refine (le3 _ _ _ HL.out).mono ?_
  rintro e w19 ⟨rfl, b19⟩
  have HE := Lib.hid (HE.out.below b19)
  have HL := Lib.hid (HL.out.below b19)
  have HJ := Lib.hid (HJ.out.below b19)
  have HM := Lib.hid (HM.out.below b19)
  have HR := Lib.hid (HR.out.below b19)
  have B19 := B18.trans (b19.mono B18.size)
  clear B18
  clear b19
  go_wp2_with fail
  go_ret
  exact ⟨by first | rfl | simp, B19⟩
end Go.Proofs.YtmepiogoofmbbaaDoor.chain
