/-
  The walk of OperOnes (by gen_oo.py).
-/
import Derived.Test.YtfjfohkdlikpiaaGs
import Derived.Test.YtfjfohkdlikpiaaOow
import Derived.Test.YtfjfohkdlikpiaaRt3
namespace Go.Proofs.Ytfjfohkdlikpiaa.oper
open Go.ChangeShapes Go.WideShapes Go.ChangeAt Go.RowKit
open Go.Proofs.Ytfjfohkdlikpiaa.tm Go.Proofs.Ytfjfohkdlikpiaa.opened Go.Proofs.Ytfjfohkdlikpiaa.block Go.Proofs.Ytfjfohkdlikpiaa.region Go.Proofs.Ytfjfohkdlikpiaa.data

def RowP (N : List Rc) : Value → World → Prop := fun u w => ∃ B c, u = .slice B N.length c ∧ Lr w B N
theorem keeps_rowP (N : List Rc) : Keeps (RowP N) := fun _ _ _ hb ⟨B, c, h1, h2⟩ => ⟨B, c, h1, h2.below hb⟩
theorem alike_self (A B : Option Addr) (c d : Nat) (N : List Rc) (hM : N.length ≤ 1000000) (w : World) (h1 : Lr w A N) (h2 : Lr w B N) :
    Calls Try.prog 10 #[.slice A N.length c, .slice B N.length d] w fun e w' => e = .returned (.bool true) ∧ Below w.heap.size w w' := by
  have h := alike_any A B c d N N hM w h1 h2
  rwa [decide_eq_true (rfl : N = N)] at h
theorem own_lr (A : Option Addr) (c : Nat) (L : List Rc) (mL : L.length ≤ 4096) (w : World) (hL : Lr w A L) :
    Calls Try.prog 12 #[.slice A L.length c] w fun e W' => ∃ B c', e = .returned (.slice B L.length c') ∧ Lr W' B L ∧ Below w.heap.size w W' := (own_any A c L mL w hL).mono fun _ _ ⟨B, c', he, ho, hb⟩ => ⟨B, c', he, ho.lg cellsR, hb⟩
theorem each_lr (o : Od) (io : o.In) (A : Option Addr) (c : Nat) (L : List Rc) (iL : InR L) (mL : L.length ≤ 4096) (w : World) (hL : Lr w A L) :
    Calls Try.prog 11 #[.agg (odV o), .slice A L.length c] w fun e W' => ∃ B c', e = .returned (.slice B (eachV o.k o.x o.y L).length c') ∧ Lr W' B (eachV o.k o.x o.y L) ∧ Below w.heap.size w W' := (each_any o io A c L iL mL w hL).mono fun _ _ ⟨B, c', he, ho, hb⟩ => ⟨B, c', he, ho.lg cellsR, hb⟩
theorem eachR_lr (o : Od) (io : o.In) (A : Option Addr) (c : Nat) (L : List Rc) (iL : InR L) (mL : L.length ≤ 4096) (w : World) (hL : Lr w A L) :
    Calls Try.prog 13 #[.agg (odV o), .slice A L.length c] w fun e W' => ∃ B c', e = .returned (.slice B (eachV o.k o.x o.y L).length c') ∧ Lr W' B (eachV o.k o.x o.y L) ∧ Below w.heap.size w W' := (eachR_any o io A c L iL mL w hL).mono fun _ _ ⟨B, c', he, ho, hb⟩ => ⟨B, c', he, ho.lg cellsR, hb⟩
theorem keeps_bel (k : Int) (w : World) : Calls Try.prog 8 #[.int .i64 k] w fun e w' => e = .returned (.bool (keepsB k)) ∧ Below w.heap.size w w' := (keeps_any k w).mono fun _ _ ⟨h1, h2⟩ => ⟨h1, h2 ▸ Below.refl _ _⟩
theorem resV_is (r : Option Rc) : ∃ a b c, resV r = .tuple #[.agg #[.int .i64 a, .int .i64 b], .bool c] := by
  cases r with
  | none => exact ⟨_, _, _, rfl⟩
  | some y => exact ⟨_, _, _, rfl⟩
set_option maxRecDepth 100000 in
set_option maxHeartbeats 8000000 in
theorem walkOnes (o : Od) (io : o.In) (x : Rc) (ix : x.In) (A : Option Addr) (c : Nat) (L : List Rc) (iL : InR L) (w : World) (hL : Lr w A L) :
    Calls Try.prog 3 #[.agg (odV o), .agg #[.int .i64 x.k, .int .i64 x.v], .slice A L.length c] w fun e w' => e = .returned (.bool true) ∧ Below w.heap.size w w' := by
  by_cases hl : L.length ≤ 300
  rotate_left
  · have hl' : (300 : Int) < (L.length : Int) := by omega
    have W2 := Lib.hid ((fresh0 w (.cells (odV o) 23)).trans ((fresh0 (w.alloc (.cells (odV o) 23)) (.cells #[.int .i64 x.k, .int .i64 x.v] 25)).mono (fresh0 w (.cells (odV o) 23)).size))
    clear hL hl iL
    generalize L.length = l at hl' ⊢
    go_enter Try.func3, Try.ntmps3
    go_wp2_with fail
    go_ret
    exact ⟨rfl, W2.out⟩
  have hl' : ¬ (300 : Int) < (L.length : Int) := by omega
  have KP := Lib.hid (fun w0 => keeps_bel o.k w0)
  have KR := Lib.hid (fun w0 => keepsR_any o.k w0)
  have TO := Lib.hid (fun w0 => to_any o w0)
  have K1 := Lib.hid (fun w0 => one_any o x io ix w0)
  have K2 := Lib.hid (fun w0 => oneR_any o x io ix w0)
  have OW := Lib.hid (fun A c w0 h => own_lr A c L (by omega) w0 h)
  have EP := Lib.hid (fun A c w0 h => each_lr o io A c L iL (by omega) w0 h)
  have ER := Lib.hid (fun A c w0 h => eachR_lr o io A c L iL (by omega) w0 h)
  have AL := Lib.hid (fun A B c d w0 h k => alike_self A B c d (eachV o.k o.x o.y L) (by have := eachV_len o.k o.x o.y L; omega) w0 h k)
  have HL := Lib.hid hL
  obtain ⟨yk, yv, yb, hres⟩ := resV_is (oneV o.k o.x o.y x)
  rw [hres] at K1 K2
  generalize eachV o.k o.x o.y L = M at EP ER AL
  have HF := Lib.hid (fresh0 w (.cells (odV o) 23))
  have HF2 := Lib.hid (fresh0 (w.alloc (.cells (odV o) 23)) (.cells #[.int .i64 x.k, .int .i64 x.v] 25))
  have HW0 := Lib.hid ((Whole.fresh w 23 (odV o)).below HF2.out (Whole.fresh w 23 (odV o)).inside)
  have HW1 := Lib.hid (Whole.fresh (w.alloc (.cells (odV o) 23)) 25 #[.int .i64 x.k, .int .i64 x.v])
  have HB2 := Lib.hid (HF.out.trans (HF2.out.mono HF.out.size))
  have e1 : (w.alloc (.cells (odV o) 23)).heap.size = w.heap.size + 1 := World.size_alloc _ _
  rw [e1] at HW1
  clear hL iL hres hl HF HF2 e1 io ix
  go_enter Try.func3, Try.ntmps3
  go_upto_region 3 with fail
  change Code.wp _ _ _ _ ((w.alloc (.cells (odV o) 23)).alloc (.cells #[.int .i64 x.k, .int .i64 x.v] 25))
  generalize (w.alloc (.cells (odV o) 23)).alloc (.cells #[.int .i64 x.k, .int .i64 x.v] 25) = w2 at HW0 HW1 HB2 ⊢
  obtain ⟨g1, hg1⟩ : ∃ g1, g1 = w.heap.size + 1 := ⟨_, rfl⟩
  rw [← hg1] at HW1 ⊢
  clear hg1
  obtain ⟨g0, hg0⟩ : ∃ g0, g0 = w.heap.size := ⟨_, rfl⟩
  obtain ⟨HG0, -⟩ : ∃ h : Hid (Whole w2 g0 23 (odV o)), True := ⟨Lib.hid (by rw [hg0]; exact HW0.out), trivial⟩
  rw [← hg0]
  clear hg0 HW0
  have HG1 := HW1
  clear HW1
  refine region_one2 7 8 55 25 #[.int .i64 0, .int .i64 0] #[.int .i64 yk, .int .i64 yv]
    [.agg (odV o), .agg (odV o), .agg #[.int .i64 x.k, .int .i64 x.v], .tuple #[.agg #[.int .i64 yk, .int .i64 yv], .bool yb], .tuple #[.agg #[.int .i64 yk, .int .i64 yv], .bool yb], .agg #[.int .i64 yk, .int .i64 yv], .bool yb, undef, undef, .bool yb] (by kernel_rfl) rfl (by kernel_rfl) rfl rfl rfl rfl rfl rfl (by kernel_rfl) (by kernel_rfl) rfl (by simp [Value.oneCell']) (by kernel_rfl) ?_ ?_
  · intro w ρ
    simp [execOp, go_sem]
  intro fin hfin
  simp [lexPut, val, kind1, Act.put] at hfin
  refine ⟨fun n => by rw [hfin]; rfl, ⟨fun _ n => tells_load rfl (by rw [hfin]; rfl) (show Whole w2.drew g0 23 (odV o) from HG0.out) Try.underlying23 rfl (by kernel_rfl),
    fun _ n => tells_call rfl (by rw [hfin]; simp [Act.eval]) rfl Try.func6 (by kernel_rfl) (by kernel_rfl) TO.out,
    fun _ n => tells_load rfl (by rw [hfin]; rfl) (show Whole w2.drew g1 25 #[.int .i64 x.k, .int .i64 x.v] from HG1.out) Try.underlying25 rfl (by kernel_rfl),
    fun _ n => tells_call rfl (by rw [hfin]; simp [Act.eval]) rfl Try.func5 (by kernel_rfl) (by kernel_rfl) K1.out,
    fun _ n => tells_move rfl (by rw [hfin]; rfl),
    fun _ n => tells_extract rfl (by rw [hfin]; rfl) rfl,
    fun _ n => tells_extract rfl (by rw [hfin]; rfl) rfl,
    (fun h => by simp [kind1] at h),
    (fun h => by simp [kind1] at h),
    fun _ n => tells_assign rfl (by rw [hfin]; rfl), trivial⟩, ?_⟩
  intro n w3 g3 hm b3 W3 hge
  rw [hfin, hm]
  clear hfin hm n fin hge
  have HG0 := Lib.hid (HG0.out.below b3 HG0.out.inside)
  have HG1 := Lib.hid (HG1.out.below b3 HG1.out.inside)
  have HB3 := Lib.hid (HB2.out.trans (b3.mono HB2.out.size))
  have HG3 := Lib.hid W3
  clear b3 W3 K1 HB2
  obtain ⟨k0, k1, k2, k3, k4, k5⟩ : _ ∧ _ ∧ _ ∧ _ ∧ _ ∧ _ := ⟨HG0.out.read 0, HG0.out.read 1, HG0.out.read 2, HG0.out.read 3, HG0.out.read 4, HG0.out.read 5⟩
  obtain ⟨l0, l1⟩ : _ ∧ _ := ⟨HG1.out.read 0, HG1.out.read 1⟩
  go_upto_region 5 with (go_at_call 7; refine (K2.out _).mono ?_; rintro e w4 ⟨rfl, b4⟩; have B4 := Lib.hid b4; clear b4)
  change Code.wp _ _ _ _ (w4.alloc (.cells #[.int .i64 yk, .int .i64 yv] 25))
  have b5 := B4.out.trans ((fresh0 w4 (.cells #[.int .i64 yk, .int .i64 yv] 25)).mono B4.out.size)
  have HG5 := Lib.hid (Whole.fresh w4 25 #[.int .i64 yk, .int .i64 yv])
  generalize w4.alloc (.cells #[.int .i64 yk, .int .i64 yv] 25) = wx at b5 HG5 ⊢
  generalize w4.heap.size = g5 at HG5 ⊢
  have HX3 : Hid (∀ w8, Below wx.heap.size wx w8 → Below w3.heap.size w3 w8) := Lib.hid (fun w8 h => b5.trans (h.mono b5.size))
  have BX := Lib.hid (HB3.out.trans (b5.mono HB3.out.size))
  have HX : Hid (∀ w8, Below wx.heap.size wx w8 → Below w.heap.size w w8) := Lib.hid (fun w8 h => BX.out.trans (h.mono BX.out.size))
  have HG0 := Lib.hid (HG0.out.below b5 HG0.out.inside)
  clear k0 k1 k2 k3 k4 k5 l0 l1 b5 B4 HB3 K2 HG1
  refine region_want 55 [Is (.pointer (some ⟨g0, 1, none⟩)), Is (.int .i64 o.k), Is (.bool (keepsB o.k)), Is (.pointer (some ⟨g0, 1, none⟩)), Is (.int .i64 o.k), Is (.bool (keepsB o.k)), Is (.bool true), Is (.bool true), Is (.agg #[.int .i64 yk, .int .i64 yv]), Is (.agg #[.int .i64 yk, .int .i64 yv]), Is (.bool true), Is (.bool true), Is (.bool true), Is (.bool yb), Is (.bool yb), Is (.bool true), Is (.bool true), Is (.bool true), Is (.agg (odV o)), Is (.agg (odV o)), Is (.slice A L.length c), RowP L, RowP M, Is (.agg (odV o)), Is (.slice A L.length c), RowP M, Is (.bool true), Is (.bool true), Is (.bool true)] (by kernel_rfl) rfl (by kernel_rfl) ?_ ?_
  · exact ⟨keeps_is _, keeps_is _, keeps_is _, keeps_is _, keeps_is _, keeps_is _, keeps_is _, keeps_is _, keeps_is _, keeps_is _, keeps_is _, keeps_is _, keeps_is _, keeps_is _, keeps_is _, keeps_is _, keeps_is _, keeps_is _, keeps_is _, keeps_is _, keeps_is _, keeps_rowP _, keeps_rowP _, keeps_is _, keeps_is _, keeps_rowP _, keeps_is _, keeps_is _, keeps_is _, trivial⟩
  · intro fin hfin
    simp [lexPut, Act.put] at hfin
    refine ⟨⟨?_, ?_, ?_, ?_, ?_, ?_, ?_, ?_, ?_, ?_, ?_, ?_, ?_, ?_, ?_, ?_, ?_, ?_, ?_, ?_, ?_, ?_, ?_, ?_, ?_, ?_, ?_, ?_, ?_, trivial⟩, ?_⟩
    · intro v w8 hb hd
      refine done_plain rfl (yields_run (u := .pointer (some ⟨g0, 1, none⟩)) (w' := w8) ?_ (Below.refl _ _) rfl)
      rw [hfin]
      unfold execOp
      simp [go_sem, Act.eval]
    · intro v w8 hb hd
      have h0 : v 0 = .pointer (some ⟨g0, 1, none⟩) := hd 0 (by kernel_rfl)
      have k0 := (HG0.out.below hb HG0.out.inside).read 1
      refine done_plain rfl (yields_run (u := .int .i64 o.k) (w' := w8) ?_ (Below.refl _ _) rfl)
      rw [hfin]
      unfold execOp
      simp [go_sem, Act.eval, h0, k0]
    · intro v w8 hb hd
      have h1 : v 1 = .int .i64 o.k := hd 1 (by kernel_rfl)
      refine done_plain rfl (yields_call (f := 8) rfl (vs := #[.int .i64 o.k]) (by rw [hfin]; simp [Act.eval, h1]) rfl Try.func8 (by kernel_rfl) (by kernel_rfl) ?_)
      exact (KP.out w8).mono fun e w' ⟨he, hb'⟩ => ⟨_, he, hb', rfl⟩
    · intro v w8 hb hd
      refine done_plain rfl (yields_run (u := .pointer (some ⟨g0, 1, none⟩)) (w' := w8) ?_ (Below.refl _ _) rfl)
      rw [hfin]
      unfold execOp
      simp [go_sem, Act.eval]
    · intro v w8 hb hd
      have h3 : v 3 = .pointer (some ⟨g0, 1, none⟩) := hd 3 (by kernel_rfl)
      have k0 := (HG0.out.below hb HG0.out.inside).read 1
      refine done_plain rfl (yields_run (u := .int .i64 o.k) (w' := w8) ?_ (Below.refl _ _) rfl)
      rw [hfin]
      unfold execOp
      simp [go_sem, Act.eval, h3, k0]
    · intro v w8 hb hd
      have h4 : v 4 = .int .i64 o.k := hd 4 (by kernel_rfl)
      refine done_plain rfl (yields_call (f := 9) rfl (vs := #[.int .i64 o.k]) (by rw [hfin]; simp [Act.eval, h4]) rfl Try.func9 (by kernel_rfl) (by kernel_rfl) ?_)
      exact (KR.out w8).mono fun e w' ⟨he, hb'⟩ => ⟨_, he, hb', rfl⟩
    · intro v w8 hb hd
      have h2 : v 2 = .bool (keepsB o.k) := hd 2 (by kernel_rfl)
      have h5 : v 5 = .bool (keepsB o.k) := hd 5 (by kernel_rfl)
      refine done_plain rfl (yields_run (u := .bool true) (w' := w8) ?_ (Below.refl _ _) rfl)
      rw [hfin]
      unfold execOp
      simp [go_sem, Act.eval, h2, h5]
    · intro v w8 hb hd
      have h6 : v 6 = .bool true := hd 6 (by kernel_rfl)
      refine done_plain rfl (yields_run (u := .bool true) (w' := w8) ?_ (Below.refl _ _) rfl)
      rw [hfin]
      unfold execOp
      simp [go_sem, Act.eval, h6]
    · intro v w8 hb hd
      have g7 : v 7 = .bool true := hd 7 (by kernel_rfl)
      have k0 := (HG3.out.below (HX3.out _ hb) HG3.out.inside).read 0
      have k1 := (HG3.out.below (HX3.out _ hb) HG3.out.inside).read 1
      refine done_want 7 true rfl g7 (yields_run (u := .agg #[.int .i64 yk, .int .i64 yv]) (w' := w8) ?_ (Below.refl _ _) rfl)
      rw [hfin]
      unfold execOp
      simp [go_sem, Act.eval, k0, k1]
    · intro v w8 hb hd
      have g7 : v 7 = .bool true := hd 7 (by kernel_rfl)
      have k0 := (HG5.out.below hb HG5.out.inside).read 0
      have k1 := (HG5.out.below hb HG5.out.inside).read 1
      refine done_want 7 true rfl g7 (yields_run (u := .agg #[.int .i64 yk, .int .i64 yv]) (w' := w8) ?_ (Below.refl _ _) rfl)
      rw [hfin]
      unfold execOp
      simp [go_sem, Act.eval, k0, k1]
    · intro v w8 hb hd
      have g7 : v 7 = .bool true := hd 7 (by kernel_rfl)
      have h8 : v 8 = .agg #[.int .i64 yk, .int .i64 yv] := hd 8 (by kernel_rfl)
      have h9 : v 9 = .agg #[.int .i64 yk, .int .i64 yv] := hd 9 (by kernel_rfl)
      refine done_want 7 true rfl g7 (yields_run (u := .bool true) (w' := w8) ?_ (Below.refl _ _) rfl)
      rw [hfin]
      unfold execOp
      simp [go_sem, Act.eval, h8, h9]
    · intro v w8 hb hd
      have h7 : v 7 = .bool true := hd 7 (by kernel_rfl)
      have h10 : v 10 = .bool true := hd 10 (by kernel_rfl)
      refine done_plain rfl (yields_run (u := .bool true) (w' := w8) ?_ (Below.refl _ _) rfl)
      rw [hfin]
      unfold execOp
      simp [go_sem, Act.eval, h7, h10]
    · intro v w8 hb hd
      have h11 : v 11 = .bool true := hd 11 (by kernel_rfl)
      refine done_plain rfl (yields_run (u := .bool true) (w' := w8) ?_ (Below.refl _ _) rfl)
      rw [hfin]
      unfold execOp
      simp [go_sem, Act.eval, h11]
    · intro v w8 hb hd
      have g12 : v 12 = .bool true := hd 12 (by kernel_rfl)
      refine done_want 12 true rfl g12 (yields_run (u := .bool yb) (w' := w8) ?_ (Below.refl _ _) rfl)
      rw [hfin]
      unfold execOp
      simp [go_sem, Act.eval]
    · intro v w8 hb hd
      have g12 : v 12 = .bool true := hd 12 (by kernel_rfl)
      refine done_want 12 true rfl g12 (yields_run (u := .bool yb) (w' := w8) ?_ (Below.refl _ _) rfl)
      rw [hfin]
      unfold execOp
      simp [go_sem, Act.eval]
    · intro v w8 hb hd
      have g12 : v 12 = .bool true := hd 12 (by kernel_rfl)
      have h13 : v 13 = .bool yb := hd 13 (by kernel_rfl)
      have h14 : v 14 = .bool yb := hd 14 (by kernel_rfl)
      refine done_want 12 true rfl g12 (yields_run (u := .bool true) (w' := w8) ?_ (Below.refl _ _) rfl)
      rw [hfin]
      unfold execOp
      simp [go_sem, Act.eval, h13, h14]
    · intro v w8 hb hd
      have h12 : v 12 = .bool true := hd 12 (by kernel_rfl)
      have h15 : v 15 = .bool true := hd 15 (by kernel_rfl)
      refine done_plain rfl (yields_run (u := .bool true) (w' := w8) ?_ (Below.refl _ _) rfl)
      rw [hfin]
      unfold execOp
      simp [go_sem, Act.eval, h12, h15]
    · intro v w8 hb hd
      have h16 : v 16 = .bool true := hd 16 (by kernel_rfl)
      refine done_plain rfl (yields_run (u := .bool true) (w' := w8) ?_ (Below.refl _ _) rfl)
      rw [hfin]
      unfold execOp
      simp [go_sem, Act.eval, h16]
    · intro v w8 hb hd
      have g17 : v 17 = .bool true := hd 17 (by kernel_rfl)
      have k0 := (HG0.out.below hb HG0.out.inside).read 0
      have k1 := (HG0.out.below hb HG0.out.inside).read 1
      have k2 := (HG0.out.below hb HG0.out.inside).read 2
      have k3 := (HG0.out.below hb HG0.out.inside).read 3
      have k4 := (HG0.out.below hb HG0.out.inside).read 4
      have k5 := (HG0.out.below hb HG0.out.inside).read 5
      refine done_want 17 true rfl g17 (yields_run (u := .agg (odV o)) (w' := w8) ?_ (Below.refl _ _) rfl)
      rw [hfin]
      unfold execOp
      simp [go_sem, Act.eval, k0, k1, k2, k3, k4, k5]
    · intro v w8 hb hd
      have g17 : v 17 = .bool true := hd 17 (by kernel_rfl)
      have h18 : v 18 = .agg (odV o) := hd 18 (by kernel_rfl)
      refine done_want 17 true rfl g17 (yields_call (f := 6) rfl (vs := #[.agg (odV o)]) (by rw [hfin]; simp [Act.eval, h18]) rfl Try.func6 (by kernel_rfl) (by kernel_rfl) ?_)
      exact (TO.out w8).mono fun e w' ⟨he, hb'⟩ => ⟨_, he, hb', rfl⟩
    · intro v w8 hb hd
      have g17 : v 17 = .bool true := hd 17 (by kernel_rfl)
      refine done_want 17 true rfl g17 (yields_run (u := .slice A L.length c) (w' := w8) ?_ (Below.refl _ _) rfl)
      rw [hfin]
      unfold execOp
      simp [go_sem, Act.eval]
    · intro v w8 hb hd
      have g17 : v 17 = .bool true := hd 17 (by kernel_rfl)
      have h20 : v 20 = .slice A L.length c := hd 20 (by kernel_rfl)
      refine done_want 17 true rfl g17 (yields_call (f := 12) rfl (vs := #[.slice A L.length c]) (by rw [hfin]; simp [Act.eval, h20]) rfl Try.func12 (by kernel_rfl) (by kernel_rfl) ?_)
      exact (OW.out A c w8 (HL.out.below (HX.out _ hb))).mono fun e w' ⟨B9, c9, he, hl9, hb'⟩ => ⟨_, he, hb', B9, c9, rfl, hl9⟩
    · intro v w8 hb hd
      have g17 : v 17 = .bool true := hd 17 (by kernel_rfl)
      have h19 : v 19 = .agg (odV o) := hd 19 (by kernel_rfl)
      obtain ⟨B1, c1, h21, l1⟩ : RowP L (v 21) w8 := hd 21 (by kernel_rfl)
      refine done_want 17 true rfl g17 (yields_call (f := 11) rfl (vs := #[.agg (odV o), .slice B1 L.length c1]) (by rw [hfin]; simp [Act.eval, h19, h21]) rfl Try.func11 (by kernel_rfl) (by kernel_rfl) ?_)
      exact (EP.out B1 c1 w8 l1).mono fun e w' ⟨B9, c9, he, hl9, hb'⟩ => ⟨_, he, hb', B9, c9, rfl, hl9⟩
    · intro v w8 hb hd
      have g17 : v 17 = .bool true := hd 17 (by kernel_rfl)
      have k0 := (HG0.out.below hb HG0.out.inside).read 0
      have k1 := (HG0.out.below hb HG0.out.inside).read 1
      have k2 := (HG0.out.below hb HG0.out.inside).read 2
      have k3 := (HG0.out.below hb HG0.out.inside).read 3
      have k4 := (HG0.out.below hb HG0.out.inside).read 4
      have k5 := (HG0.out.below hb HG0.out.inside).read 5
      refine done_want 17 true rfl g17 (yields_run (u := .agg (odV o)) (w' := w8) ?_ (Below.refl _ _) rfl)
      rw [hfin]
      unfold execOp
      simp [go_sem, Act.eval, k0, k1, k2, k3, k4, k5]
    · intro v w8 hb hd
      have g17 : v 17 = .bool true := hd 17 (by kernel_rfl)
      refine done_want 17 true rfl g17 (yields_run (u := .slice A L.length c) (w' := w8) ?_ (Below.refl _ _) rfl)
      rw [hfin]
      unfold execOp
      simp [go_sem, Act.eval]
    · intro v w8 hb hd
      have g17 : v 17 = .bool true := hd 17 (by kernel_rfl)
      have h23 : v 23 = .agg (odV o) := hd 23 (by kernel_rfl)
      have h24 : v 24 = .slice A L.length c := hd 24 (by kernel_rfl)
      refine done_want 17 true rfl g17 (yields_call (f := 13) rfl (vs := #[.agg (odV o), .slice A L.length c]) (by rw [hfin]; simp [Act.eval, h23, h24]) rfl Try.func13 (by kernel_rfl) (by kernel_rfl) ?_)
      exact (ER.out A c w8 (HL.out.below (HX.out _ hb))).mono fun e w' ⟨B9, c9, he, hl9, hb'⟩ => ⟨_, he, hb', B9, c9, rfl, hl9⟩
    · intro v w8 hb hd
      have g17 : v 17 = .bool true := hd 17 (by kernel_rfl)
      obtain ⟨B1, c1, h22, l1⟩ : RowP M (v 22) w8 := hd 22 (by kernel_rfl)
      obtain ⟨B2, c2, h25, l2⟩ : RowP M (v 25) w8 := hd 25 (by kernel_rfl)
      refine done_want 17 true rfl g17 (yields_call (f := 10) rfl (vs := #[.slice B1 M.length c1, .slice B2 M.length c2]) (by rw [hfin]; simp [Act.eval, h22, h25]) rfl Try.func10 (by kernel_rfl) (by kernel_rfl) ?_)
      exact (AL.out B1 B2 c1 c2 w8 l1 l2).mono fun e w' ⟨he, hb'⟩ => ⟨_, he, hb', rfl⟩
    · intro v w8 hb hd
      have h17 : v 17 = .bool true := hd 17 (by kernel_rfl)
      have h26 : v 26 = .bool true := hd 26 (by kernel_rfl)
      refine done_plain rfl (yields_run (u := .bool true) (w' := w8) ?_ (Below.refl _ _) rfl)
      rw [hfin]
      unfold execOp
      simp [go_sem, Act.eval, h17, h26]
    · intro v w8 hb hd
      have h27 : v 27 = .bool true := hd 27 (by kernel_rfl)
      refine done_plain rfl (yields_run (u := .bool true) (w' := w8) ?_ (Below.refl _ _) rfl)
      rw [hfin]
      unfold execOp
      simp [go_sem, Act.eval, h27]
    · intro v w8 hb hv
      have h28 : v 28 = .bool true := hv 28 (by decide)
      rw [hfin]
      generalize v 28 = v28 at h28 ⊢
      subst h28
      have B8 := Lib.hid (BX.out.trans (hb.mono BX.out.size))
      clear hfin hv hb
      go_wp2_with fail
      go_ret
      exact ⟨rfl, B8.out⟩
end Go.Proofs.Ytfjfohkdlikpiaa.oper
