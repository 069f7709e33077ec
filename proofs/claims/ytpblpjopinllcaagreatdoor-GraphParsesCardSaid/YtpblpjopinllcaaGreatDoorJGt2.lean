/-
  graph.Text (by gen_gtx.py).
  The graph of a graph's text is that graph (mathematics).
-/
import Derived.Test.YtpblpjopinllcaaGreatDoorJGt1
import Derived.Test.YtpblpjopinllcaaGreatDoorJOg
import Derived.Deep.CutRange
import Derived.Test.YtpblpjopinllcaaGreatDoorJGsc
namespace Go.Proofs.YtpblpjopinllcaaGreatDoor.graph
open Go.ChangeShapes Go.WideShapes Go.ChangeAt Go.RowKit Go.Shelf
open Go.Proofs.YtpblpjopinllcaaGreatDoor.opened Go.Proofs.YtpblpjopinllcaaGreatDoor.block Go.Proofs.YtpblpjopinllcaaGreatDoor.words Go.Proofs.YtpblpjopinllcaaGreatDoor.region
def textV (g : Gr) : Bs := if checkE g = 0 then textG g else []
theorem BL.made (w : World) : BL (w.alloc (.cells #[.pointer none, .slice none 0 0] 150)) w.heap.size w.heap.size [] :=
  ⟨.inl ⟨Nat.le_refl _, .slice none 0 0, Whole.fresh w _ _, World.ownsRow_nil _ _ _ _, by simp [Value.ownBlock]⟩, by simp⟩
theorem name_len {s : Bs} (h : nameB s = true) : s.length ≤ 12 := by
  unfold nameB at h
  simp at h
  exact h.1
theorem nameE_zero {M : List Bs} {s : Bs} (h : nameE M s = 0) : nameB s = true := by
  unfold nameE at h
  split at h
  · cases h
  · rename_i k; simpa using k
theorem cl_name {g : Gr} (h : checkE g = 0) {i : Nat} {x : Cl} (hx : g.c[i]? = some x) : x.n.length ≤ 12 := by
  have z := first_zero (check_parts h).2.1 i (List.getElem?_eq_some_iff.1 hx).1
  unfold clE at z
  rw [hx] at z
  dsimp only at z
  split at z
  · rename_i n0; exact absurd z n0
  · rename_i n0; exact name_len (nameE_zero (Classical.not_not.1 n0))
theorem upto_le {α : Type} {L : List α} {f : α → Bs} {m : Nat} (h : ∀ x ∈ L, (f x).length ≤ m) (i : Nat) : (upto L f i).length ≤ L.length * m := by
  unfold upto
  have : ∀ N : List α, (∀ x ∈ N, (f x).length ≤ m) → ((N.map f).flatten).length ≤ N.length * m := by
    intro N
    induction N with
    | nil => simp
    | cons y r ih =>
      intro hN
      have h1 := hN y (by simp)
      have h2 := ih (fun z hz => hN z (by simp [hz]))
      simp only [List.map_cons, List.flatten_cons, List.length_append, List.length_cons, Nat.add_mul, Nat.one_mul]
      omega
  refine Nat.le_trans (this _ (fun x hx => h x (List.mem_of_mem_take hx))) (Nat.mul_le_mul_right m ?_)
  rw [List.length_take]
  exact Nat.min_le_right _ _
theorem lo_name {g : Gr} (h : checkE g = 0) {x : Lo} (hx : x ∈ g.l) : x.n.length ≤ 12 := by
  obtain ⟨i, hi, e⟩ := List.getElem_of_mem hx
  have z := first_zero (check_parts h).2.2.1 i hi
  unfold loE at z
  rw [List.getElem?_eq_getElem hi, e] at z
  dsimp only at z
  split at z
  · rename_i n0; exact absurd z n0
  · rename_i n0; exact name_len (nameE_zero (Classical.not_not.1 n0))
theorem cl_name' {g : Gr} (h : checkE g = 0) {x : Cl} (hx : x ∈ g.c) : x.n.length ≤ 12 := by
  obtain ⟨i, hi, e⟩ := List.getElem_of_mem hx
  exact cl_name h (i := i) (by rw [List.getElem?_eq_getElem hi, e])
theorem oq_name {g : Gr} (h : checkE g = 0) {x : Oq} (hx : x ∈ g.o) : x.n.length ≤ 12 := by
  obtain ⟨i, hi, e⟩ := List.getElem_of_mem hx
  exact name_len (nameE_zero (oq_parts h (i := i) (by rw [List.getElem?_eq_getElem hi, e])).1)
theorem inW_len {g : Gr} (h : checkE g = 0) (k : Int) : (inW g k).length ≤ 15 := by
  unfold inW
  rw [List.length_append]
  split
  · simp
  · split
    · simp
    · rename_i x hx
      have := lo_name h (List.mem_of_getElem? hx)
      simp
      omega
theorem nameC_len {g : Gr} (h : checkE g = 0) (k : Int) : (nameC g k).length ≤ 12 := by
  unfold nameC
  split
  · simp
  · rename_i x hx; exact cl_name' h (List.mem_of_getElem? hx)
theorem nameO_len {g : Gr} (h : checkE g = 0) (k : Int) : (nameO g k).length ≤ 12 := by
  unfold nameO
  split
  · simp
  · rename_i x hx; exact oq_name h (List.mem_of_getElem? hx)
theorem wordB_len (k : Int) : (wordB k).length ≤ 7 := by
  unfold wordB
  by_cases h : 1 ≤ k ∧ k ≤ 14
  · obtain ⟨m, rfl⟩ : ∃ m : Nat, k = m := ⟨k.toNat, by omega⟩
    rcases (show m = 1 ∨ m = 2 ∨ m = 3 ∨ m = 4 ∨ m = 5 ∨ m = 6 ∨ m = 7 ∨ m = 8 ∨ m = 9 ∨ m = 10 ∨ m = 11 ∨ m = 12 ∨ m = 13 ∨ m = 14 by omega) with rfl | rfl | rfl | rfl | rfl | rfl | rfl | rfl | rfl | rfl | rfl | rfl | rfl | rfl
    all_goals decide
  · repeat rw [if_neg (by omega)]
    decide
theorem cl_sp {g : Gr} (h : checkE g = 0) (I : g.In) : ∀ x ∈ g.c, (sp (clWords x)).length ≤ 300 := fun x hx => by
  have h1 := cl_name' h hx
  have h2 := Lib.itoa_length_le x.w (I.c x hx).1 (I.c x hx).2
  refine sp_len (by simp [clWords]) fun y hy => ?_
  simp [clWords] at hy
  rcases hy with rfl | rfl | rfl
  · simp
  · omega
  · simp; omega
theorem lo_sp {g : Gr} (h : checkE g = 0) (I : g.In) : ∀ x ∈ g.l, (sp (loWords g x)).length ≤ 300 := fun x hx => by
  have h1 := lo_name h hx
  have h2 := Lib.itoa_length_le x.r (I.l x hx).2.1 (I.l x hx).2.2
  have h3 := inW_len h x.u
  refine sp_len (by simp [loWords]) fun y hy => ?_
  simp [loWords] at hy
  rcases hy with rfl | rfl | rfl | rfl
  · simp
  · omega
  · omega
  · simp; omega
theorem oq_sp {g : Gr} (h : checkE g = 0) (I : g.In) : ∀ x ∈ g.o, (sp (oqWords g x)).length ≤ 300 := fun x hx => by
  have h1 := oq_name h hx
  obtain ⟨_, _, _, ⟨a0, a1⟩, b0, b1⟩ := I.o x hx
  have h2 := Lib.itoa_length_le x.x a0 a1
  have h3 := Lib.itoa_length_le x.y b0 b1
  have h4 := inW_len h x.l
  have h5 := nameC_len h x.a
  have h6 := wordB_len x.k
  refine sp_len ?_ fun y hy => ?_
  · unfold oqWords
    rw [List.length_append, List.length_take]
    simp
    omega
  · unfold oqWords at hy
    rcases List.mem_append.1 hy with hy | hy
    · simp at hy
      rcases hy with rfl | rfl | rfl | rfl | rfl
      · simp
      · omega
      · omega
      · omega
      · simp; omega
    · have := List.mem_of_mem_take hy
      simp at this
      rcases this with rfl | rfl
      · simp; omega
      · simp; omega
theorem ch_sp {g : Gr} (h : checkE g = 0) : ∀ x ∈ g.h, (sp (chWords g x)).length ≤ 300 := fun x hx => by
  have h1 := nameO_len h x.f
  have h2 := nameO_len h x.t
  refine sp_len (by simp [chWords]) fun y hy => ?_
  simp [chWords] at hy
  rcases hy with rfl | rfl | rfl | rfl
  · simp
  · omega
  · simp
  · omega
theorem sp_join {l : List Bs} (h : (sp l).length ≤ 300) : (Lib.join l [32]).length ≤ 1000000 := by
  unfold sp at h
  rw [List.length_append] at h
  omega
theorem ch_range {g : Gr} (h : checkE g = 0) {x : Ch} (hx : x ∈ g.h) : 0 ≤ x.f ∧ x.f < g.o.length ∧ 0 ≤ x.t ∧ x.t < g.o.length := by
  obtain ⟨i, hi, e⟩ := List.getElem_of_mem hx
  have z := first_zero (check_parts h).2.2.2.2 i hi
  unfold chE at z
  rw [List.getElem?_eq_getElem hi, e] at z
  dsimp only at z
  split at z
  · cases z
  · omega
theorem lo_range {g : Gr} (h : checkE g = 0) {x : Lo} (hx : x ∈ g.l) : -1 ≤ x.u ∧ x.u < g.l.length := by
  obtain ⟨i, hi, e⟩ := List.getElem_of_mem hx
  have := up_of (check_parts h).2.2.1 i x hi (by rw [List.getElem?_eq_getElem hi, e])
  omega
set_option maxRecDepth 100000 in
set_option maxHeartbeats 2000000 in
theorem text_any (v : Gv) (g : Gr) (F : Fit v g) (I : g.In) (w : World) (h : Lies4 w v g) (K : KT w) (T10 : Tab10 w) :
    Calls Tryz.prog 21 #[gV v g] w fun e w' => e = .returned (.tuple #[sV (textV g), .int .i64 (checkE g)]) ∧ Below w.heap.size w w' := by
  have CK := fun w1 (h1 : Lies4 w1 v g) (k1 : KT w1) => check_any v g F I w1 h1 k1
  have IW := fun (k : Int) (h0 : -1 ≤ k) (h1 : k < g.l.length) w1 (hl : Lies4 w1 v g) => inWord_any v g F.l k h0 h1 w1 hl
  have FL := F.l
  have FC := F.c
  obtain ⟨va, vb, vd, ve, vi, vj, vk, vm⟩ := v
  unfold gV at CK IW ⊢
  dsimp only at CK IW ⊢
  replace CK := Lib.hid CK
  replace IW := Lib.hid IW
  obtain ⟨E, hE⟩ : ∃ E, checkE g = E := ⟨_, rfl⟩
  obtain ⟨X, hX⟩ : ∃ X, textV g = X := ⟨_, rfl⟩
  rw [hE, hX]
  have hB := Lib.hid (fresh1 w (.cells #[.slice va g.c.length vi, .slice vb g.l.length vj, .slice vd g.o.length vk, .slice ve g.h.length vm] 27))
  have OX := Lib.hid (Whole.fresh w 27 #[.slice va g.c.length vi, .slice vb g.l.length vj, .slice vd g.o.length vk, .slice ve g.h.length vm])
  have H0 := Lib.hid h
  have K0 := Lib.hid K
  have T0 := Lib.hid T10
  have H1 := Lib.hid (h.below hB.out)
  have K1 := Lib.hid (K.below hB.out)
  clear h K T10
  go_enter Tryz.func21, Tryz.ntmps21
  go_upto_region 1 with fail
  change Code.wp _ _ _ _ (w.alloc (.cells #[.slice va g.c.length vi, .slice vb g.l.length vj, .slice vd g.o.length vk, .slice ve g.h.length vm] 27))
  generalize w.alloc (.cells #[.slice va g.c.length vi, .slice vb g.l.length vj, .slice vd g.o.length vk, .slice ve g.h.length vm] 27) = w1 at OX hB H1 K1 ⊢
  obtain ⟨gg, hgg⟩ : ∃ gg, w.heap.size = gg := ⟨_, rfl⟩
  rw [hgg] at OX ⊢
  replace hgg := Lib.hid hgg
  have k := OX.out.read
  have k0 : w1.cell? ⟨gg, 0, none⟩ = some (.slice va g.c.length vi) := k 0
  have k1 : w1.cell? ⟨gg, 1, none⟩ = some (.slice vb g.l.length vj) := k 1
  have k2 : w1.cell? ⟨gg, 2, none⟩ = some (.slice vd g.o.length vk) := k 2
  have k3 : w1.cell? ⟨gg, 3, none⟩ = some (.slice ve g.h.length vm) := k 3
  clear k
  replace CK := Lib.hid (CK.out w1 H1.out K1.out)
  rw [hE] at CK
  by_cases q : E = 0
  case neg =>
    obtain rfl : [] = X := by rw [← hX]; unfold textV; rw [if_neg (by rw [hE]; exact q)]
    have nb : (E == 0) = false := by rw [beq_eq_false_iff_ne]; exact q
    clear hE hX q IW
    go_wp2_with (go_at_call 23; refine CK.out.mono ?_; rintro e w2 ⟨rfl, b2⟩)
    go_ret2
    exact ⟨rfl, hB.out.trans (b2.mono hB.out.size)⟩
  subst q
  obtain ⟨q1, q2, q3, q4, q5⟩ := check_parts hE
  obtain ⟨z1, z2, z3, z4, z5, z6⟩ := sizes_of q1
  have HC := Lib.hid hE
  replace hX : textG g = X := by rw [← hX]; unfold textV; rw [if_pos hE]
  replace hX := Lib.hid hX
  clear hE
  go_upto_region 4 with (go_at_call 23; refine CK.out.mono ?_; rintro e w2 ⟨rfl, b2⟩)
  have B2 := Lib.hid (hB.out.trans (b2.mono hB.out.size))
  have OX2 := Lib.hid (OX.out.below b2 OX.out.inside)
  clear k0 k1 k2 k3 CK b2 OX hB H1 K1
  go_upto_region 5 with fail
  change Code.wp _ _ _ _ (w2.alloc (.cells #[.pointer none, .slice none 0 0] 150))
  have b3 := fresh1 w2 (.cells #[.pointer none, .slice none 0 0] 150)
  have BL3 := BL.made w2
  have hgb := OX2.out.inside
  have OX3 := Lib.hid (OX2.out.below b3 OX2.out.inside)
  have B3 := Lib.hid (B2.out.trans (b3.mono B2.out.size))
  clear OX2 B2
  generalize w2.alloc (.cells #[.pointer none, .slice none 0 0] 150) = w3 at b3 BL3 OX3 B3 ⊢
  have hb3 := b3.size
  generalize w2.heap.size = bb at BL3 hgb hb3 ⊢
  clear b3
  replace BL3 := Lib.hid BL3
  have GGB := Lib.hid hgb
  have HB3 := Lib.hid hb3
  clear hgb hb3
  have GG : ∀ w7, Below bb w3 w7 → ∀ i, w7.cell? ⟨gg, i, none⟩ = #[.slice va g.c.length vi, .slice vb g.l.length vj, .slice vd g.o.length vk, .slice ve g.h.length vm][i]? := fun w7 h7 => (OX3.out.below h7 GGB.out).read
  have HW : ∀ w7, Below bb w3 w7 → Below w.heap.size w w7 := fun w7 h7 => B3.out.trans (h7.mono (by have := GGB.out; have := hgg.out; omega))
  have TB : ∀ w7, Below bb w3 w7 → Tab10 w7 := fun w7 h7 => T0.out.below (HW w7 h7)
  have HL : ∀ w7, Below bb w3 w7 → Lies4 w7 ⟨va, vb, vd, ve, vi, vj, vk, vm⟩ g := fun w7 h7 => H0.out.below (HW w7 h7)
  replace GG := Lib.hid GG
  replace HW := Lib.hid HW
  replace TB := Lib.hid TB
  replace HL := Lib.hid HL
  have k0 : w3.cell? ⟨gg, 0, none⟩ = some (.slice va g.c.length vi) := GG.out w3 (Below.refl _ _) 0
  go_upto_region 6 with fail
  clear k0
  go_wp2_with fail
  obtain ⟨A0, hA0⟩ : ∃ A0, A0 = ([] : Bs) := ⟨_, rfl⟩
  go_loopw [22] (fun a wr => ∃ i : Nat, i ≤ g.c.length ∧ a = .int .i64 i ∧ Hid (BL wr bb bb (A0 ++ upto g.c (fun x => sp (clWords x)) i)) ∧ Hid (Below bb w3 wr)) (fun a _ => (g.c.length - intOf a).toNat)
  case atStart => exact ⟨0, by omega, rfl, by rw [upto_zero, List.append_nil, hA0]; exact BL3, Lib.hid (Below.refl _ _)⟩
  have HA0 := Lib.hid hA0
  have LA0 : Hid (A0.length ≤ 0) := Lib.hid (by rw [hA0]; simp)
  clear hA0
  case round =>
    obtain ⟨i, hi, rfl, BLr, Br⟩ := hrel
    by_cases hin : i = g.c.length
    case neg =>
      have hlt : i < g.c.length := by omega
      obtain ⟨x, hx⟩ : ∃ x, g.c[i]? = some x := ⟨g.c[i], List.getElem?_eq_getElem hlt⟩
      obtain ⟨b1, o1, hA, hb1, c0, c1⟩ := at_cl (HL.out wr Br.out).c hx
      change va = _ at hA
      subst hA
      have hxm := List.mem_of_getElem? hx
      have LEN : Hid ((A0 ++ upto g.c (fun x => sp (clWords x)) i).length ≤ 1000000 ∧ (Lib.join (clWords x) [32]).length ≤ 1000000) := Lib.hid ⟨by
        have h1 := upto_le (L := g.c) (f := fun x => sp (clWords x)) (cl_sp HC.out I) i
        have h2 := LA0.out
        have h3 : g.c.length * 300 ≤ 48 * 300 := Nat.mul_le_mul_right 300 (by omega)
        rw [List.length_append]
        omega, sp_join (cl_sp HC.out I x hxm)⟩
      have HX := Lib.hid (upto_next (f := fun x => sp (clWords x)) hx)
      obtain ⟨n0, n1⟩ := I.c x hxm
      have NB := Lib.hid (fun w (ht : Tab10 w) => number9_any x.w n0 n1 w ht)
      have LENN := Lib.itoa_length_le x.w n0 n1
      clear n0 n1
      obtain ⟨L, hL⟩ : ∃ L, A0 ++ upto g.c (fun x => sp (clWords x)) i = L := ⟨_, rfl⟩
      rw [hL] at BLr LEN
      have HX' : Hid (A0 ++ upto g.c (fun x => sp (clWords x)) (i + 1) = L ++ sp (clWords x)) := Lib.hid (by rw [HX.out, ← List.append_assoc, hL])
      clear hx hxm hL HX
      have HX := HX'
      clear HX'
      go_upto_region 8 with fail
      change Code.wp _ _ _ _ (wr.alloc (.cells #[sV x.n, .int .i64 x.w] 143))
      have bx := fresh1 wr (.cells #[sV x.n, .int .i64 x.w] 143)
      have RX := Lib.hid (Whole.fresh wr 143 #[sV x.n, .int .i64 x.w])
      have BLX := Lib.hid (BLr.out.below bx)
      have BX := Lib.hid (Br.out.trans (bx.mono BLr.out.2))
      have HBX := Lib.hid BLX.out.2
      clear BLr Br c0 c1 hb1 bx
      generalize wr.alloc (.cells #[sV x.n, .int .i64 x.w] 143) = wx at RX BLX BX HBX ⊢
      generalize wr.heap.size = r at RX ⊢
      refine region_full 92 [] [(7, 1), (7, 3)] (fun k => k == 1 || k == 3 || k == 7) (fun w7 => Below bb w3 w7 ∧ wx.heap.size ≤ w7.heap.size) ?hR ?r0 [pdOne 0 (Is (.pointer (some ⟨r, 0, none⟩))), pdOne 1 (Is (sV x.n)), pdOne 2 (Is (.pointer (some ⟨r, 1, none⟩))), pdOne 3 (Is (.int .i64 x.w)), pdOne 4 (Is (sV (Lib.itoa x.w))), pdOne 5 (Is (sV ([119, 111, 114, 107, 101, 114, 115, 61] ++ Lib.itoa x.w))), pdOne 6 (LoneS wx.heap.size (clWords x) (fun w => BL w bb bb (L ++ sp (clWords x)))), pdOne 7 (fun _ w => BL w bb bb (L ++ sp (clWords x)))] (fun k w7 => (k = 1 ∨ k = 3 → Whole w7 r 143 #[sV x.n, .int .i64 x.w]) ∧ (k = 7 → BL w7 bb bb L)) (by kernel_rfl) rfl (by kernel_rfl) (by kernel_rfl) (by kernel_rfl) (by kernel_rfl) ?keep ?hO ?h0 ?tell
      case hR => exact fun w7 w8 hb ⟨h1, h2⟩ => ⟨h1.trans (hb.mono (Nat.le_trans HBX.out h2)), Nat.le_trans h2 hb.size⟩
      case r0 => exact ⟨BX.out, Nat.le_refl _⟩
      case keep => exact ⟨keep_one (keeps_is _), keep_one (keeps_is _), keep_one (keeps_is _), keep_one (keeps_is _), keep_one (keeps_is _), keep_one (keeps_is _), keep_one (fun _ _ _ hb h => h.imp fun gx h => ⟨h.1, h.2.1, h.2.2.imp (fun k => k.below hb k.inside) (fun k => BL.below k hb)⟩), keep_one (fun _ _ _ hb h => BL.below h hb), trivial⟩
      case hO => exact fun k w7 w8 hb ⟨h1, h2⟩ => ⟨fun e => (h1 e).below hb (h1 e).inside, fun e => BL.below (h2 e) hb⟩
      case h0 => exact fun k _ => ⟨fun _ => RX.out, fun _ => BLX.out⟩
      case tell =>
        intro fin hfin
        simp [lexPut, Act.put] at hfin
        simp only [TellF]
        refine ⟨⟨?_, ?_, ?_, ?_, ?_, ?_, ?_, ?_, trivial⟩, ?_⟩
        · intro v2 w7 hr hd
          refine yields_run (u := .pointer (some ⟨r, 0, none⟩)) (w' := w7) ?_ (Below.refl _ _) rfl
          unfold execOp
          simp [go_sem, Act.eval]
        · intro v2 w7 hr ho hd
          have h0 : v2 0 = _ := hd 0 (by kernel_rfl)
          have c0 := ((ho.1 (by decide)).read 0)
          refine .inl (.inl ⟨sV x.n, w7, ?_, hr, fun _ _ _ _ hu => hu, fun _ _ _ _ hu => hu, rfl⟩)
          unfold execOp
          simp [go_sem, Act.eval, Act.put, h0, c0]
        · intro v2 w7 hr hd
          refine yields_run (u := .pointer (some ⟨r, 1, none⟩)) (w' := w7) ?_ (Below.refl _ _) rfl
          unfold execOp
          simp [go_sem, Act.eval, Act.put]
        · intro v2 w7 hr ho hd
          have h2 : v2 2 = _ := hd 2 (by kernel_rfl)
          have c0 := ((ho.1 (by decide)).read 1)
          refine .inl (.inl ⟨.int .i64 x.w, w7, ?_, hr, fun _ _ _ _ hu => hu, fun _ _ _ _ hu => hu, rfl⟩)
          unfold execOp
          simp [go_sem, Act.eval, Act.put, h2, c0]
        · intro v2 w7 hr hd
          have h3 : v2 3 = _ := hd 3 (by kernel_rfl)
          refine yields_call (f := 82) rfl (vs := #[.int .i64 x.w]) (by simp [Act.eval, Act.put, h3]) rfl Tryz.func82 (by kernel_rfl) (by kernel_rfl) ((NB.out w7 (TB.out w7 hr.1)).mono fun e w8 ⟨he, hb⟩ => ⟨_, he, hb, rfl⟩)
        · intro v2 w7 hr hd
          have h4 : v2 4 = _ := hd 4 (by kernel_rfl)
          have ha : ({ data := #[119, 111, 114, 107, 101, 114, 115, 61] } : ByteArray) ++ { data := (Lib.itoa x.w).toArray } = ⟨([119, 111, 114, 107, 101, 114, 115, 61] ++ Lib.itoa x.w).toArray⟩ := str_app9 [119, 111, 114, 107, 101, 114, 115, 61] (Lib.itoa x.w)
          refine yields_run (u := sV ([119, 111, 114, 107, 101, 114, 115, 61] ++ Lib.itoa x.w)) (w' := w7) ?_ (Below.refl _ _) rfl
          unfold execOp
          simp [go_sem, Act.eval, Act.put, h4, ha]
          omega
        · intro v2 w7 hr hd
          have h1 : v2 1 = _ := hd 1 (by kernel_rfl)
          have h5 : v2 5 = _ := hd 5 (by kernel_rfl)
          refine yields_run (u := .slice (some ⟨w7.heap.size, 0, none⟩) ((clWords x)).length ((clWords x)).length) (w' := w7.alloc (.cells (((clWords x)).map sV).toArray 9)) ?_ (fresh1 w7 _) ⟨w7.heap.size, rfl, hr.2, .inl (Whole.fresh w7 _ _)⟩
          unfold execOp
          simp [go_sem, Act.eval, Act.put, h1, h5, clWords]
        · intro v2 w7 hr ho hd
          obtain ⟨gy, hz, hyl, hw⟩ : LoneS wx.heap.size (clWords x) (fun w => BL w bb bb (L ++ sp (clWords x))) (v2 6) w7 := hd 6 (by kernel_rfl)
          have hw := hw.resolve_right (fun k => by have := BL.len (ho.2 trivial) k; simp [sp] at this)
          refine .inl (yieldsW_callR (f := 81) rfl (vs := #[.pointer (some ⟨bb, 0, none⟩), .slice (some ⟨gy, 0, none⟩) (clWords x).length (clWords x).length]) (by simp [Act.eval, Act.put, hz]) rfl Tryz.func81 (by kernel_rfl) (by kernel_rfl) ?_)
          refine (line_any bb bb L gy (clWords x) _ (Nat.le_refl _) (by simp [clWords]) LEN.out.1 LEN.out.2 w7 (ho.2 trivial) hw).mono fun e1 w8 ⟨he1, hb8, hB8⟩ => ⟨_, he1, ⟨hr.1.trans hB8, Nat.le_trans hr.2 hB8.size⟩, ?_, ?_, hb8⟩
          · intro k2 v' hk2 hc hu
            exact match k2, hk2, hc, hu with
              | 0, _, _, hu => hu
              | 1, _, _, hu => hu
              | 2, _, _, hu => hu
              | 3, _, _, hu => hu
              | 4, _, _, hu => hu
              | 5, _, _, hu => hu
              | 6, _, _, ⟨gy, h1, h2, _⟩ => ⟨gy, h1, h2, .inr hb8⟩
              | 7, hk2, _, _ => absurd rfl hk2
              | _ + 8, _, _, _ => trivial
          · intro k2 hk2 hn hc2 ⟨h1, h2⟩
            exact ⟨fun e => by first | (rcases e with rfl | rfl <;> exact absurd hc2 (by decide)) | exact absurd e (by decide), fun e => absurd e hk2⟩
        · intro v2 w7 hr hv
          have hb9 : BL w7 bb bb (L ++ sp (clWords x)) := hv 7 (by decide)
          have hR := hr.1
          rw [hfin]
          clear hfin hv hr
          generalize v2 6 = v6
          generalize v2 7 = v7
          go_wp2_with fail
          go_roundw
          case rel => exact ⟨i + 1, hlt, by go_num, by rw [HX.out]; exact Lib.hid hb9, Lib.hid hR⟩
          case measure => simp [intOf]; omega
    subst hin
    have hlt : ¬ ((g.c.length : Int) < g.c.length) := by omega
    rw [upto_all] at BLr
    have LB0 : (A0 ++ (g.c.map (fun x => sp (clWords x))).flatten).length ≤ 100000 := by
      have h1 := upto_le (L := g.c) (f := fun x => sp (clWords x)) (cl_sp HC.out I) g.c.length
      have h2 := LA0.out
      have h3 : g.c.length * 300 ≤ 48 * 300 := Nat.mul_le_mul_right 300 (by omega)
      rw [upto_all] at h1
      rw [List.length_append]
      omega
    obtain ⟨u0, hnw⟩ : ∃ u0, u0 = wr := ⟨_, rfl⟩
    subst hnw
    have k0 : u0.cell? ⟨gg, 1, none⟩ = some (.slice vb g.l.length vj) := GG.out u0 Br.out 1
    go_upto_region 11 with fail
    clear k0
    go_wp2_with fail
    obtain ⟨A1, hA1⟩ : ∃ A1, A1 = A0 ++ (g.c.map (fun x => sp (clWords x))).flatten := ⟨_, rfl⟩
    go_loopw [38] (fun a wr => ∃ i : Nat, i ≤ g.l.length ∧ a = .int .i64 i ∧ Hid (BL wr bb bb (A1 ++ upto g.l (fun x => sp (loWords g x)) i)) ∧ Hid (Below bb w3 wr)) (fun a _ => (g.l.length - intOf a).toNat)
    case atStart => exact ⟨0, by omega, rfl, by rw [upto_zero, List.append_nil, hA1]; exact BLr, Br⟩
    have HA1 := Lib.hid hA1
    have LA1 : Hid (A1.length ≤ 100000) := Lib.hid (by rw [hA1]; exact LB0)
    clear hA1
    case round =>
      obtain ⟨i, hi, rfl, BLr, Br⟩ := hrel
      by_cases hin : i = g.l.length
      case neg =>
        have hlt : i < g.l.length := by omega
        obtain ⟨x, hx⟩ : ∃ x, g.l[i]? = some x := ⟨g.l[i], List.getElem?_eq_getElem hlt⟩
        obtain ⟨b1, o1, hA, hb1, c0, c1, c2⟩ := at_lo (HL.out wr Br.out).l hx
        change vb = _ at hA
        subst hA
        have hxm := List.mem_of_getElem? hx
        have LEN : Hid ((A1 ++ upto g.l (fun x => sp (loWords g x)) i).length ≤ 1000000 ∧ (Lib.join (loWords g x) [32]).length ≤ 1000000) := Lib.hid ⟨by
          have h1 := upto_le (L := g.l) (f := fun x => sp (loWords g x)) (lo_sp HC.out I) i
          have h2 := LA1.out
          have h3 : g.l.length * 300 ≤ 48 * 300 := Nat.mul_le_mul_right 300 (by omega)
          rw [List.length_append]
          omega, sp_join (lo_sp HC.out I x hxm)⟩
        have HX := Lib.hid (upto_next (f := fun x => sp (loWords g x)) hx)
        obtain ⟨-, n0, n1⟩ := I.l x hxm
        have NB := Lib.hid (fun w (ht : Tab10 w) => number9_any x.r n0 n1 w ht)
        have LENN := Lib.itoa_length_le x.r n0 n1
        obtain ⟨u0, u1⟩ := lo_range HC.out hxm
        have IWX := Lib.hid (IW.out x.u u0 u1)
        clear n0 n1 u0 u1
        obtain ⟨L, hL⟩ : ∃ L, A1 ++ upto g.l (fun x => sp (loWords g x)) i = L := ⟨_, rfl⟩
        rw [hL] at BLr LEN
        have HX' : Hid (A1 ++ upto g.l (fun x => sp (loWords g x)) (i + 1) = L ++ sp (loWords g x)) := Lib.hid (by rw [HX.out, ← List.append_assoc, hL])
        clear hx hxm hL HX
        have HX := HX'
        clear HX'
        go_upto_region 13 with fail
        change Code.wp _ _ _ _ (wr.alloc (.cells #[sV x.n, .int .i64 x.u, .int .i64 x.r] 144))
        have bx := fresh1 wr (.cells #[sV x.n, .int .i64 x.u, .int .i64 x.r] 144)
        have RX := Lib.hid (Whole.fresh wr 144 #[sV x.n, .int .i64 x.u, .int .i64 x.r])
        have BLX := Lib.hid (BLr.out.below bx)
        have BX := Lib.hid (Br.out.trans (bx.mono BLr.out.2))
        have HBX := Lib.hid BLX.out.2
        clear BLr Br c0 c1 c2 hb1 bx
        generalize wr.alloc (.cells #[sV x.n, .int .i64 x.u, .int .i64 x.r] 144) = wx at RX BLX BX HBX ⊢
        generalize wr.heap.size = r at RX ⊢
        refine region_full 92 [] [(11, 1), (11, 4), (11, 7)] (fun k => k == 1 || k == 4 || k == 7 || k == 11) (fun w7 => Below bb w3 w7 ∧ wx.heap.size ≤ w7.heap.size) ?hR ?r0 [pdOne 0 (Is (.pointer (some ⟨r, 0, none⟩))), pdOne 1 (Is (sV x.n)), pdOne 2 (Is (.agg #[.slice va g.c.length vi, .slice (some ⟨b1, o1, none⟩) g.l.length vj, .slice vd g.o.length vk, .slice ve g.h.length vm])), pdOne 3 (Is (.pointer (some ⟨r, 1, none⟩))), pdOne 4 (Is (.int .i64 x.u)), pdOne 5 (Is (sV (inW g x.u))), pdOne 6 (Is (.pointer (some ⟨r, 2, none⟩))), pdOne 7 (Is (.int .i64 x.r)), pdOne 8 (Is (sV (Lib.itoa x.r))), pdOne 9 (Is (sV ([114, 111, 117, 110, 100, 115, 61] ++ Lib.itoa x.r))), pdOne 10 (LoneS wx.heap.size (loWords g x) (fun w => BL w bb bb (L ++ sp (loWords g x)))), pdOne 11 (fun _ w => BL w bb bb (L ++ sp (loWords g x)))] (fun k w7 => (k = 1 ∨ k = 4 ∨ k = 7 → Whole w7 r 144 #[sV x.n, .int .i64 x.u, .int .i64 x.r]) ∧ (k = 11 → BL w7 bb bb L)) (by kernel_rfl) rfl (by kernel_rfl) (by kernel_rfl) (by kernel_rfl) (by kernel_rfl) ?keep ?hO ?h0 ?tell
        case hR => exact fun w7 w8 hb ⟨h1, h2⟩ => ⟨h1.trans (hb.mono (Nat.le_trans HBX.out h2)), Nat.le_trans h2 hb.size⟩
        case r0 => exact ⟨BX.out, Nat.le_refl _⟩
        case keep => exact ⟨keep_one (keeps_is _), keep_one (keeps_is _), keep_one (keeps_is _), keep_one (keeps_is _), keep_one (keeps_is _), keep_one (keeps_is _), keep_one (keeps_is _), keep_one (keeps_is _), keep_one (keeps_is _), keep_one (keeps_is _), keep_one (fun _ _ _ hb h => h.imp fun gx h => ⟨h.1, h.2.1, h.2.2.imp (fun k => k.below hb k.inside) (fun k => BL.below k hb)⟩), keep_one (fun _ _ _ hb h => BL.below h hb), trivial⟩
        case hO => exact fun k w7 w8 hb ⟨h1, h2⟩ => ⟨fun e => (h1 e).below hb (h1 e).inside, fun e => BL.below (h2 e) hb⟩
        case h0 => exact fun k _ => ⟨fun _ => RX.out, fun _ => BLX.out⟩
        case tell =>
          intro fin hfin
          simp [lexPut, Act.put] at hfin
          simp only [TellF]
          refine ⟨⟨?_, ?_, ?_, ?_, ?_, ?_, ?_, ?_, ?_, ?_, ?_, ?_, trivial⟩, ?_⟩
          · intro v2 w7 hr hd
            refine yields_run (u := .pointer (some ⟨r, 0, none⟩)) (w' := w7) ?_ (Below.refl _ _) rfl
            unfold execOp
            simp [go_sem, Act.eval]
          · intro v2 w7 hr ho hd
            have h0 : v2 0 = _ := hd 0 (by kernel_rfl)
            have c0 := ((ho.1 (by decide)).read 0)
            refine .inl (.inl ⟨sV x.n, w7, ?_, hr, fun _ _ _ _ hu => hu, fun _ _ _ _ hu => hu, rfl⟩)
            unfold execOp
            simp [go_sem, Act.eval, Act.put, h0, c0]
          · intro v2 w7 hr hd
            have c0 := (GG.out w7 hr.1 0)
            have c1 := (GG.out w7 hr.1 1)
            have c2 := (GG.out w7 hr.1 2)
            have c3 := (GG.out w7 hr.1 3)
            refine yields_run (u := .agg #[.slice va g.c.length vi, .slice (some ⟨b1, o1, none⟩) g.l.length vj, .slice vd g.o.length vk, .slice ve g.h.length vm]) (w' := w7) ?_ (Below.refl _ _) rfl
            unfold execOp
            simp [go_sem, Act.eval, Act.put, c0, c1, c2, c3]
          · intro v2 w7 hr hd
            refine yields_run (u := .pointer (some ⟨r, 1, none⟩)) (w' := w7) ?_ (Below.refl _ _) rfl
            unfold execOp
            simp [go_sem, Act.eval, Act.put]
          · intro v2 w7 hr ho hd
            have h3 : v2 3 = _ := hd 3 (by kernel_rfl)
            have c0 := ((ho.1 (by decide)).read 1)
            refine .inl (.inl ⟨.int .i64 x.u, w7, ?_, hr, fun _ _ _ _ hu => hu, fun _ _ _ _ hu => hu, rfl⟩)
            unfold execOp
            simp [go_sem, Act.eval, Act.put, h3, c0]
          · intro v2 w7 hr hd
            have h2 : v2 2 = _ := hd 2 (by kernel_rfl)
            have h4 : v2 4 = _ := hd 4 (by kernel_rfl)
            refine yields_call (f := 83) rfl (vs := #[.agg #[.slice va g.c.length vi, .slice (some ⟨b1, o1, none⟩) g.l.length vj, .slice vd g.o.length vk, .slice ve g.h.length vm], .int .i64 x.u]) (by simp [Act.eval, Act.put, h2, h4]) rfl Tryz.func83 (by kernel_rfl) (by kernel_rfl) ((IWX.out w7 (HL.out w7 hr.1)).mono fun e w8 ⟨he, hb⟩ => ⟨_, he, hb, rfl⟩)
          · intro v2 w7 hr hd
            refine yields_run (u := .pointer (some ⟨r, 2, none⟩)) (w' := w7) ?_ (Below.refl _ _) rfl
            unfold execOp
            simp [go_sem, Act.eval, Act.put]
          · intro v2 w7 hr ho hd
            have h6 : v2 6 = _ := hd 6 (by kernel_rfl)
            have c0 := ((ho.1 (by decide)).read 2)
            refine .inl (.inl ⟨.int .i64 x.r, w7, ?_, hr, fun _ _ _ _ hu => hu, fun _ _ _ _ hu => hu, rfl⟩)
            unfold execOp
            simp [go_sem, Act.eval, Act.put, h6, c0]
          · intro v2 w7 hr hd
            have h7 : v2 7 = _ := hd 7 (by kernel_rfl)
            refine yields_call (f := 82) rfl (vs := #[.int .i64 x.r]) (by simp [Act.eval, Act.put, h7]) rfl Tryz.func82 (by kernel_rfl) (by kernel_rfl) ((NB.out w7 (TB.out w7 hr.1)).mono fun e w8 ⟨he, hb⟩ => ⟨_, he, hb, rfl⟩)
          · intro v2 w7 hr hd
            have h8 : v2 8 = _ := hd 8 (by kernel_rfl)
            have ha : ({ data := #[114, 111, 117, 110, 100, 115, 61] } : ByteArray) ++ { data := (Lib.itoa x.r).toArray } = ⟨([114, 111, 117, 110, 100, 115, 61] ++ Lib.itoa x.r).toArray⟩ := str_app9 [114, 111, 117, 110, 100, 115, 61] (Lib.itoa x.r)
            refine yields_run (u := sV ([114, 111, 117, 110, 100, 115, 61] ++ Lib.itoa x.r)) (w' := w7) ?_ (Below.refl _ _) rfl
            unfold execOp
            simp [go_sem, Act.eval, Act.put, h8, ha]
            omega
          · intro v2 w7 hr hd
            have h1 : v2 1 = _ := hd 1 (by kernel_rfl)
            have h5 : v2 5 = _ := hd 5 (by kernel_rfl)
            have h9 : v2 9 = _ := hd 9 (by kernel_rfl)
            refine yields_run (u := .slice (some ⟨w7.heap.size, 0, none⟩) ((loWords g x)).length ((loWords g x)).length) (w' := w7.alloc (.cells (((loWords g x)).map sV).toArray 9)) ?_ (fresh1 w7 _) ⟨w7.heap.size, rfl, hr.2, .inl (Whole.fresh w7 _ _)⟩
            unfold execOp
            simp [go_sem, Act.eval, Act.put, h1, h5, h9, loWords]
          · intro v2 w7 hr ho hd
            obtain ⟨gy, hz, hyl, hw⟩ : LoneS wx.heap.size (loWords g x) (fun w => BL w bb bb (L ++ sp (loWords g x))) (v2 10) w7 := hd 10 (by kernel_rfl)
            have hw := hw.resolve_right (fun k => by have := BL.len (ho.2 trivial) k; simp [sp] at this)
            refine .inl (yieldsW_callR (f := 81) rfl (vs := #[.pointer (some ⟨bb, 0, none⟩), .slice (some ⟨gy, 0, none⟩) (loWords g x).length (loWords g x).length]) (by simp [Act.eval, Act.put, hz]) rfl Tryz.func81 (by kernel_rfl) (by kernel_rfl) ?_)
            refine (line_any bb bb L gy (loWords g x) _ (Nat.le_refl _) (by simp [loWords]) LEN.out.1 LEN.out.2 w7 (ho.2 trivial) hw).mono fun e1 w8 ⟨he1, hb8, hB8⟩ => ⟨_, he1, ⟨hr.1.trans hB8, Nat.le_trans hr.2 hB8.size⟩, ?_, ?_, hb8⟩
            · intro k2 v' hk2 hc hu
              exact match k2, hk2, hc, hu with
                | 0, _, _, hu => hu
                | 1, _, _, hu => hu
                | 2, _, _, hu => hu
                | 3, _, _, hu => hu
                | 4, _, _, hu => hu
                | 5, _, _, hu => hu
                | 6, _, _, hu => hu
                | 7, _, _, hu => hu
                | 8, _, _, hu => hu
                | 9, _, _, hu => hu
                | 10, _, _, ⟨gy, h1, h2, _⟩ => ⟨gy, h1, h2, .inr hb8⟩
                | 11, hk2, _, _ => absurd rfl hk2
                | _ + 12, _, _, _ => trivial
            · intro k2 hk2 hn hc2 ⟨h1, h2⟩
              exact ⟨fun e => by first | (rcases e with rfl | rfl | rfl <;> exact absurd hc2 (by decide)) | exact absurd e (by decide), fun e => absurd e hk2⟩
          · intro v2 w7 hr hv
            have hb9 : BL w7 bb bb (L ++ sp (loWords g x)) := hv 11 (by decide)
            have hR := hr.1
            rw [hfin]
            clear hfin hv hr
            generalize v2 10 = v6
            generalize v2 11 = v7
            go_wp2_with fail
            go_roundw
            case rel => exact ⟨i + 1, hlt, by go_num, by rw [HX.out]; exact Lib.hid hb9, Lib.hid hR⟩
            case measure => simp [intOf]; omega
      subst hin
      have hlt : ¬ ((g.l.length : Int) < g.l.length) := by omega
      rw [upto_all] at BLr
      have LB1 : (A1 ++ (g.l.map (fun x => sp (loWords g x))).flatten).length ≤ 200000 := by
        have h1 := upto_le (L := g.l) (f := fun x => sp (loWords g x)) (lo_sp HC.out I) g.l.length
        have h2 := LA1.out
        have h3 : g.l.length * 300 ≤ 48 * 300 := Nat.mul_le_mul_right 300 (by omega)
        rw [upto_all] at h1
        rw [List.length_append]
        omega
      obtain ⟨u1, hnw⟩ : ∃ u1, u1 = wr := ⟨_, rfl⟩
      subst hnw
      have k0 : u1.cell? ⟨gg, 2, none⟩ = some (.slice vd g.o.length vk) := GG.out u1 Br.out 2
      go_upto_region 16 with fail
      clear k0
      go_wp2_with fail
      obtain ⟨A2, hA2⟩ : ∃ A2, A2 = A1 ++ (g.l.map (fun x => sp (loWords g x))).flatten := ⟨_, rfl⟩
      go_loopw [58] (fun a wr => ∃ i : Nat, i ≤ g.o.length ∧ a = .int .i64 i ∧ Hid (BL wr bb bb (A2 ++ upto g.o (fun x => sp (oqWords g x)) i)) ∧ Hid (Below bb w3 wr)) (fun a _ => (g.o.length - intOf a).toNat)
      case atStart => exact ⟨0, by omega, rfl, by rw [upto_zero, List.append_nil, hA2]; exact BLr, Br⟩
      have HA2 := Lib.hid hA2
      have LA2 : Hid (A2.length ≤ 200000) := Lib.hid (by rw [hA2]; exact LB1)
      clear hA2
      case round =>
        obtain ⟨i, hi, rfl, BLr, Br⟩ := hrel
        by_cases hin : i = g.o.length
        case neg =>
          have hlt : i < g.o.length := by omega
          obtain ⟨x, hx⟩ : ∃ x, g.o[i]? = some x := ⟨g.o[i], List.getElem?_eq_getElem hlt⟩
          obtain ⟨b1, o1, hA, hb1, c0, c1, c2, c3, c4, c5⟩ := at_oq (HL.out wr Br.out).o hx
          change vd = _ at hA
          subst hA
          have hxm := List.mem_of_getElem? hx
          have LEN : Hid ((A2 ++ upto g.o (fun x => sp (oqWords g x)) i).length ≤ 1000000 ∧ (Lib.join (oqWords g x) [32]).length ≤ 1000000) := Lib.hid ⟨by
            have h1 := upto_le (L := g.o) (f := fun x => sp (oqWords g x)) (oq_sp HC.out I) i
            have h2 := LA2.out
            have h3 : g.o.length * 300 ≤ 48 * 300 := Nat.mul_le_mul_right 300 (by omega)
            rw [List.length_append]
            omega, sp_join (oq_sp HC.out I x hxm)⟩
          have HX := Lib.hid (upto_next (f := fun x => sp (oqWords g x)) hx)
          have IO := I.o x hxm
          have OW := Lib.hid (fun w1 (h1 : Lies4 w1 ⟨va, vb, some ⟨b1, o1, none⟩, ve, vi, vj, vk, vm⟩ g) (k1 : KT w1) (t1 : Tab10 w1) => opWords_any ⟨va, vb, some ⟨b1, o1, none⟩, ve, vi, vj, vk, vm⟩ g x FL FC IO (oq_parts HC.out hx).2 w1 h1 k1 t1)
          unfold gV at OW
          dsimp only at OW
          obtain ⟨L, hL⟩ : ∃ L, A2 ++ upto g.o (fun x => sp (oqWords g x)) i = L := ⟨_, rfl⟩
          rw [hL] at BLr LEN
          have HX' : Hid (A2 ++ upto g.o (fun x => sp (oqWords g x)) (i + 1) = L ++ sp (oqWords g x)) := Lib.hid (by rw [HX.out, ← List.append_assoc, hL])
          clear hx hxm hL HX IO
          have HX := HX'
          clear HX'
          go_upto_region 18 with fail
          change Code.wp _ _ _ _ (wr.alloc (.cells #[sV x.n, .int .i64 x.k, .int .i64 x.l, .int .i64 x.a, .int .i64 x.x, .int .i64 x.y] 145))
          have bx := fresh1 wr (.cells #[sV x.n, .int .i64 x.k, .int .i64 x.l, .int .i64 x.a, .int .i64 x.x, .int .i64 x.y] 145)
          have RX := Whole.fresh wr 145 #[sV x.n, .int .i64 x.k, .int .i64 x.l, .int .i64 x.a, .int .i64 x.x, .int .i64 x.y]
          have BLX := Lib.hid (BLr.out.below bx)
          have BX := Lib.hid (Br.out.trans (bx.mono BLr.out.2))
          clear BLr Br c0 c1 c2 c3 c4 c5 hb1 bx
          generalize wr.alloc (.cells #[sV x.n, .int .i64 x.k, .int .i64 x.l, .int .i64 x.a, .int .i64 x.x, .int .i64 x.y] 145) = wx at RX BLX BX ⊢
          generalize wr.heap.size = r at RX ⊢
          have r0 := RX.read 0
          have r1 := RX.read 1
          have r2 := RX.read 2
          have r3 := RX.read 3
          have r4 := RX.read 4
          have r5 := RX.read 5
          have k0 : wx.cell? ⟨gg, 0, none⟩ = some (.slice va g.c.length vi) := GG.out wx BX.out 0
          have k1 : wx.cell? ⟨gg, 1, none⟩ = some (.slice vb g.l.length vj) := GG.out wx BX.out 1
          have k2 : wx.cell? ⟨gg, 2, none⟩ = some (.slice (some ⟨b1, o1, none⟩) g.o.length vk) := GG.out wx BX.out 2
          have k3 : wx.cell? ⟨gg, 3, none⟩ = some (.slice ve g.h.length vm) := GG.out wx BX.out 3
          clear RX
          have OWX := Lib.hid (OW.out wx (HL.out wx BX.out) (K0.out.below (HW.out wx BX.out)) (TB.out wx BX.out))
          clear OW
          go_upto_region 19 with (first
            | (go_at_call 84; refine OWX.out.mono ?_; rintro e w4 ⟨D, cc, rfl, hO, b4⟩; have LN := Lib.hid (lineJ_any bb bb L D (oqWords g x) cc LEN.out.1 LEN.out.2 w4 (BLX.out.below b4) (joinO_any D cc (oqWords g x) wx.heap.size (oqW_len g x) (by have := LEN.out.2; omega) w4 hO)); have B4 := Lib.hid (BX.out.trans (b4.mono BLX.out.2)); clear b4 hO)
            | (go_at_call 81; refine LN.out.mono ?_; rintro e w5 ⟨rfl, hb5, b5⟩; have B5 := Lib.hid (B4.out.trans b5)))
          go_wp2_with fail
          go_roundw
          case rel => exact ⟨i + 1, hlt, by go_num, by rw [HX.out]; exact Lib.hid hb5, B5⟩
          case measure => simp [intOf]; omega
        subst hin
        have hlt : ¬ ((g.o.length : Int) < g.o.length) := by omega
        rw [upto_all] at BLr
        have LB2 : (A2 ++ (g.o.map (fun x => sp (oqWords g x))).flatten).length ≤ 300000 := by
          have h1 := upto_le (L := g.o) (f := fun x => sp (oqWords g x)) (oq_sp HC.out I) g.o.length
          have h2 := LA2.out
          have h3 : g.o.length * 300 ≤ 48 * 300 := Nat.mul_le_mul_right 300 (by omega)
          rw [upto_all] at h1
          rw [List.length_append]
          omega
        obtain ⟨u2, hnw⟩ : ∃ u2, u2 = wr := ⟨_, rfl⟩
        subst hnw
        have k0 : u2.cell? ⟨gg, 3, none⟩ = some (.slice ve g.h.length vm) := GG.out u2 Br.out 3
        go_upto_region 21 with fail
        clear k0
        go_wp2_with fail
        obtain ⟨A3, hA3⟩ : ∃ A3, A3 = A2 ++ (g.o.map (fun x => sp (oqWords g x))).flatten := ⟨_, rfl⟩
        go_loopw [70] (fun a wr => ∃ i : Nat, i ≤ g.h.length ∧ a = .int .i64 i ∧ Hid (BL wr bb bb (A3 ++ upto g.h (fun x => sp (chWords g x)) i)) ∧ Hid (Below bb w3 wr)) (fun a _ => (g.h.length - intOf a).toNat)
        case atStart => exact ⟨0, by omega, rfl, by rw [upto_zero, List.append_nil, hA3]; exact BLr, Br⟩
        have HA3 := Lib.hid hA3
        have LA3 : Hid (A3.length ≤ 300000) := Lib.hid (by rw [hA3]; exact LB2)
        clear hA3
        case round =>
          obtain ⟨i, hi, rfl, BLr, Br⟩ := hrel
          by_cases hin : i = g.h.length
          case neg =>
            have hlt : i < g.h.length := by omega
            obtain ⟨x, hx⟩ : ∃ x, g.h[i]? = some x := ⟨g.h[i], List.getElem?_eq_getElem hlt⟩
            obtain ⟨b1, o1, hA, hb1, c0, c1⟩ := at_ch (HL.out wr Br.out).h hx
            change ve = _ at hA
            subst hA
            have hxm := List.mem_of_getElem? hx
            have LEN : Hid ((A3 ++ upto g.h (fun x => sp (chWords g x)) i).length ≤ 1000000 ∧ (Lib.join (chWords g x) [32]).length ≤ 1000000) := Lib.hid ⟨by
              have h1 := upto_le (L := g.h) (f := fun x => sp (chWords g x)) (ch_sp HC.out) i
              have h2 := LA3.out
              have h3 : g.h.length * 300 ≤ 48 * 300 := Nat.mul_le_mul_right 300 (by omega)
              rw [List.length_append]
              omega, sp_join (ch_sp HC.out x hxm)⟩
            have HX := Lib.hid (upto_next (f := fun x => sp (chWords g x)) hx)
            obtain ⟨f0, f1, t0, t1⟩ := ch_range HC.out hxm
            obtain ⟨xf, xt⟩ := x
            dsimp only at f0 f1 t0 t1 c0 c1
            obtain ⟨m, rfl⟩ : ∃ m : Nat, xf = m := ⟨xf.toNat, by omega⟩
            obtain ⟨n, rfl⟩ : ∃ n : Nat, xt = n := ⟨xt.toNat, by omega⟩
            have hm1 : m < g.o.length := by omega
            have hn1 : n < g.o.length := by omega
            obtain ⟨x1, hx1⟩ : ∃ x, g.o[m]? = some x := ⟨g.o[m], List.getElem?_eq_getElem hm1⟩
            obtain ⟨x2, hx2⟩ : ∃ x, g.o[n]? = some x := ⟨g.o[n], List.getElem?_eq_getElem hn1⟩
            have hcw : chWords g ⟨m, n⟩ = [[102, 114, 111, 109], x1.n, [116, 111], x2.n] := by simp [chWords, nameO, hx1, hx2]
            obtain ⟨bo, oo, hA2, hbo, e1, -⟩ := at_oq (H0.out.o) hx1
            change vd = _ at hA2
            obtain ⟨bo2, oo2, hA3, -, e2, -⟩ := at_oq (H0.out.o) hx2
            change vd = _ at hA3
            subst hA2
            injection (Option.some.inj hA3) with hb2 ho2
            subst hb2 ho2
            clear hA3
            have E1 : ∀ w7, Below bb w3 w7 → w7.cell? ⟨bo, oo + m * 6, none⟩ = some (sV x1.n) := fun w7 h7 => ((HW.out w7 h7).cell (p := ⟨bo, oo + m * 6, none⟩) hbo).trans e1
            have E2 : ∀ w7, Below bb w3 w7 → w7.cell? ⟨bo, oo + n * 6, none⟩ = some (sV x2.n) := fun w7 h7 => ((HW.out w7 h7).cell (p := ⟨bo, oo + n * 6, none⟩) hbo).trans e2
            replace E1 := Lib.hid E1
            replace E2 := Lib.hid E2
            rw [hcw] at LEN HX
            obtain ⟨L, hL⟩ : ∃ L, A3 ++ upto g.h (fun x => sp (chWords g x)) i = L := ⟨_, rfl⟩
            rw [hL] at BLr LEN
            have HX' : Hid (A3 ++ upto g.h (fun x => sp (chWords g x)) (i + 1) = L ++ sp [[102, 114, 111, 109], x1.n, [116, 111], x2.n]) := Lib.hid (by rw [HX.out, ← List.append_assoc, hL])
            clear hx hxm hL HX hx1 hx2 hcw e1 e2 f0 f1 t0 t1
            have HX := HX'
            clear HX'
            go_upto_region 23 with fail
            change Code.wp _ _ _ _ (wr.alloc (.cells #[.int .i64 (m : Int), .int .i64 (n : Int)] 61))
            have bx := fresh1 wr (.cells #[.int .i64 (m : Int), .int .i64 (n : Int)] 61)
            have RX := Lib.hid (Whole.fresh wr 61 #[.int .i64 (m : Int), .int .i64 (n : Int)])
            have BLX := Lib.hid (BLr.out.below bx)
            have BX := Lib.hid (Br.out.trans (bx.mono BLr.out.2))
            have HBX := Lib.hid BLX.out.2
            clear BLr Br c0 c1 hb1 bx
            generalize wr.alloc (.cells #[.int .i64 (m : Int), .int .i64 (n : Int)] 61) = wx at RX BLX BX HBX ⊢
            generalize wr.heap.size = r at RX ⊢
            refine region_full 92 [] [(15, 3), (15, 10)] (fun k => k == 3 || k == 10 || k == 15) (fun w7 => Below bb w3 w7 ∧ wx.heap.size ≤ w7.heap.size) ?hR ?r0 [pdOne 0 (Is (.pointer (some ⟨gg, 2, none⟩))), pdOne 1 (Is (.slice (some ⟨bo, oo, none⟩) g.o.length vk)), pdOne 2 (Is (.pointer (some ⟨r, 0, none⟩))), pdOne 3 (Is (.int .i64 (m : Int))), pdOne 4 (Is (.pointer (some ⟨bo, oo + m * 6, none⟩))), pdOne 5 (Is (.pointer (some ⟨bo, oo + m * 6, none⟩))), pdOne 6 (Is (sV x1.n)), pdOne 7 (Is (.pointer (some ⟨gg, 2, none⟩))), pdOne 8 (Is (.slice (some ⟨bo, oo, none⟩) g.o.length vk)), pdOne 9 (Is (.pointer (some ⟨r, 1, none⟩))), pdOne 10 (Is (.int .i64 (n : Int))), pdOne 11 (Is (.pointer (some ⟨bo, oo + n * 6, none⟩))), pdOne 12 (Is (.pointer (some ⟨bo, oo + n * 6, none⟩))), pdOne 13 (Is (sV x2.n)), pdOne 14 (LoneS wx.heap.size ([[102, 114, 111, 109], x1.n, [116, 111], x2.n] : List Bs) (fun w => BL w bb bb (L ++ sp ([[102, 114, 111, 109], x1.n, [116, 111], x2.n] : List Bs)))), pdOne 15 (fun _ w => BL w bb bb (L ++ sp ([[102, 114, 111, 109], x1.n, [116, 111], x2.n] : List Bs)))] (fun k w7 => (k = 3 ∨ k = 10 → Whole w7 r 61 #[.int .i64 (m : Int), .int .i64 (n : Int)]) ∧ (k = 15 → BL w7 bb bb L)) (by kernel_rfl) rfl (by kernel_rfl) (by kernel_rfl) (by kernel_rfl) (by kernel_rfl) ?keep ?hO ?h0 ?tell
            case hR => exact fun w7 w8 hb ⟨h1, h2⟩ => ⟨h1.trans (hb.mono (Nat.le_trans HBX.out h2)), Nat.le_trans h2 hb.size⟩
            case r0 => exact ⟨BX.out, Nat.le_refl _⟩
            case keep => exact ⟨keep_one (keeps_is _), keep_one (keeps_is _), keep_one (keeps_is _), keep_one (keeps_is _), keep_one (keeps_is _), keep_one (keeps_is _), keep_one (keeps_is _), keep_one (keeps_is _), keep_one (keeps_is _), keep_one (keeps_is _), keep_one (keeps_is _), keep_one (keeps_is _), keep_one (keeps_is _), keep_one (keeps_is _), keep_one (fun _ _ _ hb h => h.imp fun gx h => ⟨h.1, h.2.1, h.2.2.imp (fun k => k.below hb k.inside) (fun k => BL.below k hb)⟩), keep_one (fun _ _ _ hb h => BL.below h hb), trivial⟩
            case hO => exact fun k w7 w8 hb ⟨h1, h2⟩ => ⟨fun e => (h1 e).below hb (h1 e).inside, fun e => BL.below (h2 e) hb⟩
            case h0 => exact fun k _ => ⟨fun _ => RX.out, fun _ => BLX.out⟩
            case tell =>
              intro fin hfin
              simp [lexPut, Act.put] at hfin
              simp only [TellF]
              refine ⟨⟨?_, ?_, ?_, ?_, ?_, ?_, ?_, ?_, ?_, ?_, ?_, ?_, ?_, ?_, ?_, ?_, trivial⟩, ?_⟩
              · intro v2 w7 hr hd
                refine yields_run (u := .pointer (some ⟨gg, 2, none⟩)) (w' := w7) ?_ (Below.refl _ _) rfl
                unfold execOp
                simp [go_sem, Act.eval]
              · intro v2 w7 hr hd
                have h0 : v2 0 = _ := hd 0 (by kernel_rfl)
                have c0 := (GG.out w7 hr.1 2)
                refine yields_run (u := .slice (some ⟨bo, oo, none⟩) g.o.length vk) (w' := w7) ?_ (Below.refl _ _) rfl
                unfold execOp
                simp [go_sem, Act.eval, Act.put, h0, c0]
              · intro v2 w7 hr hd
                refine yields_run (u := .pointer (some ⟨r, 0, none⟩)) (w' := w7) ?_ (Below.refl _ _) rfl
                unfold execOp
                simp [go_sem, Act.eval, Act.put]
              · intro v2 w7 hr ho hd
                have h2 : v2 2 = _ := hd 2 (by kernel_rfl)
                have c0 := ((ho.1 (by decide)).read 0)
                refine .inl (.inl ⟨.int .i64 (m : Int), w7, ?_, hr, fun _ _ _ _ hu => hu, fun _ _ _ _ hu => hu, rfl⟩)
                unfold execOp
                simp [go_sem, Act.eval, Act.put, h2, c0]
              · intro v2 w7 hr hd
                have h1 : v2 1 = _ := hd 1 (by kernel_rfl)
                have h3 : v2 3 = _ := hd 3 (by kernel_rfl)
                exact yields_index (b := bo) (off := oo) (n := g.o.length) (c := vk) (i := m) (m := 6) rfl (by simp [Act.eval, Act.put, h1, h3]) (by simp [Act.eval, Act.put, h1, h3]) hm1 Tryz.underlying24 (by intro w; simp [Tryz.sizeOf145])
              · intro v2 w7 hr hd
                have h4 : v2 4 = _ := hd 4 (by kernel_rfl)
                refine yields_run (u := .pointer (some ⟨bo, oo + m * 6, none⟩)) (w' := w7) ?_ (Below.refl _ _) rfl
                unfold execOp
                simp [go_sem, Act.eval, Act.put, h4]
              · intro v2 w7 hr hd
                have h5 : v2 5 = _ := hd 5 (by kernel_rfl)
                have c0 := (E1.out w7 hr.1)
                refine yields_run (u := sV x1.n) (w' := w7) ?_ (Below.refl _ _) rfl
                unfold execOp
                simp [go_sem, Act.eval, Act.put, h5, c0]
              · intro v2 w7 hr hd
                refine yields_run (u := .pointer (some ⟨gg, 2, none⟩)) (w' := w7) ?_ (Below.refl _ _) rfl
                unfold execOp
                simp [go_sem, Act.eval, Act.put]
              · intro v2 w7 hr hd
                have h7 : v2 7 = _ := hd 7 (by kernel_rfl)
                have c0 := (GG.out w7 hr.1 2)
                refine yields_run (u := .slice (some ⟨bo, oo, none⟩) g.o.length vk) (w' := w7) ?_ (Below.refl _ _) rfl
                unfold execOp
                simp [go_sem, Act.eval, Act.put, h7, c0]
              · intro v2 w7 hr hd
                refine yields_run (u := .pointer (some ⟨r, 1, none⟩)) (w' := w7) ?_ (Below.refl _ _) rfl
                unfold execOp
                simp [go_sem, Act.eval, Act.put]
              · intro v2 w7 hr ho hd
                have h9 : v2 9 = _ := hd 9 (by kernel_rfl)
                have c0 := ((ho.1 (by decide)).read 1)
                refine .inl (.inl ⟨.int .i64 (n : Int), w7, ?_, hr, fun _ _ _ _ hu => hu, fun _ _ _ _ hu => hu, rfl⟩)
                unfold execOp
                simp [go_sem, Act.eval, Act.put, h9, c0]
              · intro v2 w7 hr hd
                have h8 : v2 8 = _ := hd 8 (by kernel_rfl)
                have h10 : v2 10 = _ := hd 10 (by kernel_rfl)
                exact yields_index (b := bo) (off := oo) (n := g.o.length) (c := vk) (i := n) (m := 6) rfl (by simp [Act.eval, Act.put, h8, h10]) (by simp [Act.eval, Act.put, h8, h10]) hn1 Tryz.underlying24 (by intro w; simp [Tryz.sizeOf145])
              · intro v2 w7 hr hd
                have h11 : v2 11 = _ := hd 11 (by kernel_rfl)
                refine yields_run (u := .pointer (some ⟨bo, oo + n * 6, none⟩)) (w' := w7) ?_ (Below.refl _ _) rfl
                unfold execOp
                simp [go_sem, Act.eval, Act.put, h11]
              · intro v2 w7 hr hd
                have h12 : v2 12 = _ := hd 12 (by kernel_rfl)
                have c0 := (E2.out w7 hr.1)
                refine yields_run (u := sV x2.n) (w' := w7) ?_ (Below.refl _ _) rfl
                unfold execOp
                simp [go_sem, Act.eval, Act.put, h12, c0]
              · intro v2 w7 hr hd
                have h6 : v2 6 = _ := hd 6 (by kernel_rfl)
                have h13 : v2 13 = _ := hd 13 (by kernel_rfl)
                refine yields_run (u := .slice (some ⟨w7.heap.size, 0, none⟩) (([[102, 114, 111, 109], x1.n, [116, 111], x2.n] : List Bs)).length (([[102, 114, 111, 109], x1.n, [116, 111], x2.n] : List Bs)).length) (w' := w7.alloc (.cells ((([[102, 114, 111, 109], x1.n, [116, 111], x2.n] : List Bs)).map sV).toArray 9)) ?_ (fresh1 w7 _) ⟨w7.heap.size, rfl, hr.2, .inl (Whole.fresh w7 _ _)⟩
                unfold execOp
                simp [go_sem, Act.eval, Act.put, h6, h13, sV]
              · intro v2 w7 hr ho hd
                obtain ⟨gy, hz, hyl, hw⟩ : LoneS wx.heap.size ([[102, 114, 111, 109], x1.n, [116, 111], x2.n] : List Bs) (fun w => BL w bb bb (L ++ sp ([[102, 114, 111, 109], x1.n, [116, 111], x2.n] : List Bs))) (v2 14) w7 := hd 14 (by kernel_rfl)
                have hw := hw.resolve_right (fun k => by have := BL.len (ho.2 trivial) k; simp [sp] at this)
                refine .inl (yieldsW_callR (f := 81) rfl (vs := #[.pointer (some ⟨bb, 0, none⟩), .slice (some ⟨gy, 0, none⟩) ([[102, 114, 111, 109], x1.n, [116, 111], x2.n] : List Bs).length ([[102, 114, 111, 109], x1.n, [116, 111], x2.n] : List Bs).length]) (by simp [Act.eval, Act.put, hz]) rfl Tryz.func81 (by kernel_rfl) (by kernel_rfl) ?_)
                refine (line_any bb bb L gy ([[102, 114, 111, 109], x1.n, [116, 111], x2.n] : List Bs) _ (Nat.le_refl _) (by simp) LEN.out.1 LEN.out.2 w7 (ho.2 trivial) hw).mono fun e1 w8 ⟨he1, hb8, hB8⟩ => ⟨_, he1, ⟨hr.1.trans hB8, Nat.le_trans hr.2 hB8.size⟩, ?_, ?_, hb8⟩
                · intro k2 v' hk2 hc hu
                  exact match k2, hk2, hc, hu with
                    | 0, _, _, hu => hu
                    | 1, _, _, hu => hu
                    | 2, _, _, hu => hu
                    | 3, _, _, hu => hu
                    | 4, _, _, hu => hu
                    | 5, _, _, hu => hu
                    | 6, _, _, hu => hu
                    | 7, _, _, hu => hu
                    | 8, _, _, hu => hu
                    | 9, _, _, hu => hu
                    | 10, _, _, hu => hu
                    | 11, _, _, hu => hu
                    | 12, _, _, hu => hu
                    | 13, _, _, hu => hu
                    | 14, _, _, ⟨gy, h1, h2, _⟩ => ⟨gy, h1, h2, .inr hb8⟩
                    | 15, hk2, _, _ => absurd rfl hk2
                    | _ + 16, _, _, _ => trivial
                · intro k2 hk2 hn hc2 ⟨h1, h2⟩
                  exact ⟨fun e => by first | (rcases e with rfl | rfl <;> exact absurd hc2 (by decide)) | exact absurd e (by decide), fun e => absurd e hk2⟩
              · intro v2 w7 hr hv
                have hb9 : BL w7 bb bb (L ++ sp ([[102, 114, 111, 109], x1.n, [116, 111], x2.n] : List Bs)) := hv 15 (by decide)
                have hR := hr.1
                rw [hfin]
                clear hfin hv hr
                generalize v2 14 = v6
                generalize v2 15 = v7
                go_wp2_with fail
                go_roundw
                case rel => exact ⟨i + 1, hlt, by go_num, by rw [HX.out]; exact Lib.hid hb9, Lib.hid hR⟩
                case measure => simp [intOf]; omega
          subst hin
          have hlt : ¬ ((g.h.length : Int) < g.h.length) := by omega
          rw [upto_all] at BLr
          have HXX : Hid (A3 ++ (g.h.map fun x => sp (chWords g x)).flatten = X) := Lib.hid (by rw [← hX.out, HA3.out, HA2.out, HA1.out, HA0.out]; simp [textG])
          rw [HXX.out] at BLr
          have ST := Lib.hid (string_any bb bb X wr BLr.out)
          go_wp2_with (go_at_call 85; refine ST.out.mono ?_; rintro e w5 ⟨rfl, b5⟩)
          go_ret2
          exact ⟨rfl, HW.out _ (Br.out.trans b5)⟩
end Go.Proofs.YtpblpjopinllcaaGreatDoor.graph
set_option linter.unusedSimpArgs false
set_option linter.unusedVariables false
namespace Go.Proofs.YtpblpjopinllcaaGreatDoor.graph
open Go.Proofs.YtpblpjopinllcaaGreatDoor.words

/-! ### Lines and words -/
theorem lines_end (a r : Bs) (h : (10 : UInt8) ∉ a) : linesL (a ++ [10] ++ r) = a :: linesL r := by
  unfold linesL
  rw [List.append_assoc, linesC_app a [] _ h]
  simp [linesC]
theorem lines_flat : ∀ {M : List Bs}, (∀ x ∈ M, (10 : UInt8) ∉ x) → linesL (M.map (· ++ [10])).flatten = M
  | [], _ => rfl
  | x :: r, h => by
    rw [List.map_cons, List.flatten_cons, lines_end x _ (h x (by simp)), lines_flat fun y hy => h y (by simp [hy])]
/-- A word as it stands in a line. -/
structure PlainW (x : Bs) : Prop where
  ne : x ≠ []
  sp : (32 : UInt8) ∉ x
  nl : (10 : UInt8) ∉ x
  note : isNote x = false
theorem split_tail (x : Bs) (r : List Bs) (hx : PlainW x) (hr : ∀ y ∈ r, PlainW y) : splitC [] (x ++ Lib.joinTail [32] r) = x :: r := by
  induction r generalizing x with
  | nil =>
    show splitC [] (x ++ []) = _
    rw [splitC_word x [] hx.sp hx.note hx.ne]
    unfold splitC
    rw [if_neg hx.ne]
  | cons y q ih =>
    have e : Lib.joinTail [32] (y :: q) = 32 :: (y ++ Lib.joinTail [32] q) := by simp [Lib.joinTail]
    rw [e, splitC_word x _ hx.sp hx.note hx.ne]
    have : splitC x (32 :: (y ++ Lib.joinTail [32] q)) = x :: splitC [] (y ++ Lib.joinTail [32] q) := by
      rw [splitC, if_pos rfl, if_neg hx.ne]
    rw [this, ih y (hr y (by simp)) fun z hz => hr z (by simp [hz])]
theorem split_line (l : List Bs) (h : ∀ x ∈ l, PlainW x) : splitL (Lib.join l [32]) = l := by
  cases l with
  | nil => rfl
  | cons x r =>
    rw [Lib.join_cons]
    exact split_tail x r (h x (by simp)) fun y hy => h y (by simp [hy])
theorem line_nl (l : List Bs) (h : ∀ x ∈ l, PlainW x) : (10 : UInt8) ∉ Lib.join l [32] := by
  cases l with
  | nil => simp [Lib.join_nil]
  | cons x r =>
    rw [Lib.join_cons]
    intro hm
    rcases List.mem_append.1 hm with hm | hm
    · exact (h x (by simp)).nl hm
    · unfold Lib.joinTail at hm
      rw [List.mem_flatten] at hm
      obtain ⟨z, hz, hm⟩ := hm
      obtain ⟨y, hy, rfl⟩ := List.mem_map.1 hz
      rcases List.mem_append.1 hm with hm | hm
      · simp at hm
      · exact (h y (by simp [hy])).nl hm
/-! ### Words are plain -/
def goodC (c : UInt8) : Bool := c != 32 && c != 10 && c != 35
theorem plain_of {x : Bs} (h0 : x ≠ []) (h : ∀ c ∈ x, goodC c = true) : PlainW x := by
  refine ⟨h0, fun hm => by have := h _ hm; simp [goodC] at this, fun hm => by have := h _ hm; simp [goodC] at this, ?_⟩
  cases x with
  | nil => exact absurd rfl h0
  | cons c r =>
    rw [isNote_cons]
    have := h c (by simp)
    simp [goodC] at this
    simp [this]
theorem good_num {c : UInt8} (h : c.toNat = 45 ∨ (48 ≤ c.toNat ∧ c.toNat ≤ 57) ∨ (97 ≤ c.toNat ∧ c.toNat ≤ 122)) : goodC c = true := by
  have k : ∀ n : Nat, n < 256 → c = UInt8.ofNat n → c.toNat = n := fun n hn e => by rw [e]; simp; omega
  unfold goodC
  simp only [Bool.and_eq_true, bne_iff_ne]
  refine ⟨⟨fun e => ?_, fun e => ?_⟩, fun e => ?_⟩
  · have := k 32 (by decide) e; omega
  · have := k 10 (by decide) e; omega
  · have := k 35 (by decide) e; omega
theorem good_name {n : Bs} (h : nameB n = true) : n ≠ [] ∧ ∀ c ∈ n, goodC c = true := by
  unfold nameB at h
  cases n with
  | nil => simp at h
  | cons c r =>
    simp only [Bool.and_eq_true, List.all_eq_true, Bool.or_eq_true] at h
    refine ⟨by simp, fun d hd => good_num ?_⟩
    rcases List.mem_cons.1 hd with rfl | hd
    · have := h.2.1
      simp only [isA, decide_eq_true_eq] at this
      exact .inr (.inr this)
    · rcases h.2.2 d hd with h1 | h1
      · simp only [isA, decide_eq_true_eq] at h1
        exact .inr (.inr h1)
      · simp only [isD, decide_eq_true_eq] at h1
        exact .inr (.inl h1)
theorem good_itoa (n : Int) (h : I64 n) : ∀ c ∈ Lib.itoa n, goodC c = true := by
  obtain ⟨-, h2, -, -⟩ := itoa_shape n h.1 h.2
  intro c hc
  unfold frontN at h2
  split at h2
  · rename_i h45
    cases hi : Lib.itoa n with
    | nil => rw [hi] at hc; cases hc
    | cons d r =>
      rw [hi] at hc h2 h45
      rcases List.mem_cons.1 hc with rfl | hc
      · have : c = 45 := by simpa using h45
        rw [this]
        rfl
      · exact good_num (.inr (.inl (h2 c (by simpa using hc))))
  · exact good_num (.inr (.inl (h2 c (by simpa using hc))))
theorem plain_name {n : Bs} (h : nameB n = true) : PlainW n := plain_of (good_name h).1 (good_name h).2
theorem plain_front {a b : Bs} (h0 : a ≠ []) (ha : a.all goodC = true) (hb : ∀ c ∈ b, goodC c = true) : PlainW (a ++ b) := by
  refine plain_of (by simp [h0]) fun c hc => ?_
  rcases List.mem_append.1 hc with hc | hc
  · exact List.all_eq_true.1 ha c hc
  · exact hb c hc
theorem plain_lit {a : Bs} (h0 : a ≠ []) (ha : a.all goodC = true) : PlainW a := plain_of h0 fun c hc => List.all_eq_true.1 ha c hc
theorem plain_word (k : Int) (h1 : 1 ≤ k) (h2 : k ≤ 14) : PlainW (wordB k) := by
  rcases (show k = 1 ∨ k = 2 ∨ k = 3 ∨ k = 4 ∨ k = 5 ∨ k = 6 ∨ k = 7 ∨ k = 8 ∨ k = 9 ∨ k = 10 ∨ k = 11 ∨ k = 12 ∨ k = 13 ∨ k = 14 by omega) with rfl | rfl | rfl | rfl | rfl | rfl | rfl | rfl | rfl | rfl | rfl | rfl | rfl | rfl <;> exact plain_lit (by decide) (by decide)
theorem kind_word (k : Int) (h1 : 1 ≤ k) (h2 : k ≤ 14) : (kindN (wordB k) : Int) = k := by
  rcases (show k = 1 ∨ k = 2 ∨ k = 3 ∨ k = 4 ∨ k = 5 ∨ k = 6 ∨ k = 7 ∨ k = 8 ∨ k = 9 ∨ k = 10 ∨ k = 11 ∨ k = 12 ∨ k = 13 ∨ k = 14 by omega) with rfl | rfl | rfl | rfl | rfl | rfl | rfl | rfl | rfl | rfl | rfl | rfl | rfl | rfl <;> decide
/-! ### Fronts -/
theorem prefix_app (a b : Bs) : Lib.hasPrefix (a ++ b) a = true := by
  unfold Lib.hasPrefix
  simp
theorem num_front (f : Bs) (n : Int) (h : I64 n) : numE f (f ++ Lib.itoa n) = 0 ∧ numV f (f ++ Lib.itoa n) = n := by
  unfold numE numV
  rw [if_pos (prefix_app _ _), if_pos (prefix_app _ _), List.drop_left]
  exact sgE_some (sg_itoa n h.1 h.2)
theorem pl_front {ix : List Bs → Bs → Option Nat} (f : Bs) (N : List Bs) (n : Bs) {k : Nat} (h : ix N n = some k) : plE ix f N (f ++ n) = 0 ∧ plV ix f N (f ++ n) = k := by
  unfold plE plV
  rw [if_pos (prefix_app _ _), if_pos (prefix_app _ _), List.drop_left, h]
  exact ⟨rfl, rfl⟩
theorem ix_here {ix : List Bs → Bs → Option Nat} (hi : IxOk ix) {N : List Bs} (hn : N.Nodup) {k : Nat} {n : Bs} (h : N[k]? = some n) : ix N n = some k := by
  obtain ⟨j, hj⟩ := hi.mem (List.mem_of_getElem? h)
  rw [hj, nodup_at hn (hi.at_ hj) h]
/-! ### Segments of lines -/
theorem seg {ix : List Bs → Bs → Option Nat} {α : Type} (ws : α → List Bs) (rest : List Bs) : ∀ (L : List α) (S : Nat → Gr) (i : Nat), (∀ x ∈ L, ∀ y ∈ ws x, PlainW y) → (∀ k x, L[k]? = some x → lineF ix (S k) (ws x) = (0, S (k + 1))) →
    parseF ix ((L.map fun x => Lib.join (ws x) [32]) ++ rest) i (S 0) = parseF ix rest (i + L.length) (S L.length)
  | [], S, i, _, _ => rfl
  | x :: r, S, i, hp, h => by
    have h0 := h 0 x rfl
    rw [List.map_cons, List.cons_append]
    rw [show parseF ix (Lib.join (ws x) [32] :: ((r.map fun x => Lib.join (ws x) [32]) ++ rest)) i (S 0) = if (lineF ix (S 0) (splitL (Lib.join (ws x) [32]))).1 ≠ 0 then (noG, (i : Int) + 1, (lineF ix (S 0) (splitL (Lib.join (ws x) [32]))).1) else parseF ix ((r.map fun x => Lib.join (ws x) [32]) ++ rest) (i + 1) (lineF ix (S 0) (splitL (Lib.join (ws x) [32]))).2 from rfl]
    rw [split_line _ (hp x (by simp)), h0, if_neg (by simp)]
    have := seg ws rest r (fun k => S (k + 1)) (i + 1) (fun y hy => hp y (by simp [hy])) fun k y hk => h (k + 1) y (by simpa using hk)
    rw [this, List.length_cons, show i + 1 + r.length = i + (r.length + 1) by omega]
theorem clE_parts {C : List Cl} {k : Nat} {x : Cl} (hx : C[k]? = some x) (h : clE C k = 0) : nameB x.n = true := by
  unfold clE at h
  rw [hx] at h
  dsimp only at h
  split at h
  · rename_i h1
    exact absurd h h1
  · rename_i h1
    exact nameE_zero (by simpa using h1)
theorem loE_parts {L : List Lo} {k : Nat} {x : Lo} (hx : L[k]? = some x) (h : loE L k = 0) : nameB x.n = true ∧ -1 ≤ x.u ∧ x.u < k := by
  unfold loE at h
  rw [hx] at h
  dsimp only at h
  split at h
  · rename_i h1
    exact absurd h h1
  · rename_i h1
    split at h
    · cases h
    · exact ⟨nameE_zero (by simpa using h1), by omega, by omega⟩
theorem no_minus {n : Bs} (h : nameB n = true) : kwIn ++ n ≠ kwInNo := by
  intro e
  have : n = [45] := by simpa using e
  rw [this] at h
  exact absurd h (by decide)
/-- What a graph's loop word says. -/
theorem in_word {ix : List Bs → Bs → Option Nat} (hi : IxOk ix) {L : List Lo} (N : List Bs) (hN : N.Nodup) (hLN : ∀ k x, L[k]? = some x → N[k]? = some x.n ∨ N.length ≤ k) (hnm : ∀ x ∈ L, nameB x.n = true) {g : Gr} (hg : g.l = L) (u : Int) (h0 : -1 ≤ u) (h1 : u < N.length) (h2 : u < L.length) :
    lpE ix N (inW g u) = 0 ∧ lpV ix N (inW g u) = u := by
  unfold lpE lpV inW
  by_cases hu : u < 0
  · rw [if_pos hu]
    have : ([105, 110, 61] : Bs) ++ [45] = kwInNo := rfl
    rw [if_pos this, if_pos this]
    exact ⟨rfl, by omega⟩
  · rw [if_neg hu, hg]
    obtain ⟨x, hx⟩ : ∃ x, L[u.toNat]? = some x := ⟨_, List.getElem?_eq_getElem (by omega)⟩
    rw [hx]
    dsimp only
    have hne := no_minus (hnm x (List.mem_of_getElem? hx))
    rw [if_neg hne, if_neg hne]
    have hxn : N[u.toNat]? = some x.n := (hLN _ x hx).resolve_right (by omega)
    obtain ⟨e1, e2⟩ := pl_front (ix := ix) kwIn N x.n (ix_here hi hN hxn)
    refine ⟨e1, ?_⟩
    rw [e2]
    omega
theorem names_take {α : Type} {L : List α} {f : α → Bs} {k j : Nat} {x : α} (h : L[j]? = some x) : ((L.take k).map f)[j]? = some (f x) ∨ ((L.take k).map f).length ≤ j := by
  by_cases hj : j < k
  · left
    rw [List.getElem?_map, List.getElem?_take, if_pos hj, h]
    rfl
  · right
    rw [List.length_map, List.length_take]
    omega
theorem take_snoc {α : Type} {L : List α} {k : Nat} {x : α} (h : L[k]? = some x) : L.take (k + 1) = L.take k ++ [x] := by rw [List.take_add_one, h]; rfl
theorem nums_zero {k x y : Int} (h : numsB k x y = true) (h1 : 1 ≤ k) (h2 : k ≤ 14) : (moreK k = 0 → x = 0 ∧ y = 0) ∧ (moreK k = 1 → y = 0) := by
  unfold numsB at h
  unfold moreK
  constructor
  · intro hm
    split at hm
    · cases hm
    · split at hm
      · cases hm
      · rename_i a b
        rw [if_neg (by omega), if_neg (by omega), if_neg (by omega), if_neg (by omega)] at h
        simpa using h
  · intro hm
    split at hm
    · cases hm
    · split at hm
      · rename_i a b
        rw [if_neg (by omega), if_neg (by omega)] at h
        split at h
        · have := of_decide_eq_true h; exact this.2.2
        · split at h
          · have := of_decide_eq_true h; exact this.2.2
          · rename_i c d
            omega
      · cases hm
/-- THE GRAPH OF A GRAPH'S TEXT IS THAT GRAPH. -/
theorem parse_text {ix : List Bs → Bs → Option Nat} (hi : IxOk ix) {g : Gr} (I : g.In) (h : checkE g = 0) : parseV ix (textG g) = (g, 0, 0) := by
  obtain ⟨hs, hc, hl, ho, hh⟩ := check_parts h
  have nc := cl_nodup hc
  have nl := lo_nodup hl
  have no := oq_nodup ho
  have NC : ∀ x ∈ g.c, nameB x.n = true := fun x hx => by
    obtain ⟨k, hk, e⟩ := List.getElem_of_mem hx
    exact clE_parts (by rw [List.getElem?_eq_getElem hk, e]) (first_zero hc k hk)
  have NLp : ∀ (k : Nat) x, g.l[k]? = some x → nameB x.n = true ∧ -1 ≤ x.u ∧ x.u < k := fun k x hx => loE_parts hx (first_zero hl k (List.getElem?_eq_some_iff.1 hx).1)
  have NL : ∀ x ∈ g.l, nameB x.n = true := fun x hx => by
    obtain ⟨k, hk, e⟩ := List.getElem_of_mem hx
    exact (NLp k x (by rw [List.getElem?_eq_getElem hk, e])).1
  have OP : ∀ (k : Nat) x, g.o[k]? = some x → nameB x.n = true ∧ (1 ≤ x.k ∧ x.k ≤ 14) ∧ (-1 ≤ x.l ∧ x.l < g.l.length) ∧ (0 ≤ x.a ∧ x.a < g.c.length) ∧ whereB x.k x.l = true ∧ numsB x.k x.x x.y = true := fun k x hx => by
    obtain ⟨h1, h2⟩ := oq_parts h hx
    exact ⟨nameE_zero h1, opE_parts h2⟩
  have NO : ∀ x ∈ g.o, nameB x.n = true := fun x hx => by
    obtain ⟨k, hk, e⟩ := List.getElem_of_mem hx
    exact (OP k x (by rw [List.getElem?_eq_getElem hk, e])).1
  have gin : ∀ u : Int, ∀ c ∈ (if u < 0 then [45] else match g.l[u.toNat]? with | none => [] | some x => x.n : Bs), goodC c = true := fun u c hc => by
    split at hc
    · rw [List.mem_singleton] at hc
      rw [hc]
      rfl
    · split at hc
      · cases hc
      · rename_i x hx
        exact (good_name (NL x (List.mem_of_getElem? hx))).2 c hc
  have pin : ∀ u, PlainW (inW g u) := fun u => plain_front (by decide) (by decide) (gin u)
  have pc : ∀ x ∈ g.c, ∀ y ∈ clWords x, PlainW y := fun x hx y hy => by
    unfold clWords at hy
    simp only [List.mem_cons, List.not_mem_nil, or_false] at hy
    rcases hy with rfl | rfl | rfl
    · exact plain_lit (by decide) (by decide)
    · exact plain_name (NC x hx)
    · exact plain_front (by decide) (by decide) (good_itoa _ (I.c x hx))
  have pl : ∀ x ∈ g.l, ∀ y ∈ loWords g x, PlainW y := fun x hx y hy => by
    unfold loWords at hy
    simp only [List.mem_cons, List.not_mem_nil, or_false] at hy
    rcases hy with rfl | rfl | rfl | rfl
    · exact plain_lit (by decide) (by decide)
    · exact plain_name (NL x hx)
    · exact pin _
    · exact plain_front (by decide) (by decide) (good_itoa _ (I.l x hx).2)
  have po : ∀ x ∈ g.o, ∀ y ∈ oqWords g x, PlainW y := fun x hx y hy => by
    obtain ⟨k, hk, e⟩ := List.getElem_of_mem hx
    obtain ⟨a1, a2, a3, a4, -, -⟩ := OP k x (by rw [List.getElem?_eq_getElem hk, e])
    unfold oqWords at hy
    rcases List.mem_append.1 hy with hy | hy
    · simp only [List.mem_cons, List.not_mem_nil, or_false] at hy
      rcases hy with rfl | rfl | rfl | rfl | rfl
      · exact plain_lit (by decide) (by decide)
      · exact plain_name a1
      · exact plain_word _ a2.1 a2.2
      · exact pin _
      · refine plain_front (by decide) (by decide) fun c hc => ?_
        unfold nameC at hc
        split at hc
        · cases hc
        · rename_i z hz
          exact (good_name (NC z (List.mem_of_getElem? hz))).2 c hc
    · have hy := List.mem_of_mem_take hy
      simp only [List.mem_cons, List.not_mem_nil, or_false] at hy
      rcases hy with rfl | rfl
      · exact plain_front (by decide) (by decide) (good_itoa _ (I.o x hx).2.2.2.1)
      · exact plain_front (by decide) (by decide) (good_itoa _ (I.o x hx).2.2.2.2)
  have nameO_at : ∀ u : Int, 0 ≤ u → u < g.o.length → g.on[u.toNat]? = some (nameO g u) ∧ nameB (nameO g u) = true := fun u h0 h1 => by
    obtain ⟨x, hx⟩ : ∃ x, g.o[u.toNat]? = some x := ⟨_, List.getElem?_eq_getElem (by omega)⟩
    unfold nameO
    rw [List.getElem?_map, hx]
    exact ⟨rfl, NO x (List.mem_of_getElem? hx)⟩
  have ph : ∀ x ∈ g.h, ∀ y ∈ chWords g x, PlainW y := fun x hx y hy => by
    obtain ⟨b1, b2, b3, b4⟩ := ch_range h hx
    unfold chWords at hy
    simp only [List.mem_cons, List.not_mem_nil, or_false] at hy
    rcases hy with rfl | rfl | rfl | rfl
    · exact plain_lit (by decide) (by decide)
    · exact plain_name (nameO_at _ b1 b2).2
    · exact plain_lit (by decide) (by decide)
    · exact plain_name (nameO_at _ b3 b4).2
  have et : textG g = (((g.c.map fun x => Lib.join (clWords x) [32]) ++ ((g.l.map fun x => Lib.join (loWords g x) [32]) ++ ((g.o.map fun x => Lib.join (oqWords g x) [32]) ++ (g.h.map fun x => Lib.join (chWords g x) [32])))).map (· ++ [10])).flatten := by
    unfold textG sp
    simp only [List.map_append, List.map_map, List.flatten_append]
    rfl
  have el : linesL (textG g) = (g.c.map fun x => Lib.join (clWords x) [32]) ++ ((g.l.map fun x => Lib.join (loWords g x) [32]) ++ ((g.o.map fun x => Lib.join (oqWords g x) [32]) ++ ((g.h.map fun x => Lib.join (chWords g x) [32]) ++ []))) := by
    rw [et, lines_flat, List.append_nil]
    intro x hx
    simp only [List.mem_append, List.mem_map] at hx
    rcases hx with ⟨y, hy, rfl⟩ | ⟨y, hy, rfl⟩ | ⟨y, hy, rfl⟩ | ⟨y, hy, rfl⟩
    · exact line_nl _ (pc y hy)
    · exact line_nl _ (pl y hy)
    · exact line_nl _ (po y hy)
    · exact line_nl _ (ph y hy)
  unfold parseV
  rw [el]
  have s1 := seg (ix := ix) clWords ((g.l.map fun x => Lib.join (loWords g x) [32]) ++ ((g.o.map fun x => Lib.join (oqWords g x) [32]) ++ ((g.h.map fun x => Lib.join (chWords g x) [32]) ++ []))) g.c (fun k => ⟨g.c.take k, [], [], []⟩) 0 pc (fun k x hx => by
    obtain ⟨e1, e2⟩ := num_front kwWorkers x.w (I.c x (List.mem_of_getElem? hx))
    unfold lineF clWords
    dsimp only
    rw [if_pos rfl]
    unfold clF
    dsimp only
    rw [if_neg (by rw [show numE kwWorkers (kwWorkers ++ Lib.itoa x.w) = 0 from e1]; simp), show numV kwWorkers (kwWorkers ++ Lib.itoa x.w) = x.w from e2, take_snoc hx])
  have s2 := seg (ix := ix) (loWords g) ((g.o.map fun x => Lib.join (oqWords g x) [32]) ++ ((g.h.map fun x => Lib.join (chWords g x) [32]) ++ [])) g.l (fun k => ⟨g.c, g.l.take k, [], []⟩) (0 + g.c.length) pl (fun k x hx => by
    obtain ⟨e1, e2⟩ := num_front kwRounds x.r (I.l x (List.mem_of_getElem? hx)).2
    obtain ⟨a1, a2, a3⟩ := NLp k x hx
    have hk := (List.getElem?_eq_some_iff.1 hx).1
    obtain ⟨e3, e4⟩ := in_word hi (L := g.l) ((g.l.take k).map (·.n)) (by rw [take_names]; exact (List.take_sublist _ _).nodup nl) (fun j y hy => names_take hy) NL (g := g) rfl x.u a2 (by simp; omega) (by omega)
    unfold lineF loWords
    dsimp only
    rw [if_neg (by decide), if_pos rfl]
    unfold loF
    dsimp only
    rw [if_neg (by rw [show lpE ix ((g.l.take k).map (·.n)) (inW g x.u) = 0 from e3]; simp), if_neg (by rw [show numE kwRounds (kwRounds ++ Lib.itoa x.r) = 0 from e1]; simp), show numV kwRounds (kwRounds ++ Lib.itoa x.r) = x.r from e2, show lpV ix ((g.l.take k).map (·.n)) (inW g x.u) = x.u from e4, take_snoc hx])
  have s3 := seg (ix := ix) (oqWords g) ((g.h.map fun x => Lib.join (chWords g x) [32]) ++ []) g.o (fun k => ⟨g.c, g.l, g.o.take k, []⟩) (0 + g.c.length + g.l.length) po (fun k x hx => by
    obtain ⟨a1, a2, a3, a4, a5, a6⟩ := OP k x hx
    obtain ⟨-, ix1, ix2, ix3, ix4⟩ := I.o x (List.mem_of_getElem? hx)
    obtain ⟨e3, e4⟩ := in_word hi (L := g.l) g.ln nl (fun j y hy => .inl (by rw [List.getElem?_map, hy]; rfl)) NL (g := g) rfl x.l a3.1 (by simp; omega) (by omega)
    have hkd := kind_word x.k a2.1 a2.2
    obtain ⟨z, hz⟩ : ∃ z, g.c[x.a.toNat]? = some z := ⟨_, List.getElem?_eq_getElem (by omega)⟩
    have hnc : nameC g x.a = z.n := by unfold nameC; rw [hz]
    obtain ⟨e5, e6⟩ := pl_front (ix := ix) kwAt g.cn z.n (ix_here hi nc (k := x.a.toNat) (by rw [List.getElem?_map, hz]; rfl))
    obtain ⟨n1, n2⟩ := num_front kwA x.x ix3
    obtain ⟨m1, m2⟩ := num_front kwB x.y ix4
    obtain ⟨z1, z2⟩ := nums_zero a6 a2.1 a2.2
    have key : ∀ rest : List Bs, rest.length = moreK x.k → abE rest = 0 → aV rest = x.x → bV rest = x.y → opF ix ⟨g.c, g.l, g.o.take k, []⟩ ([111, 112] :: x.n :: wordB x.k :: inW g x.l :: (kwAt ++ z.n) :: rest) = (0, ⟨g.c, g.l, g.o.take (k + 1), []⟩) := fun rest hr h1 h2 h3 => by
      unfold opF
      dsimp only
      rw [hkd, if_neg (by rw [hr]; omega), if_neg (by rw [show lpE ix (g.l.map (·.n)) (inW g x.l) = 0 from e3]; simp), if_neg (by rw [show plE ix kwAt (g.c.map (·.n)) (kwAt ++ z.n) = 0 from e5]; simp), if_neg (by rw [h1]; simp), h2, h3, show lpV ix (g.l.map (·.n)) (inW g x.l) = x.l from e4, show plV ix kwAt (g.c.map (·.n)) (kwAt ++ z.n) = x.a.toNat from e6, take_snoc hx, show ((x.a.toNat : Nat) : Int) = x.a by omega]
    unfold oqWords
    rw [hnc]
    have hk2 : moreK x.k = 0 ∨ moreK x.k = 1 ∨ moreK x.k = 2 := by unfold moreK; split <;> (try split) <;> simp
    have hl : ∀ rest, lineF ix ⟨g.c, g.l, g.o.take k, []⟩ ([[111, 112], x.n, wordB x.k, inW g x.l, [97, 116, 61] ++ z.n] ++ rest) = opF ix ⟨g.c, g.l, g.o.take k, []⟩ ([111, 112] :: x.n :: wordB x.k :: inW g x.l :: (kwAt ++ z.n) :: rest) := fun rest => by
      unfold lineF
      rw [List.cons_append]
      dsimp only
      rw [if_neg (by decide), if_neg (by decide), if_pos rfl]
      rfl
    rw [hl]
    rcases hk2 with e | e | e
    · obtain ⟨y1, y2⟩ := z1 e
      rw [e]
      exact key _ (by rw [e]; rfl) rfl y1.symm y2.symm
    · rw [e]
      exact key _ (by rw [e]; rfl) n1 n2 (z2 e).symm
    · rw [e]
      refine key _ (by rw [e]; rfl) ?_ n2 ?_
      · show (if numE kwA (kwA ++ Lib.itoa x.x) ≠ 0 then _ else _) = _
        rw [if_neg (by rw [n1]; simp)]
        exact m1
      · show (if numE kwA (kwA ++ Lib.itoa x.x) ≠ 0 then _ else _) = _
        rw [if_neg (by rw [n1]; simp)]
        exact m2)
  have s4 := seg (ix := ix) (chWords g) [] g.h (fun k => ⟨g.c, g.l, g.o, g.h.take k⟩) (0 + g.c.length + g.l.length + g.o.length) ph (fun k x hx => by
    obtain ⟨b1, b2, b3, b4⟩ := ch_range h (List.mem_of_getElem? hx)
    obtain ⟨e1, e2⟩ := pl_front (ix := ix) [] g.on (nameO g x.f) (ix_here hi no (nameO_at _ b1 b2).1)
    obtain ⟨e3, e4⟩ := pl_front (ix := ix) [] g.on (nameO g x.t) (ix_here hi no (nameO_at _ b3 b4).1)
    rw [List.nil_append] at e1 e2 e3 e4
    unfold lineF chWords
    dsimp only
    rw [if_neg (by decide), if_neg (by decide), if_neg (by decide), if_pos rfl]
    unfold chF
    dsimp only
    rw [if_neg (by rw [show plE ix [] (g.o.map (·.n)) (nameO g x.f) = 0 from e1]; simp), if_neg (by simp), if_neg (by rw [show plE ix [] (g.o.map (·.n)) (nameO g x.t) = 0 from e3]; simp), show plV ix [] (g.o.map (·.n)) (nameO g x.f) = x.f.toNat from e2, show plV ix [] (g.o.map (·.n)) (nameO g x.t) = x.t.toNat from e4, take_snoc hx, show ((x.f.toNat : Nat) : Int) = x.f by omega, show ((x.t.toNat : Nat) : Int) = x.t by omega])
  simp only [List.take_zero, List.take_length] at s1 s2 s3 s4
  rw [show noG = (⟨[], [], [], []⟩ : Gr) from rfl, s1, s2, s3, s4]
  unfold parseF
  rw [show (⟨g.c, g.l, g.o, g.h⟩ : Gr) = g from rfl, if_neg (by rw [h]; simp)]
/-- What is read of a text is a graph with nothing wrong, or none. -/
theorem parse_ok {ix : List Bs → Bs → Option Nat} : ∀ (L : List Bs) (i : Nat) (g : Gr), (parseF ix L i g).2.2 = 0 → checkE (parseF ix L i g).1 = 0 ∧ (parseF ix L i g).2.1 = 0
  | [], i, g, h => by
    unfold parseF at h ⊢
    split
    · rename_i h1
      rw [if_pos h1] at h
      exact absurd h h1
    · rename_i h1
      exact ⟨by simpa using h1, rfl⟩
  | l :: r, i, g, h => by
    unfold parseF at h ⊢
    split
    · rename_i h1
      rw [if_pos h1] at h
      exact absurd h h1
    · rename_i h1
      rw [if_neg h1] at h
      exact parse_ok r (i + 1) _ h
theorem parse_bad {ix : List Bs → Bs → Option Nat} : ∀ (L : List Bs) (i : Nat) (g : Gr), (parseF ix L i g).2.2 ≠ 0 → (parseF ix L i g).1 = noG
  | [], i, g, h => by
    unfold parseF at h ⊢
    split
    · rfl
    · rename_i h1
      rw [if_neg h1] at h
      exact absurd rfl h
  | l :: r, i, g, h => by
    unfold parseF at h ⊢
    split
    · rfl
    · rename_i h1
      rw [if_neg h1] at h
      exact parse_bad r (i + 1) _ h
end Go.Proofs.YtpblpjopinllcaaGreatDoor.graph
