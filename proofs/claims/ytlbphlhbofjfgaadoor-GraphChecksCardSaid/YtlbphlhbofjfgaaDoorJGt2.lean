/-
  graph.Text (by gen_gtx.py).
-/
import Derived.Test.YtlbphlhbofjfgaaDoorJGt1o
import Derived.Test.YtlbphlhbofjfgaaDoorJGk
import Derived.Deep.CutRange
namespace Go.Proofs.YtlbphlhbofjfgaaDoor.graph
open Go.ChangeShapes Go.WideShapes Go.ChangeAt Go.RowKit Go.Shelf
open Go.Proofs.YtlbphlhbofjfgaaDoor.opened Go.Proofs.YtlbphlhbofjfgaaDoor.block Go.Proofs.YtlbphlhbofjfgaaDoor.words Go.Proofs.YtlbphlhbofjfgaaDoor.region
def textV (g : Gr) : Bs := if checkE g = 0 then textG g else []
theorem BL.made (w : World) : BL (w.alloc (.cells #[.pointer none, .slice none 0 0] 81)) w.heap.size w.heap.size [] :=
  ⟨.inl ⟨Nat.le_refl _, .slice none 0 0, Whole.fresh w _ _, World.ownsRow_nil _ _ _ _, by simp [Value.ownBlock]⟩, by simp⟩
theorem name_len {s : Bs} (h : nameB s = true) : s.length ≤ 12 := by
  unfold nameB at h
  simp at h
  exact h.1
theorem nameE_zero {M : List Bs} {s : Bs} (h : nameE M s = 0) : nameB s = true := by
  unfold nameE at h
  split at h
  · cases h
  · rename_i k; simpa using k
theorem cl_name {g : Gr} (h : checkE g = 0) {i : Nat} {x : Cl} (hx : g.c[i]? = some x) : x.n.length ≤ 12 := by
  have z := first_zero (check_parts h).2.1 i (List.getElem?_eq_some_iff.1 hx).1
  unfold clE at z
  rw [hx] at z
  dsimp only at z
  split at z
  · rename_i n0; exact absurd z n0
  · rename_i n0; exact name_len (nameE_zero (Classical.not_not.1 n0))
theorem upto_le {α : Type} {L : List α} {f : α → Bs} {m : Nat} (h : ∀ x ∈ L, (f x).length ≤ m) (i : Nat) : (upto L f i).length ≤ L.length * m := by
  unfold upto
  have : ∀ N : List α, (∀ x ∈ N, (f x).length ≤ m) → ((N.map f).flatten).length ≤ N.length * m := by
    intro N
    induction N with
    | nil => simp
    | cons y r ih =>
      intro hN
      have h1 := hN y (by simp)
      have h2 := ih (fun z hz => hN z (by simp [hz]))
      simp only [List.map_cons, List.flatten_cons, List.length_append, List.length_cons, Nat.add_mul, Nat.one_mul]
      omega
  refine Nat.le_trans (this _ (fun x hx => h x (List.mem_of_mem_take hx))) (Nat.mul_le_mul_right m ?_)
  rw [List.length_take]
  exact Nat.min_le_right _ _
theorem lo_name {g : Gr} (h : checkE g = 0) {x : Lo} (hx : x ∈ g.l) : x.n.length ≤ 12 := by
  obtain ⟨i, hi, e⟩ := List.getElem_of_mem hx
  have z := first_zero (check_parts h).2.2.1 i hi
  unfold loE at z
  rw [List.getElem?_eq_getElem hi, e] at z
  dsimp only at z
  split at z
  · rename_i n0; exact absurd z n0
  · rename_i n0; exact name_len (nameE_zero (Classical.not_not.1 n0))
theorem cl_name' {g : Gr} (h : checkE g = 0) {x : Cl} (hx : x ∈ g.c) : x.n.length ≤ 12 := by
  obtain ⟨i, hi, e⟩ := List.getElem_of_mem hx
  exact cl_name h (i := i) (by rw [List.getElem?_eq_getElem hi, e])
theorem oq_name {g : Gr} (h : checkE g = 0) {x : Oq} (hx : x ∈ g.o) : x.n.length ≤ 12 := by
  obtain ⟨i, hi, e⟩ := List.getElem_of_mem hx
  exact name_len (nameE_zero (oq_parts h (i := i) (by rw [List.getElem?_eq_getElem hi, e])).1)
theorem inW_len {g : Gr} (h : checkE g = 0) (k : Int) : (inW g k).length ≤ 15 := by
  unfold inW
  rw [List.length_append]
  split
  · simp
  · split
    · simp
    · rename_i x hx
      have := lo_name h (List.mem_of_getElem? hx)
      simp
      omega
theorem nameC_len {g : Gr} (h : checkE g = 0) (k : Int) : (nameC g k).length ≤ 12 := by
  unfold nameC
  split
  · simp
  · rename_i x hx; exact cl_name' h (List.mem_of_getElem? hx)
theorem nameO_len {g : Gr} (h : checkE g = 0) (k : Int) : (nameO g k).length ≤ 12 := by
  unfold nameO
  split
  · simp
  · rename_i x hx; exact oq_name h (List.mem_of_getElem? hx)
theorem wordB_len (k : Int) : (wordB k).length ≤ 7 := by
  unfold wordB
  by_cases h : 1 ≤ k ∧ k ≤ 14
  · obtain ⟨m, rfl⟩ : ∃ m : Nat, k = m := ⟨k.toNat, by omega⟩
    rcases (show m = 1 ∨ m = 2 ∨ m = 3 ∨ m = 4 ∨ m = 5 ∨ m = 6 ∨ m = 7 ∨ m = 8 ∨ m = 9 ∨ m = 10 ∨ m = 11 ∨ m = 12 ∨ m = 13 ∨ m = 14 by omega) with rfl | rfl | rfl | rfl | rfl | rfl | rfl | rfl | rfl | rfl | rfl | rfl | rfl | rfl
    all_goals decide
  · repeat rw [if_neg (by omega)]
    decide
theorem cl_sp {g : Gr} (h : checkE g = 0) (I : g.In) : ∀ x ∈ g.c, (sp (clWords x)).length ≤ 300 := fun x hx => by
  have h1 := cl_name' h hx
  have h2 := Lib.itoa_length_le x.w (I.c x hx).1 (I.c x hx).2
  refine sp_len (by simp [clWords]) fun y hy => ?_
  simp [clWords] at hy
  rcases hy with rfl | rfl | rfl
  · simp
  · omega
  · simp; omega
theorem lo_sp {g : Gr} (h : checkE g = 0) (I : g.In) : ∀ x ∈ g.l, (sp (loWords g x)).length ≤ 300 := fun x hx => by
  have h1 := lo_name h hx
  have h2 := Lib.itoa_length_le x.r (I.l x hx).2.1 (I.l x hx).2.2
  have h3 := inW_len h x.u
  refine sp_len (by simp [loWords]) fun y hy => ?_
  simp [loWords] at hy
  rcases hy with rfl | rfl | rfl | rfl
  · simp
  · omega
  · omega
  · simp; omega
theorem oq_sp {g : Gr} (h : checkE g = 0) (I : g.In) : ∀ x ∈ g.o, (sp (oqWords g x)).length ≤ 300 := fun x hx => by
  have h1 := oq_name h hx
  obtain ⟨_, _, _, ⟨a0, a1⟩, b0, b1⟩ := I.o x hx
  have h2 := Lib.itoa_length_le x.x a0 a1
  have h3 := Lib.itoa_length_le x.y b0 b1
  have h4 := inW_len h x.l
  have h5 := nameC_len h x.a
  have h6 := wordB_len x.k
  refine sp_len ?_ fun y hy => ?_
  · unfold oqWords
    rw [List.length_append, List.length_take]
    simp
    omega
  · unfold oqWords at hy
    rcases List.mem_append.1 hy with hy | hy
    · simp at hy
      rcases hy with rfl | rfl | rfl | rfl | rfl
      · simp
      · omega
      · omega
      · omega
      · simp; omega
    · have := List.mem_of_mem_take hy
      simp at this
      rcases this with rfl | rfl
      · simp; omega
      · simp; omega
theorem ch_sp {g : Gr} (h : checkE g = 0) : ∀ x ∈ g.h, (sp (chWords g x)).length ≤ 300 := fun x hx => by
  have h1 := nameO_len h x.f
  have h2 := nameO_len h x.t
  refine sp_len (by simp [chWords]) fun y hy => ?_
  simp [chWords] at hy
  rcases hy with rfl | rfl | rfl | rfl
  · simp
  · omega
  · simp
  · omega
theorem sp_join {l : List Bs} (h : (sp l).length ≤ 300) : (Lib.join l [32]).length ≤ 1000000 := by
  unfold sp at h
  rw [List.length_append] at h
  omega
theorem ch_range {g : Gr} (h : checkE g = 0) {x : Ch} (hx : x ∈ g.h) : 0 ≤ x.f ∧ x.f < g.o.length ∧ 0 ≤ x.t ∧ x.t < g.o.length := by
  obtain ⟨i, hi, e⟩ := List.getElem_of_mem hx
  have z := first_zero (check_parts h).2.2.2.2 i hi
  unfold chE at z
  rw [List.getElem?_eq_getElem hi, e] at z
  dsimp only at z
  split at z
  · cases z
  · omega
theorem lo_range {g : Gr} (h : checkE g = 0) {x : Lo} (hx : x ∈ g.l) : -1 ≤ x.u ∧ x.u < g.l.length := by
  obtain ⟨i, hi, e⟩ := List.getElem_of_mem hx
  have := up_of (check_parts h).2.2.1 i x hi (by rw [List.getElem?_eq_getElem hi, e])
  omega
set_option maxRecDepth 100000 in
set_option maxHeartbeats 2000000 in
theorem text_any (v : Gv) (g : Gr) (F : Fit v g) (I : g.In) (w : World) (h : Lies4 w v g) (K : KT w) (T10 : Tab10 w) :
    Calls Tryd.prog 7 #[gV v g] w fun e w' => e = .returned (.tuple #[sV (textV g), .int .i64 (checkE g)]) ∧ Below w.heap.size w w' := by
  have CK := fun w1 (h1 : Lies4 w1 v g) (k1 : KT w1) => check_any v g F I w1 h1 k1
  have IW := fun (k : Int) (h0 : -1 ≤ k) (h1 : k < g.l.length) w1 (hl : Lies4 w1 v g) => inWord_any v g F.l k h0 h1 w1 hl
  have FL := F.l
  have FC := F.c
  obtain ⟨va, vb, vd, ve, vi, vj, vk, vm⟩ := v
  unfold gV at CK IW ⊢
  dsimp only at CK IW ⊢
  replace CK := Lib.hid CK
  replace IW := Lib.hid IW
  obtain ⟨E, hE⟩ : ∃ E, checkE g = E := ⟨_, rfl⟩
  obtain ⟨X, hX⟩ : ∃ X, textV g = X := ⟨_, rfl⟩
  rw [hE, hX]
  have hB := Lib.hid (fresh1 w (.cells #[.slice va g.c.length vi, .slice vb g.l.length vj, .slice vd g.o.length vk, .slice ve g.h.length vm] 34))
  have OX := Lib.hid (Whole.fresh w 34 #[.slice va g.c.length vi, .slice vb g.l.length vj, .slice vd g.o.length vk, .slice ve g.h.length vm])
  have H0 := Lib.hid h
  have K0 := Lib.hid K
  have T0 := Lib.hid T10
  have H1 := Lib.hid (h.below hB.out)
  have K1 := Lib.hid (K.below hB.out)
  clear h K T10
  go_enter Tryd.func7, Tryd.ntmps7
  go_upto_region 1 with fail
  change Code.wp _ _ _ _ (w.alloc (.cells #[.slice va g.c.length vi, .slice vb g.l.length vj, .slice vd g.o.length vk, .slice ve g.h.length vm] 34))
  generalize w.alloc (.cells #[.slice va g.c.length vi, .slice vb g.l.length vj, .slice vd g.o.length vk, .slice ve g.h.length vm] 34) = w1 at OX hB H1 K1 ⊢
  obtain ⟨gg, hgg⟩ : ∃ gg, w.heap.size = gg := ⟨_, rfl⟩
  rw [hgg] at OX ⊢
  replace hgg := Lib.hid hgg
  have k := OX.out.read
  have k0 : w1.cell? ⟨gg, 0, none⟩ = some (.slice va g.c.length vi) := k 0
  have k1 : w1.cell? ⟨gg, 1, none⟩ = some (.slice vb g.l.length vj) := k 1
  have k2 : w1.cell? ⟨gg, 2, none⟩ = some (.slice vd g.o.length vk) := k 2
  have k3 : w1.cell? ⟨gg, 3, none⟩ = some (.slice ve g.h.length vm) := k 3
  clear k
  replace CK := Lib.hid (CK.out w1 H1.out K1.out)
  rw [hE] at CK
  by_cases q : E = 0
  case neg =>
    obtain rfl : [] = X := by rw [← hX]; unfold textV; rw [if_neg (by rw [hE]; exact q)]
    have nb : (E == 0) = false := by rw [beq_eq_false_iff_ne]; exact q
    clear hE hX q IW
    go_wp2_with (go_at_call 9; refine CK.out.mono ?_; rintro e w2 ⟨rfl, b2⟩)
    go_ret2
    exact ⟨rfl, hB.out.trans (b2.mono hB.out.size)⟩
  subst q
  obtain ⟨q1, q2, q3, q4, q5⟩ := check_parts hE
  obtain ⟨z1, z2, z3, z4, z5, z6⟩ := sizes_of q1
  have HC := Lib.hid hE
  replace hX : textG g = X := by rw [← hX]; unfold textV; rw [if_pos hE]
  replace hX := Lib.hid hX
  clear hE
  go_upto_region 4 with (go_at_call 9; refine CK.out.mono ?_; rintro e w2 ⟨rfl, b2⟩)
  have B2 := Lib.hid (hB.out.trans (b2.mono hB.out.size))
  have OX2 := Lib.hid (OX.out.below b2 OX.out.inside)
  clear k0 k1 k2 k3 CK b2 OX hB H1 K1
  go_upto_region 5 with fail
  change Code.wp _ _ _ _ (w2.alloc (.cells #[.pointer none, .slice none 0 0] 81))
  have b3 := fresh1 w2 (.cells #[.pointer none, .slice none 0 0] 81)
  have BL3 := BL.made w2
  have hgb := OX2.out.inside
  have OX3 := Lib.hid (OX2.out.below b3 OX2.out.inside)
  have B3 := Lib.hid (B2.out.trans (b3.mono B2.out.size))
  clear OX2 B2
  generalize w2.alloc (.cells #[.pointer none, .slice none 0 0] 81) = w3 at b3 BL3 OX3 B3 ⊢
  have hb3 := b3.size
  generalize w2.heap.size = bb at BL3 hgb hb3 ⊢
  clear b3
  replace BL3 := Lib.hid BL3
  have GGB := Lib.hid hgb
  have HB3 := Lib.hid hb3
  clear hgb hb3
  have GG : ∀ w7, Below bb w3 w7 → ∀ i, w7.cell? ⟨gg, i, none⟩ = #[.slice va g.c.length vi, .slice vb g.l.length vj, .slice vd g.o.length vk, .slice ve g.h.length vm][i]? := fun w7 h7 => (OX3.out.below h7 GGB.out).read
  have HW : ∀ w7, Below bb w3 w7 → Below w.heap.size w w7 := fun w7 h7 => B3.out.trans (h7.mono (by have := GGB.out; have := hgg.out; omega))
  have TB : ∀ w7, Below bb w3 w7 → Tab10 w7 := fun w7 h7 => T0.out.below (HW w7 h7)
  have HL : ∀ w7, Below bb w3 w7 → Lies4 w7 ⟨va, vb, vd, ve, vi, vj, vk, vm⟩ g := fun w7 h7 => H0.out.below (HW w7 h7)
  replace GG := Lib.hid GG
  replace HW := Lib.hid HW
  replace TB := Lib.hid TB
  replace HL := Lib.hid HL
  have k0 : w3.cell? ⟨gg, 0, none⟩ = some (.slice va g.c.length vi) := GG.out w3 (Below.refl _ _) 0
  go_upto_region 6 with fail
  clear k0
  go_wp2_with fail
  obtain ⟨A0, hA0⟩ : ∃ A0, A0 = ([] : Bs) := ⟨_, rfl⟩
  go_loopw [22] (fun a wr => ∃ i : Nat, i ≤ g.c.length ∧ a = .int .i64 i ∧ Hid (BL wr bb bb (A0 ++ upto g.c (fun x => sp (clWords x)) i)) ∧ Hid (Below bb w3 wr)) (fun a _ => (g.c.length - intOf a).toNat)
  case atStart => exact ⟨0, by omega, rfl, by rw [upto_zero, List.append_nil, hA0]; exact BL3, Lib.hid (Below.refl _ _)⟩
  have HA0 := Lib.hid hA0
  have LA0 : Hid (A0.length ≤ 0) := Lib.hid (by rw [hA0]; simp)
  clear hA0
  case round =>
    obtain ⟨i, hi, rfl, BLr, Br⟩ := hrel
    by_cases hin : i = g.c.length
    case neg =>
      have hlt : i < g.c.length := by omega
      obtain ⟨x, hx⟩ : ∃ x, g.c[i]? = some x := ⟨g.c[i], List.getElem?_eq_getElem hlt⟩
      obtain ⟨b1, o1, hA, hb1, c0, c1⟩ := at_cl (HL.out wr Br.out).c hx
      change va = _ at hA
      subst hA
      have hxm := List.mem_of_getElem? hx
      have LEN : Hid ((A0 ++ upto g.c (fun x => sp (clWords x)) i).length ≤ 1000000 ∧ (Lib.join (clWords x) [32]).length ≤ 1000000) := Lib.hid ⟨by
        have h1 := upto_le (L := g.c) (f := fun x => sp (clWords x)) (cl_sp HC.out I) i
        have h2 := LA0.out
        have h3 : g.c.length * 300 ≤ 48 * 300 := Nat.mul_le_mul_right 300 (by omega)
        rw [List.length_append]
        omega, sp_join (cl_sp HC.out I x hxm)⟩
      have HX := Lib.hid (upto_next (f := fun x => sp (clWords x)) hx)
      obtain ⟨n0, n1⟩ := I.c x hxm
      have NB := Lib.hid (fun w (ht : Tab10 w) => number9_any x.w n0 n1 w ht)
      have LENN := Lib.itoa_length_le x.w n0 n1
      clear n0 n1
      obtain ⟨L, hL⟩ : ∃ L, A0 ++ upto g.c (fun x => sp (clWords x)) i = L := ⟨_, rfl⟩
      rw [hL] at BLr LEN
      have HX' : Hid (A0 ++ upto g.c (fun x => sp (clWords x)) (i + 1) = L ++ sp (clWords x)) := Lib.hid (by rw [HX.out, ← List.append_assoc, hL])
      clear hx hxm hL HX
      have HX := HX'
      clear HX'
      go_upto_region 8 with fail
      change Code.wp _ _ _ _ (wr.alloc (.cells #[sV x.n, .int .i64 x.w] 72))
      have bx := fresh1 wr (.cells #[sV x.n, .int .i64 x.w] 72)
      have RX := Lib.hid (Whole.fresh wr 72 #[sV x.n, .int .i64 x.w])
      have BLX := Lib.hid (BLr.out.below bx)
      have BX := Lib.hid (Br.out.trans (bx.mono BLr.out.2))
      have HBX := Lib.hid BLX.out.2
      clear BLr Br c0 c1 hb1 bx
      generalize wr.alloc (.cells #[sV x.n, .int .i64 x.w] 72) = wx at RX BLX BX HBX ⊢
      generalize wr.heap.size = r at RX ⊢
      refine region_full 92 [] [(7, 1), (7, 3)] (fun k => k == 1 || k == 3 || k == 7) (fun w7 => Below bb w3 w7 ∧ wx.heap.size ≤ w7.heap.size) ?hR ?r0 [pdOne 0 (Is (.pointer (some ⟨r, 0, none⟩))), pdOne 1 (Is (sV x.n)), pdOne 2 (Is (.pointer (some ⟨r, 1, none⟩))), pdOne 3 (Is (.int .i64 x.w)), pdOne 4 (Is (sV (Lib.itoa x.w))), pdOne 5 (Is (sV ([119, 111, 114, 107, 101, 114, 115, 61] ++ Lib.itoa x.w))), pdOne 6 (LoneS wx.heap.size (clWords x) (fun w => BL w bb bb (L ++ sp (clWords x)))), pdOne 7 (fun _ w => BL w bb bb (L ++ sp (clWords x)))] (fun k w7 => (k = 1 ∨ k = 3 → Whole w7 r 72 #[sV x.n, .int .i64 x.w]) ∧ (k = 7 → BL w7 bb bb L)) (by kernel_rfl) rfl (by kernel_rfl) (by kernel_rfl) (by kernel_rfl) (by kernel_rfl) ?keep ?hO ?h0 ?tell
      case hR => exact fun w7 w8 hb ⟨h1, h2⟩ => ⟨h1.trans (hb.mono (Nat.le_trans HBX.out h2)), Nat.le_trans h2 hb.size⟩
      case r0 => exact ⟨BX.out, Nat.le_refl _⟩
      case keep => exact ⟨keep_one (keeps_is _), keep_one (keeps_is _), keep_one (keeps_is _), keep_one (keeps_is _), keep_one (keeps_is _), keep_one (keeps_is _), keep_one (fun _ _ _ hb h => h.imp fun gx h => ⟨h.1, h.2.1, h.2.2.imp (fun k => k.below hb k.inside) (fun k => BL.below k hb)⟩), keep_one (fun _ _ _ hb h => BL.below h hb), trivial⟩
      case hO => exact fun k w7 w8 hb ⟨h1, h2⟩ => ⟨fun e => (h1 e).below hb (h1 e).inside, fun e => BL.below (h2 e) hb⟩
      case h0 => exact fun k _ => ⟨fun _ => RX.out, fun _ => BLX.out⟩
      case tell =>
        intro fin hfin
        simp [lexPut, Act.put] at hfin
        simp only [TellF]
        refine ⟨⟨?_, ?_, ?_, ?_, ?_, ?_, ?_, ?_, trivial⟩, ?_⟩
        · intro v2 w7 hr hd
          refine yields_run (u := .pointer (some ⟨r, 0, none⟩)) (w' := w7) ?_ (Below.refl _ _) rfl
          unfold execOp
          simp [go_sem, Act.eval]
        · intro v2 w7 hr ho hd
          have h0 : v2 0 = _ := hd 0 (by kernel_rfl)
          have c0 := ((ho.1 (by decide)).read 0)
          refine .inl (.inl ⟨sV x.n, w7, ?_, hr, fun _ _ _ _ hu => hu, fun _ _ _ _ hu => hu, rfl⟩)
          unfold execOp
          simp [go_sem, Act.eval, Act.put, h0, c0]
        · intro v2 w7 hr hd
          refine yields_run (u := .pointer (some ⟨r, 1, none⟩)) (w' := w7) ?_ (Below.refl _ _) rfl
          unfold execOp
          simp [go_sem, Act.eval, Act.put]
        · intro v2 w7 hr ho hd
          have h2 : v2 2 = _ := hd 2 (by kernel_rfl)
          have c0 := ((ho.1 (by decide)).read 1)
          refine .inl (.inl ⟨.int .i64 x.w, w7, ?_, hr, fun _ _ _ _ hu => hu, fun _ _ _ _ hu => hu, rfl⟩)
          unfold execOp
          simp [go_sem, Act.eval, Act.put, h2, c0]
        · intro v2 w7 hr hd
          have h3 : v2 3 = _ := hd 3 (by kernel_rfl)
          refine yields_call (f := 24) rfl (vs := #[.int .i64 x.w]) (by simp [Act.eval, Act.put, h3]) rfl Tryd.func24 (by kernel_rfl) (by kernel_rfl) ((NB.out w7 (TB.out w7 hr.1)).mono fun e w8 ⟨he, hb⟩ => ⟨_, he, hb, rfl⟩)
        · intro v2 w7 hr hd
          have h4 : v2 4 = _ := hd 4 (by kernel_rfl)
          have ha : ({ data := #[119, 111, 114, 107, 101, 114, 115, 61] } : ByteArray) ++ { data := (Lib.itoa x.w).toArray } = ⟨([119, 111, 114, 107, 101, 114, 115, 61] ++ Lib.itoa x.w).toArray⟩ := str_app9 [119, 111, 114, 107, 101, 114, 115, 61] (Lib.itoa x.w)
          refine yields_run (u := sV ([119, 111, 114, 107, 101, 114, 115, 61] ++ Lib.itoa x.w)) (w' := w7) ?_ (Below.refl _ _) rfl
          unfold execOp
          simp [go_sem, Act.eval, Act.put, h4, ha]
          omega
        · intro v2 w7 hr hd
          have h1 : v2 1 = _ := hd 1 (by kernel_rfl)
          have h5 : v2 5 = _ := hd 5 (by kernel_rfl)
          refine yields_run (u := .slice (some ⟨w7.heap.size, 0, none⟩) ((clWords x)).length ((clWords x)).length) (w' := w7.alloc (.cells (((clWords x)).map sV).toArray 9)) ?_ (fresh1 w7 _) ⟨w7.heap.size, rfl, hr.2, .inl (Whole.fresh w7 _ _)⟩
          unfold execOp
          simp [go_sem, Act.eval, Act.put, h1, h5, clWords]
        · intro v2 w7 hr ho hd
          obtain ⟨gy, hz, hyl, hw⟩ : LoneS wx.heap.size (clWords x) (fun w => BL w bb bb (L ++ sp (clWords x))) (v2 6) w7 := hd 6 (by kernel_rfl)
          have hw := hw.resolve_right (fun k => by have := BL.len (ho.2 trivial) k; simp [sp] at this)
          refine .inl (yieldsW_callR (f := 23) rfl (vs := #[.pointer (some ⟨bb, 0, none⟩), .slice (some ⟨gy, 0, none⟩) (clWords x).length (clWords x).length]) (by simp [Act.eval, Act.put, hz]) rfl Tryd.func23 (by kernel_rfl) (by kernel_rfl) ?_)
          refine (line_any bb bb L gy (clWords x) _ (Nat.le_refl _) (by simp [clWords]) LEN.out.1 LEN.out.2 w7 (ho.2 trivial) hw).mono fun e1 w8 ⟨he1, hb8, hB8⟩ => ⟨_, he1, ⟨hr.1.trans hB8, Nat.le_trans hr.2 hB8.size⟩, ?_, ?_, hb8⟩
          · intro k2 v' hk2 hc hu
            exact match k2, hk2, hc, hu with
              | 0, _, _, hu => hu
              | 1, _, _, hu => hu
              | 2, _, _, hu => hu
              | 3, _, _, hu => hu
              | 4, _, _, hu => hu
              | 5, _, _, hu => hu
              | 6, _, _, ⟨gy, h1, h2, _⟩ => ⟨gy, h1, h2, .inr hb8⟩
              | 7, hk2, _, _ => absurd rfl hk2
              | _ + 8, _, _, _ => trivial
          · intro k2 hk2 hn hc2 ⟨h1, h2⟩
            exact ⟨fun e => by first | (rcases e with rfl | rfl <;> exact absurd hc2 (by decide)) | exact absurd e (by decide), fun e => absurd e hk2⟩
        · intro v2 w7 hr hv
          have hb9 : BL w7 bb bb (L ++ sp (clWords x)) := hv 7 (by decide)
          have hR := hr.1
          rw [hfin]
          clear hfin hv hr
          generalize v2 6 = v6
          generalize v2 7 = v7
          go_wp2_with fail
          go_roundw
          case rel => exact ⟨i + 1, hlt, by go_num, by rw [HX.out]; exact Lib.hid hb9, Lib.hid hR⟩
          case measure => simp [intOf]; omega
    subst hin
    have hlt : ¬ ((g.c.length : Int) < g.c.length) := by omega
    rw [upto_all] at BLr
    have LB0 : (A0 ++ (g.c.map (fun x => sp (clWords x))).flatten).length ≤ 100000 := by
      have h1 := upto_le (L := g.c) (f := fun x => sp (clWords x)) (cl_sp HC.out I) g.c.length
      have h2 := LA0.out
      have h3 : g.c.length * 300 ≤ 48 * 300 := Nat.mul_le_mul_right 300 (by omega)
      rw [upto_all] at h1
      rw [List.length_append]
      omega
    obtain ⟨u0, hnw⟩ : ∃ u0, u0 = wr := ⟨_, rfl⟩
    subst hnw
    have k0 : u0.cell? ⟨gg, 1, none⟩ = some (.slice vb g.l.length vj) := GG.out u0 Br.out 1
    go_upto_region 11 with fail
    clear k0
    go_wp2_with fail
    obtain ⟨A1, hA1⟩ : ∃ A1, A1 = A0 ++ (g.c.map (fun x => sp (clWords x))).flatten := ⟨_, rfl⟩
    go_loopw [38] (fun a wr => ∃ i : Nat, i ≤ g.l.length ∧ a = .int .i64 i ∧ Hid (BL wr bb bb (A1 ++ upto g.l (fun x => sp (loWords g x)) i)) ∧ Hid (Below bb w3 wr)) (fun a _ => (g.l.length - intOf a).toNat)
    case atStart => exact ⟨0, by omega, rfl, by rw [upto_zero, List.append_nil, hA1]; exact BLr, Br⟩
    have HA1 := Lib.hid hA1
    have LA1 : Hid (A1.length ≤ 100000) := Lib.hid (by rw [hA1]; exact LB0)
    clear hA1
    case round =>
      obtain ⟨i, hi, rfl, BLr, Br⟩ := hrel
      by_cases hin : i = g.l.length
      case neg =>
        have hlt : i < g.l.length := by omega
        obtain ⟨x, hx⟩ : ∃ x, g.l[i]? = some x := ⟨g.l[i], List.getElem?_eq_getElem hlt⟩
        obtain ⟨b1, o1, hA, hb1, c0, c1, c2⟩ := at_lo (HL.out wr Br.out).l hx
        change vb = _ at hA
        subst hA
        have hxm := List.mem_of_getElem? hx
        have LEN : Hid ((A1 ++ upto g.l (fun x => sp (loWords g x)) i).length ≤ 1000000 ∧ (Lib.join (loWords g x) [32]).length ≤ 1000000) := Lib.hid ⟨by
          have h1 := upto_le (L := g.l) (f := fun x => sp (loWords g x)) (lo_sp HC.out I) i
          have h2 := LA1.out
          have h3 : g.l.length * 300 ≤ 48 * 300 := Nat.mul_le_mul_right 300 (by omega)
          rw [List.length_append]
          omega, sp_join (lo_sp HC.out I x hxm)⟩
        have HX := Lib.hid (upto_next (f := fun x => sp (loWords g x)) hx)
        obtain ⟨-, n0, n1⟩ := I.l x hxm
        have NB := Lib.hid (fun w (ht : Tab10 w) => number9_any x.r n0 n1 w ht)
        have LENN := Lib.itoa_length_le x.r n0 n1
        obtain ⟨u0, u1⟩ := lo_range HC.out hxm
        have IWX := Lib.hid (IW.out x.u u0 u1)
        clear n0 n1 u0 u1
        obtain ⟨L, hL⟩ : ∃ L, A1 ++ upto g.l (fun x => sp (loWords g x)) i = L := ⟨_, rfl⟩
        rw [hL] at BLr LEN
        have HX' : Hid (A1 ++ upto g.l (fun x => sp (loWords g x)) (i + 1) = L ++ sp (loWords g x)) := Lib.hid (by rw [HX.out, ← List.append_assoc, hL])
        clear hx hxm hL HX
        have HX := HX'
        clear HX'
        go_upto_region 13 with fail
        change Code.wp _ _ _ _ (wr.alloc (.cells #[sV x.n, .int .i64 x.u, .int .i64 x.r] 73))
        have bx := fresh1 wr (.cells #[sV x.n, .int .i64 x.u, .int .i64 x.r] 73)
        have RX := Lib.hid (Whole.fresh wr 73 #[sV x.n, .int .i64 x.u, .int .i64 x.r])
        have BLX := Lib.hid (BLr.out.below bx)
        have BX := Lib.hid (Br.out.trans (bx.mono BLr.out.2))
        have HBX := Lib.hid BLX.out.2
        clear BLr Br c0 c1 c2 hb1 bx
        generalize wr.alloc (.cells #[sV x.n, .int .i64 x.u, .int .i64 x.r] 73) = wx at RX BLX BX HBX ⊢
        generalize wr.heap.size = r at RX ⊢
        refine region_full 92 [] [(11, 1), (11, 4), (11, 7)] (fun k => k == 1 || k == 4 || k == 7 || k == 11) (fun w7 => Below bb w3 w7 ∧ wx.heap.size ≤ w7.heap.size) ?hR ?r0 [pdOne 0 (Is (.pointer (some ⟨r, 0, none⟩))), pdOne 1 (Is (sV x.n)), pdOne 2 (Is (.agg #[.slice va g.c.length vi, .slice (some ⟨b1, o1, none⟩) g.l.length vj, .slice vd g.o.length vk, .slice ve g.h.length vm])), pdOne 3 (Is (.pointer (some ⟨r, 1, none⟩))), pdOne 4 (Is (.int .i64 x.u)), pdOne 5 (Is (sV (inW g x.u))), pdOne 6 (Is (.pointer (some ⟨r, 2, none⟩))), pdOne 7 (Is (.int .i64 x.r)), pdOne 8 (Is (sV (Lib.itoa x.r))), pdOne 9 (Is (sV ([114, 111, 117, 110, 100, 115, 61] ++ Lib.itoa x.r))), pdOne 10 (LoneS wx.heap.size (loWords g x) (fun w => BL w bb bb (L ++ sp (loWords g x)))), pdOne 11 (fun _ w => BL w bb bb (L ++ sp (loWords g x)))] (fun k w7 => (k = 1 ∨ k = 4 ∨ k = 7 → Whole w7 r 73 #[sV x.n, .int .i64 x.u, .int .i64 x.r]) ∧ (k = 11 → BL w7 bb bb L)) (by kernel_rfl) rfl (by kernel_rfl) (by kernel_rfl) (by kernel_rfl) (by kernel_rfl) ?keep ?hO ?h0 ?tell
        case hR => exact fun w7 w8 hb ⟨h1, h2⟩ => ⟨h1.trans (hb.mono (Nat.le_trans HBX.out h2)), Nat.le_trans h2 hb.size⟩
        case r0 => exact ⟨BX.out, Nat.le_refl _⟩
        case keep => exact ⟨keep_one (keeps_is _), keep_one (keeps_is _), keep_one (keeps_is _), keep_one (keeps_is _), keep_one (keeps_is _), keep_one (keeps_is _), keep_one (keeps_is _), keep_one (keeps_is _), keep_one (keeps_is _), keep_one (keeps_is _), keep_one (fun _ _ _ hb h => h.imp fun gx h => ⟨h.1, h.2.1, h.2.2.imp (fun k => k.below hb k.inside) (fun k => BL.below k hb)⟩), keep_one (fun _ _ _ hb h => BL.below h hb), trivial⟩
        case hO => exact fun k w7 w8 hb ⟨h1, h2⟩ => ⟨fun e => (h1 e).below hb (h1 e).inside, fun e => BL.below (h2 e) hb⟩
        case h0 => exact fun k _ => ⟨fun _ => RX.out, fun _ => BLX.out⟩
        case tell =>
          intro fin hfin
          simp [lexPut, Act.put] at hfin
          simp only [TellF]
          refine ⟨⟨?_, ?_, ?_, ?_, ?_, ?_, ?_, ?_, ?_, ?_, ?_, ?_, trivial⟩, ?_⟩
          · intro v2 w7 hr hd
            refine yields_run (u := .pointer (some ⟨r, 0, none⟩)) (w' := w7) ?_ (Below.refl _ _) rfl
            unfold execOp
            simp [go_sem, Act.eval]
          · intro v2 w7 hr ho hd
            have h0 : v2 0 = _ := hd 0 (by kernel_rfl)
            have c0 := ((ho.1 (by decide)).read 0)
            refine .inl (.inl ⟨sV x.n, w7, ?_, hr, fun _ _ _ _ hu => hu, fun _ _ _ _ hu => hu, rfl⟩)
            unfold execOp
            simp [go_sem, Act.eval, Act.put, h0, c0]
          · intro v2 w7 hr hd
            have c0 := (GG.out w7 hr.1 0)
            have c1 := (GG.out w7 hr.1 1)
            have c2 := (GG.out w7 hr.1 2)
            have c3 := (GG.out w7 hr.1 3)
            refine yields_run (u := .agg #[.slice va g.c.length vi, .slice (some ⟨b1, o1, none⟩) g.l.length vj, .slice vd g.o.length vk, .slice ve g.h.length vm]) (w' := w7) ?_ (Below.refl _ _) rfl
            unfold execOp
            simp [go_sem, Act.eval, Act.put, c0, c1, c2, c3]
          · intro v2 w7 hr hd
            refine yields_run (u := .pointer (some ⟨r, 1, none⟩)) (w' := w7) ?_ (Below.refl _ _) rfl
            unfold execOp
            simp [go_sem, Act.eval, Act.put]
          · intro v2 w7 hr ho hd
            have h3 : v2 3 = _ := hd 3 (by kernel_rfl)
            have c0 := ((ho.1 (by decide)).read 1)
            refine .inl (.inl ⟨.int .i64 x.u, w7, ?_, hr, fun _ _ _ _ hu => hu, fun _ _ _ _ hu => hu, rfl⟩)
            unfold execOp
            simp [go_sem, Act.eval, Act.put, h3, c0]
          · intro v2 w7 hr hd
            have h2 : v2 2 = _ := hd 2 (by kernel_rfl)
            have h4 : v2 4 = _ := hd 4 (by kernel_rfl)
            refine yields_call (f := 25) rfl (vs := #[.agg #[.slice va g.c.length vi, .slice (some ⟨b1, o1, none⟩) g.l.length vj, .slice vd g.o.length vk, .slice ve g.h.length vm], .int .i64 x.u]) (by simp [Act.eval, Act.put, h2, h4]) rfl Tryd.func25 (by kernel_rfl) (by kernel_rfl) ((IWX.out w7 (HL.out w7 hr.1)).mono fun e w8 ⟨he, hb⟩ => ⟨_, he, hb, rfl⟩)
          · intro v2 w7 hr hd
            refine yields_run (u := .pointer (some ⟨r, 2, none⟩)) (w' := w7) ?_ (Below.refl _ _) rfl
            unfold execOp
            simp [go_sem, Act.eval, Act.put]
          · intro v2 w7 hr ho hd
            have h6 : v2 6 = _ := hd 6 (by kernel_rfl)
            have c0 := ((ho.1 (by decide)).read 2)
            refine .inl (.inl ⟨.int .i64 x.r, w7, ?_, hr, fun _ _ _ _ hu => hu, fun _ _ _ _ hu => hu, rfl⟩)
            unfold execOp
            simp [go_sem, Act.eval, Act.put, h6, c0]
          · intro v2 w7 hr hd
            have h7 : v2 7 = _ := hd 7 (by kernel_rfl)
            refine yields_call (f := 24) rfl (vs := #[.int .i64 x.r]) (by simp [Act.eval, Act.put, h7]) rfl Tryd.func24 (by kernel_rfl) (by kernel_rfl) ((NB.out w7 (TB.out w7 hr.1)).mono fun e w8 ⟨he, hb⟩ => ⟨_, he, hb, rfl⟩)
          · intro v2 w7 hr hd
            have h8 : v2 8 = _ := hd 8 (by kernel_rfl)
            have ha : ({ data := #[114, 111, 117, 110, 100, 115, 61] } : ByteArray) ++ { data := (Lib.itoa x.r).toArray } = ⟨([114, 111, 117, 110, 100, 115, 61] ++ Lib.itoa x.r).toArray⟩ := str_app9 [114, 111, 117, 110, 100, 115, 61] (Lib.itoa x.r)
            refine yields_run (u := sV ([114, 111, 117, 110, 100, 115, 61] ++ Lib.itoa x.r)) (w' := w7) ?_ (Below.refl _ _) rfl
            unfold execOp
            simp [go_sem, Act.eval, Act.put, h8, ha]
            omega
          · intro v2 w7 hr hd
            have h1 : v2 1 = _ := hd 1 (by kernel_rfl)
            have h5 : v2 5 = _ := hd 5 (by kernel_rfl)
            have h9 : v2 9 = _ := hd 9 (by kernel_rfl)
            refine yields_run (u := .slice (some ⟨w7.heap.size, 0, none⟩) ((loWords g x)).length ((loWords g x)).length) (w' := w7.alloc (.cells (((loWords g x)).map sV).toArray 9)) ?_ (fresh1 w7 _) ⟨w7.heap.size, rfl, hr.2, .inl (Whole.fresh w7 _ _)⟩
            unfold execOp
            simp [go_sem, Act.eval, Act.put, h1, h5, h9, loWords]
          · intro v2 w7 hr ho hd
            obtain ⟨gy, hz, hyl, hw⟩ : LoneS wx.heap.size (loWords g x) (fun w => BL w bb bb (L ++ sp (loWords g x))) (v2 10) w7 := hd 10 (by kernel_rfl)
            have hw := hw.resolve_right (fun k => by have := BL.len (ho.2 trivial) k; simp [sp] at this)
            refine .inl (yieldsW_callR (f := 23) rfl (vs := #[.pointer (some ⟨bb, 0, none⟩), .slice (some ⟨gy, 0, none⟩) (loWords g x).length (loWords g x).length]) (by simp [Act.eval, Act.put, hz]) rfl Tryd.func23 (by kernel_rfl) (by kernel_rfl) ?_)
            refine (line_any bb bb L gy (loWords g x) _ (Nat.le_refl _) (by simp [loWords]) LEN.out.1 LEN.out.2 w7 (ho.2 trivial) hw).mono fun e1 w8 ⟨he1, hb8, hB8⟩ => ⟨_, he1, ⟨hr.1.trans hB8, Nat.le_trans hr.2 hB8.size⟩, ?_, ?_, hb8⟩
            · intro k2 v' hk2 hc hu
              exact match k2, hk2, hc, hu with
                | 0, _, _, hu => hu
                | 1, _, _, hu => hu
                | 2, _, _, hu => hu
                | 3, _, _, hu => hu
                | 4, _, _, hu => hu
                | 5, _, _, hu => hu
                | 6, _, _, hu => hu
                | 7, _, _, hu => hu
                | 8, _, _, hu => hu
                | 9, _, _, hu => hu
                | 10, _, _, ⟨gy, h1, h2, _⟩ => ⟨gy, h1, h2, .inr hb8⟩
                | 11, hk2, _, _ => absurd rfl hk2
                | _ + 12, _, _, _ => trivial
            · intro k2 hk2 hn hc2 ⟨h1, h2⟩
              exact ⟨fun e => by first | (rcases e with rfl | rfl | rfl <;> exact absurd hc2 (by decide)) | exact absurd e (by decide), fun e => absurd e hk2⟩
          · intro v2 w7 hr hv
            have hb9 : BL w7 bb bb (L ++ sp (loWords g x)) := hv 11 (by decide)
            have hR := hr.1
            rw [hfin]
            clear hfin hv hr
            generalize v2 10 = v6
            generalize v2 11 = v7
            go_wp2_with fail
            go_roundw
            case rel => exact ⟨i + 1, hlt, by go_num, by rw [HX.out]; exact Lib.hid hb9, Lib.hid hR⟩
            case measure => simp [intOf]; omega
      subst hin
      have hlt : ¬ ((g.l.length : Int) < g.l.length) := by omega
      rw [upto_all] at BLr
      have LB1 : (A1 ++ (g.l.map (fun x => sp (loWords g x))).flatten).length ≤ 200000 := by
        have h1 := upto_le (L := g.l) (f := fun x => sp (loWords g x)) (lo_sp HC.out I) g.l.length
        have h2 := LA1.out
        have h3 : g.l.length * 300 ≤ 48 * 300 := Nat.mul_le_mul_right 300 (by omega)
        rw [upto_all] at h1
        rw [List.length_append]
        omega
      obtain ⟨u1, hnw⟩ : ∃ u1, u1 = wr := ⟨_, rfl⟩
      subst hnw
      have k0 : u1.cell? ⟨gg, 2, none⟩ = some (.slice vd g.o.length vk) := GG.out u1 Br.out 2
      go_upto_region 16 with fail
      clear k0
      go_wp2_with fail
      obtain ⟨A2, hA2⟩ : ∃ A2, A2 = A1 ++ (g.l.map (fun x => sp (loWords g x))).flatten := ⟨_, rfl⟩
      go_loopw [58] (fun a wr => ∃ i : Nat, i ≤ g.o.length ∧ a = .int .i64 i ∧ Hid (BL wr bb bb (A2 ++ upto g.o (fun x => sp (oqWords g x)) i)) ∧ Hid (Below bb w3 wr)) (fun a _ => (g.o.length - intOf a).toNat)
      case atStart => exact ⟨0, by omega, rfl, by rw [upto_zero, List.append_nil, hA2]; exact BLr, Br⟩
      have HA2 := Lib.hid hA2
      have LA2 : Hid (A2.length ≤ 200000) := Lib.hid (by rw [hA2]; exact LB1)
      clear hA2
      case round =>
        obtain ⟨i, hi, rfl, BLr, Br⟩ := hrel
        by_cases hin : i = g.o.length
        case neg =>
          have hlt : i < g.o.length := by omega
          obtain ⟨x, hx⟩ : ∃ x, g.o[i]? = some x := ⟨g.o[i], List.getElem?_eq_getElem hlt⟩
          obtain ⟨b1, o1, hA, hb1, c0, c1, c2, c3, c4, c5⟩ := at_oq (HL.out wr Br.out).o hx
          change vd = _ at hA
          subst hA
          have hxm := List.mem_of_getElem? hx
          have LEN : Hid ((A2 ++ upto g.o (fun x => sp (oqWords g x)) i).length ≤ 1000000 ∧ (Lib.join (oqWords g x) [32]).length ≤ 1000000) := Lib.hid ⟨by
            have h1 := upto_le (L := g.o) (f := fun x => sp (oqWords g x)) (oq_sp HC.out I) i
            have h2 := LA2.out
            have h3 : g.o.length * 300 ≤ 48 * 300 := Nat.mul_le_mul_right 300 (by omega)
            rw [List.length_append]
            omega, sp_join (oq_sp HC.out I x hxm)⟩
          have HX := Lib.hid (upto_next (f := fun x => sp (oqWords g x)) hx)
          have IO := I.o x hxm
          have OW := Lib.hid (fun w1 (h1 : Lies4 w1 ⟨va, vb, some ⟨b1, o1, none⟩, ve, vi, vj, vk, vm⟩ g) (k1 : KT w1) (t1 : Tab10 w1) => opWords_any ⟨va, vb, some ⟨b1, o1, none⟩, ve, vi, vj, vk, vm⟩ g x FL FC IO (oq_parts HC.out hx).2 w1 h1 k1 t1)
          unfold gV at OW
          dsimp only at OW
          obtain ⟨L, hL⟩ : ∃ L, A2 ++ upto g.o (fun x => sp (oqWords g x)) i = L := ⟨_, rfl⟩
          rw [hL] at BLr LEN
          have HX' : Hid (A2 ++ upto g.o (fun x => sp (oqWords g x)) (i + 1) = L ++ sp (oqWords g x)) := Lib.hid (by rw [HX.out, ← List.append_assoc, hL])
          clear hx hxm hL HX IO
          have HX := HX'
          clear HX'
          go_upto_region 18 with fail
          change Code.wp _ _ _ _ (wr.alloc (.cells #[sV x.n, .int .i64 x.k, .int .i64 x.l, .int .i64 x.a, .int .i64 x.x, .int .i64 x.y] 74))
          have bx := fresh1 wr (.cells #[sV x.n, .int .i64 x.k, .int .i64 x.l, .int .i64 x.a, .int .i64 x.x, .int .i64 x.y] 74)
          have RX := Whole.fresh wr 74 #[sV x.n, .int .i64 x.k, .int .i64 x.l, .int .i64 x.a, .int .i64 x.x, .int .i64 x.y]
          have BLX := Lib.hid (BLr.out.below bx)
          have BX := Lib.hid (Br.out.trans (bx.mono BLr.out.2))
          clear BLr Br c0 c1 c2 c3 c4 c5 hb1 bx
          generalize wr.alloc (.cells #[sV x.n, .int .i64 x.k, .int .i64 x.l, .int .i64 x.a, .int .i64 x.x, .int .i64 x.y] 74) = wx at RX BLX BX ⊢
          generalize wr.heap.size = r at RX ⊢
          have r0 := RX.read 0
          have r1 := RX.read 1
          have r2 := RX.read 2
          have r3 := RX.read 3
          have r4 := RX.read 4
          have r5 := RX.read 5
          have k0 : wx.cell? ⟨gg, 0, none⟩ = some (.slice va g.c.length vi) := GG.out wx BX.out 0
          have k1 : wx.cell? ⟨gg, 1, none⟩ = some (.slice vb g.l.length vj) := GG.out wx BX.out 1
          have k2 : wx.cell? ⟨gg, 2, none⟩ = some (.slice (some ⟨b1, o1, none⟩) g.o.length vk) := GG.out wx BX.out 2
          have k3 : wx.cell? ⟨gg, 3, none⟩ = some (.slice ve g.h.length vm) := GG.out wx BX.out 3
          clear RX
          have OWX := Lib.hid (OW.out wx (HL.out wx BX.out) (K0.out.below (HW.out wx BX.out)) (TB.out wx BX.out))
          clear OW
          go_upto_region 19 with (first
            | (go_at_call 26; refine OWX.out.mono ?_; rintro e w4 ⟨D, cc, rfl, hO, b4⟩; have LN := Lib.hid (lineJ_any bb bb L D (oqWords g x) cc LEN.out.1 LEN.out.2 w4 (BLX.out.below b4) (joinO_any D cc (oqWords g x) wx.heap.size (oqW_len g x) (by have := LEN.out.2; omega) w4 hO)); have B4 := Lib.hid (BX.out.trans (b4.mono BLX.out.2)); clear b4 hO)
            | (go_at_call 23; refine LN.out.mono ?_; rintro e w5 ⟨rfl, hb5, b5⟩; have B5 := Lib.hid (B4.out.trans b5)))
          go_wp2_with fail
          go_roundw
          case rel => exact ⟨i + 1, hlt, by go_num, by rw [HX.out]; exact Lib.hid hb5, B5⟩
          case measure => simp [intOf]; omega
        subst hin
        have hlt : ¬ ((g.o.length : Int) < g.o.length) := by omega
        rw [upto_all] at BLr
        have LB2 : (A2 ++ (g.o.map (fun x => sp (oqWords g x))).flatten).length ≤ 300000 := by
          have h1 := upto_le (L := g.o) (f := fun x => sp (oqWords g x)) (oq_sp HC.out I) g.o.length
          have h2 := LA2.out
          have h3 : g.o.length * 300 ≤ 48 * 300 := Nat.mul_le_mul_right 300 (by omega)
          rw [upto_all] at h1
          rw [List.length_append]
          omega
        obtain ⟨u2, hnw⟩ : ∃ u2, u2 = wr := ⟨_, rfl⟩
        subst hnw
        have k0 : u2.cell? ⟨gg, 3, none⟩ = some (.slice ve g.h.length vm) := GG.out u2 Br.out 3
        go_upto_region 21 with fail
        clear k0
        go_wp2_with fail
        obtain ⟨A3, hA3⟩ : ∃ A3, A3 = A2 ++ (g.o.map (fun x => sp (oqWords g x))).flatten := ⟨_, rfl⟩
        go_loopw [70] (fun a wr => ∃ i : Nat, i ≤ g.h.length ∧ a = .int .i64 i ∧ Hid (BL wr bb bb (A3 ++ upto g.h (fun x => sp (chWords g x)) i)) ∧ Hid (Below bb w3 wr)) (fun a _ => (g.h.length - intOf a).toNat)
        case atStart => exact ⟨0, by omega, rfl, by rw [upto_zero, List.append_nil, hA3]; exact BLr, Br⟩
        have HA3 := Lib.hid hA3
        have LA3 : Hid (A3.length ≤ 300000) := Lib.hid (by rw [hA3]; exact LB2)
        clear hA3
        case round =>
          obtain ⟨i, hi, rfl, BLr, Br⟩ := hrel
          by_cases hin : i = g.h.length
          case neg =>
            have hlt : i < g.h.length := by omega
            obtain ⟨x, hx⟩ : ∃ x, g.h[i]? = some x := ⟨g.h[i], List.getElem?_eq_getElem hlt⟩
            obtain ⟨b1, o1, hA, hb1, c0, c1⟩ := at_ch (HL.out wr Br.out).h hx
            change ve = _ at hA
            subst hA
            have hxm := List.mem_of_getElem? hx
            have LEN : Hid ((A3 ++ upto g.h (fun x => sp (chWords g x)) i).length ≤ 1000000 ∧ (Lib.join (chWords g x) [32]).length ≤ 1000000) := Lib.hid ⟨by
              have h1 := upto_le (L := g.h) (f := fun x => sp (chWords g x)) (ch_sp HC.out) i
              have h2 := LA3.out
              have h3 : g.h.length * 300 ≤ 48 * 300 := Nat.mul_le_mul_right 300 (by omega)
              rw [List.length_append]
              omega, sp_join (ch_sp HC.out x hxm)⟩
            have HX := Lib.hid (upto_next (f := fun x => sp (chWords g x)) hx)
            obtain ⟨f0, f1, t0, t1⟩ := ch_range HC.out hxm
            obtain ⟨xf, xt⟩ := x
            dsimp only at f0 f1 t0 t1 c0 c1
            obtain ⟨m, rfl⟩ : ∃ m : Nat, xf = m := ⟨xf.toNat, by omega⟩
            obtain ⟨n, rfl⟩ : ∃ n : Nat, xt = n := ⟨xt.toNat, by omega⟩
            have hm1 : m < g.o.length := by omega
            have hn1 : n < g.o.length := by omega
            obtain ⟨x1, hx1⟩ : ∃ x, g.o[m]? = some x := ⟨g.o[m], List.getElem?_eq_getElem hm1⟩
            obtain ⟨x2, hx2⟩ : ∃ x, g.o[n]? = some x := ⟨g.o[n], List.getElem?_eq_getElem hn1⟩
            have hcw : chWords g ⟨m, n⟩ = [[102, 114, 111, 109], x1.n, [116, 111], x2.n] := by simp [chWords, nameO, hx1, hx2]
            obtain ⟨bo, oo, hA2, hbo, e1, -⟩ := at_oq (H0.out.o) hx1
            change vd = _ at hA2
            obtain ⟨bo2, oo2, hA3, -, e2, -⟩ := at_oq (H0.out.o) hx2
            change vd = _ at hA3
            subst hA2
            injection (Option.some.inj hA3) with hb2 ho2
            subst hb2 ho2
            clear hA3
            have E1 : ∀ w7, Below bb w3 w7 → w7.cell? ⟨bo, oo + m * 6, none⟩ = some (sV x1.n) := fun w7 h7 => ((HW.out w7 h7).cell (p := ⟨bo, oo + m * 6, none⟩) hbo).trans e1
            have E2 : ∀ w7, Below bb w3 w7 → w7.cell? ⟨bo, oo + n * 6, none⟩ = some (sV x2.n) := fun w7 h7 => ((HW.out w7 h7).cell (p := ⟨bo, oo + n * 6, none⟩) hbo).trans e2
            replace E1 := Lib.hid E1
            replace E2 := Lib.hid E2
            rw [hcw] at LEN HX
            obtain ⟨L, hL⟩ : ∃ L, A3 ++ upto g.h (fun x => sp (chWords g x)) i = L := ⟨_, rfl⟩
            rw [hL] at BLr LEN
            have HX' : Hid (A3 ++ upto g.h (fun x => sp (chWords g x)) (i + 1) = L ++ sp [[102, 114, 111, 109], x1.n, [116, 111], x2.n]) := Lib.hid (by rw [HX.out, ← List.append_assoc, hL])
            clear hx hxm hL HX hx1 hx2 hcw e1 e2 f0 f1 t0 t1
            have HX := HX'
            clear HX'
            go_upto_region 23 with fail
            change Code.wp _ _ _ _ (wr.alloc (.cells #[.int .i64 (m : Int), .int .i64 (n : Int)] 77))
            have bx := fresh1 wr (.cells #[.int .i64 (m : Int), .int .i64 (n : Int)] 77)
            have RX := Lib.hid (Whole.fresh wr 77 #[.int .i64 (m : Int), .int .i64 (n : Int)])
            have BLX := Lib.hid (BLr.out.below bx)
            have BX := Lib.hid (Br.out.trans (bx.mono BLr.out.2))
            have HBX := Lib.hid BLX.out.2
            clear BLr Br c0 c1 hb1 bx
            generalize wr.alloc (.cells #[.int .i64 (m : Int), .int .i64 (n : Int)] 77) = wx at RX BLX BX HBX ⊢
            generalize wr.heap.size = r at RX ⊢
            refine region_full 92 [] [(15, 3), (15, 10)] (fun k => k == 3 || k == 10 || k == 15) (fun w7 => Below bb w3 w7 ∧ wx.heap.size ≤ w7.heap.size) ?hR ?r0 [pdOne 0 (Is (.pointer (some ⟨gg, 2, none⟩))), pdOne 1 (Is (.slice (some ⟨bo, oo, none⟩) g.o.length vk)), pdOne 2 (Is (.pointer (some ⟨r, 0, none⟩))), pdOne 3 (Is (.int .i64 (m : Int))), pdOne 4 (Is (.pointer (some ⟨bo, oo + m * 6, none⟩))), pdOne 5 (Is (.pointer (some ⟨bo, oo + m * 6, none⟩))), pdOne 6 (Is (sV x1.n)), pdOne 7 (Is (.pointer (some ⟨gg, 2, none⟩))), pdOne 8 (Is (.slice (some ⟨bo, oo, none⟩) g.o.length vk)), pdOne 9 (Is (.pointer (some ⟨r, 1, none⟩))), pdOne 10 (Is (.int .i64 (n : Int))), pdOne 11 (Is (.pointer (some ⟨bo, oo + n * 6, none⟩))), pdOne 12 (Is (.pointer (some ⟨bo, oo + n * 6, none⟩))), pdOne 13 (Is (sV x2.n)), pdOne 14 (LoneS wx.heap.size ([[102, 114, 111, 109], x1.n, [116, 111], x2.n] : List Bs) (fun w => BL w bb bb (L ++ sp ([[102, 114, 111, 109], x1.n, [116, 111], x2.n] : List Bs)))), pdOne 15 (fun _ w => BL w bb bb (L ++ sp ([[102, 114, 111, 109], x1.n, [116, 111], x2.n] : List Bs)))] (fun k w7 => (k = 3 ∨ k = 10 → Whole w7 r 77 #[.int .i64 (m : Int), .int .i64 (n : Int)]) ∧ (k = 15 → BL w7 bb bb L)) (by kernel_rfl) rfl (by kernel_rfl) (by kernel_rfl) (by kernel_rfl) (by kernel_rfl) ?keep ?hO ?h0 ?tell
            case hR => exact fun w7 w8 hb ⟨h1, h2⟩ => ⟨h1.trans (hb.mono (Nat.le_trans HBX.out h2)), Nat.le_trans h2 hb.size⟩
            case r0 => exact ⟨BX.out, Nat.le_refl _⟩
            case keep => exact ⟨keep_one (keeps_is _), keep_one (keeps_is _), keep_one (keeps_is _), keep_one (keeps_is _), keep_one (keeps_is _), keep_one (keeps_is _), keep_one (keeps_is _), keep_one (keeps_is _), keep_one (keeps_is _), keep_one (keeps_is _), keep_one (keeps_is _), keep_one (keeps_is _), keep_one (keeps_is _), keep_one (keeps_is _), keep_one (fun _ _ _ hb h => h.imp fun gx h => ⟨h.1, h.2.1, h.2.2.imp (fun k => k.below hb k.inside) (fun k => BL.below k hb)⟩), keep_one (fun _ _ _ hb h => BL.below h hb), trivial⟩
            case hO => exact fun k w7 w8 hb ⟨h1, h2⟩ => ⟨fun e => (h1 e).below hb (h1 e).inside, fun e => BL.below (h2 e) hb⟩
            case h0 => exact fun k _ => ⟨fun _ => RX.out, fun _ => BLX.out⟩
            case tell =>
              intro fin hfin
              simp [lexPut, Act.put] at hfin
              simp only [TellF]
              refine ⟨⟨?_, ?_, ?_, ?_, ?_, ?_, ?_, ?_, ?_, ?_, ?_, ?_, ?_, ?_, ?_, ?_, trivial⟩, ?_⟩
              · intro v2 w7 hr hd
                refine yields_run (u := .pointer (some ⟨gg, 2, none⟩)) (w' := w7) ?_ (Below.refl _ _) rfl
                unfold execOp
                simp [go_sem, Act.eval]
              · intro v2 w7 hr hd
                have h0 : v2 0 = _ := hd 0 (by kernel_rfl)
                have c0 := (GG.out w7 hr.1 2)
                refine yields_run (u := .slice (some ⟨bo, oo, none⟩) g.o.length vk) (w' := w7) ?_ (Below.refl _ _) rfl
                unfold execOp
                simp [go_sem, Act.eval, Act.put, h0, c0]
              · intro v2 w7 hr hd
                refine yields_run (u := .pointer (some ⟨r, 0, none⟩)) (w' := w7) ?_ (Below.refl _ _) rfl
                unfold execOp
                simp [go_sem, Act.eval, Act.put]
              · intro v2 w7 hr ho hd
                have h2 : v2 2 = _ := hd 2 (by kernel_rfl)
                have c0 := ((ho.1 (by decide)).read 0)
                refine .inl (.inl ⟨.int .i64 (m : Int), w7, ?_, hr, fun _ _ _ _ hu => hu, fun _ _ _ _ hu => hu, rfl⟩)
                unfold execOp
                simp [go_sem, Act.eval, Act.put, h2, c0]
              · intro v2 w7 hr hd
                have h1 : v2 1 = _ := hd 1 (by kernel_rfl)
                have h3 : v2 3 = _ := hd 3 (by kernel_rfl)
                exact yields_index (b := bo) (off := oo) (n := g.o.length) (c := vk) (i := m) (m := 6) rfl (by simp [Act.eval, Act.put, h1, h3]) (by simp [Act.eval, Act.put, h1, h3]) hm1 Tryd.underlying31 (by intro w; simp [Tryd.sizeOf74])
              · intro v2 w7 hr hd
                have h4 : v2 4 = _ := hd 4 (by kernel_rfl)
                refine yields_run (u := .pointer (some ⟨bo, oo + m * 6, none⟩)) (w' := w7) ?_ (Below.refl _ _) rfl
                unfold execOp
                simp [go_sem, Act.eval, Act.put, h4]
              · intro v2 w7 hr hd
                have h5 : v2 5 = _ := hd 5 (by kernel_rfl)
                have c0 := (E1.out w7 hr.1)
                refine yields_run (u := sV x1.n) (w' := w7) ?_ (Below.refl _ _) rfl
                unfold execOp
                simp [go_sem, Act.eval, Act.put, h5, c0]
              · intro v2 w7 hr hd
                refine yields_run (u := .pointer (some ⟨gg, 2, none⟩)) (w' := w7) ?_ (Below.refl _ _) rfl
                unfold execOp
                simp [go_sem, Act.eval, Act.put]
              · intro v2 w7 hr hd
                have h7 : v2 7 = _ := hd 7 (by kernel_rfl)
                have c0 := (GG.out w7 hr.1 2)
                refine yields_run (u := .slice (some ⟨bo, oo, none⟩) g.o.length vk) (w' := w7) ?_ (Below.refl _ _) rfl
                unfold execOp
                simp [go_sem, Act.eval, Act.put, h7, c0]
              · intro v2 w7 hr hd
                refine yields_run (u := .pointer (some ⟨r, 1, none⟩)) (w' := w7) ?_ (Below.refl _ _) rfl
                unfold execOp
                simp [go_sem, Act.eval, Act.put]
              · intro v2 w7 hr ho hd
                have h9 : v2 9 = _ := hd 9 (by kernel_rfl)
                have c0 := ((ho.1 (by decide)).read 1)
                refine .inl (.inl ⟨.int .i64 (n : Int), w7, ?_, hr, fun _ _ _ _ hu => hu, fun _ _ _ _ hu => hu, rfl⟩)
                unfold execOp
                simp [go_sem, Act.eval, Act.put, h9, c0]
              · intro v2 w7 hr hd
                have h8 : v2 8 = _ := hd 8 (by kernel_rfl)
                have h10 : v2 10 = _ := hd 10 (by kernel_rfl)
                exact yields_index (b := bo) (off := oo) (n := g.o.length) (c := vk) (i := n) (m := 6) rfl (by simp [Act.eval, Act.put, h8, h10]) (by simp [Act.eval, Act.put, h8, h10]) hn1 Tryd.underlying31 (by intro w; simp [Tryd.sizeOf74])
              · intro v2 w7 hr hd
                have h11 : v2 11 = _ := hd 11 (by kernel_rfl)
                refine yields_run (u := .pointer (some ⟨bo, oo + n * 6, none⟩)) (w' := w7) ?_ (Below.refl _ _) rfl
                unfold execOp
                simp [go_sem, Act.eval, Act.put, h11]
              · intro v2 w7 hr hd
                have h12 : v2 12 = _ := hd 12 (by kernel_rfl)
                have c0 := (E2.out w7 hr.1)
                refine yields_run (u := sV x2.n) (w' := w7) ?_ (Below.refl _ _) rfl
                unfold execOp
                simp [go_sem, Act.eval, Act.put, h12, c0]
              · intro v2 w7 hr hd
                have h6 : v2 6 = _ := hd 6 (by kernel_rfl)
                have h13 : v2 13 = _ := hd 13 (by kernel_rfl)
                refine yields_run (u := .slice (some ⟨w7.heap.size, 0, none⟩) (([[102, 114, 111, 109], x1.n, [116, 111], x2.n] : List Bs)).length (([[102, 114, 111, 109], x1.n, [116, 111], x2.n] : List Bs)).length) (w' := w7.alloc (.cells ((([[102, 114, 111, 109], x1.n, [116, 111], x2.n] : List Bs)).map sV).toArray 9)) ?_ (fresh1 w7 _) ⟨w7.heap.size, rfl, hr.2, .inl (Whole.fresh w7 _ _)⟩
                unfold execOp
                simp [go_sem, Act.eval, Act.put, h6, h13, sV]
              · intro v2 w7 hr ho hd
                obtain ⟨gy, hz, hyl, hw⟩ : LoneS wx.heap.size ([[102, 114, 111, 109], x1.n, [116, 111], x2.n] : List Bs) (fun w => BL w bb bb (L ++ sp ([[102, 114, 111, 109], x1.n, [116, 111], x2.n] : List Bs))) (v2 14) w7 := hd 14 (by kernel_rfl)
                have hw := hw.resolve_right (fun k => by have := BL.len (ho.2 trivial) k; simp [sp] at this)
                refine .inl (yieldsW_callR (f := 23) rfl (vs := #[.pointer (some ⟨bb, 0, none⟩), .slice (some ⟨gy, 0, none⟩) ([[102, 114, 111, 109], x1.n, [116, 111], x2.n] : List Bs).length ([[102, 114, 111, 109], x1.n, [116, 111], x2.n] : List Bs).length]) (by simp [Act.eval, Act.put, hz]) rfl Tryd.func23 (by kernel_rfl) (by kernel_rfl) ?_)
                refine (line_any bb bb L gy ([[102, 114, 111, 109], x1.n, [116, 111], x2.n] : List Bs) _ (Nat.le_refl _) (by simp) LEN.out.1 LEN.out.2 w7 (ho.2 trivial) hw).mono fun e1 w8 ⟨he1, hb8, hB8⟩ => ⟨_, he1, ⟨hr.1.trans hB8, Nat.le_trans hr.2 hB8.size⟩, ?_, ?_, hb8⟩
                · intro k2 v' hk2 hc hu
                  exact match k2, hk2, hc, hu with
                    | 0, _, _, hu => hu
                    | 1, _, _, hu => hu
                    | 2, _, _, hu => hu
                    | 3, _, _, hu => hu
                    | 4, _, _, hu => hu
                    | 5, _, _, hu => hu
                    | 6, _, _, hu => hu
                    | 7, _, _, hu => hu
                    | 8, _, _, hu => hu
                    | 9, _, _, hu => hu
                    | 10, _, _, hu => hu
                    | 11, _, _, hu => hu
                    | 12, _, _, hu => hu
                    | 13, _, _, hu => hu
                    | 14, _, _, ⟨gy, h1, h2, _⟩ => ⟨gy, h1, h2, .inr hb8⟩
                    | 15, hk2, _, _ => absurd rfl hk2
                    | _ + 16, _, _, _ => trivial
                · intro k2 hk2 hn hc2 ⟨h1, h2⟩
                  exact ⟨fun e => by first | (rcases e with rfl | rfl <;> exact absurd hc2 (by decide)) | exact absurd e (by decide), fun e => absurd e hk2⟩
              · intro v2 w7 hr hv
                have hb9 : BL w7 bb bb (L ++ sp ([[102, 114, 111, 109], x1.n, [116, 111], x2.n] : List Bs)) := hv 15 (by decide)
                have hR := hr.1
                rw [hfin]
                clear hfin hv hr
                generalize v2 14 = v6
                generalize v2 15 = v7
                go_wp2_with fail
                go_roundw
                case rel => exact ⟨i + 1, hlt, by go_num, by rw [HX.out]; exact Lib.hid hb9, Lib.hid hR⟩
                case measure => simp [intOf]; omega
          subst hin
          have hlt : ¬ ((g.h.length : Int) < g.h.length) := by omega
          rw [upto_all] at BLr
          have HXX : Hid (A3 ++ (g.h.map fun x => sp (chWords g x)).flatten = X) := Lib.hid (by rw [← hX.out, HA3.out, HA2.out, HA1.out, HA0.out]; simp [textG])
          rw [HXX.out] at BLr
          have ST := Lib.hid (string_any bb bb X wr BLr.out)
          go_wp2_with (go_at_call 27; refine ST.out.mono ?_; rintro e w5 ⟨rfl, b5⟩)
          go_ret2
          exact ⟨rfl, HW.out _ (Br.out.trans b5)⟩
end Go.Proofs.YtlbphlhbofjfgaaDoor.graph
