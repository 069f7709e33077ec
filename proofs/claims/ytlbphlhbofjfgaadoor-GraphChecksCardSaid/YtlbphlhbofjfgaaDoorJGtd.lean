/-
  watershedref09.Text (by gen_gtd.py).
-/
import Derived.Test.YtlbphlhbofjfgaaDoorJGt2
import Derived.Test.YtlbphlhbofjfgaaDoorJGt1o
import Derived.Test.YtlbphlhbofjfgaaDoorJWrN
import Derived.Test.YtlbphlhbofjfgaaDoorJGcr
namespace Go.Proofs.YtlbphlhbofjfgaaDoor.graph
open Go.ChangeShapes Go.WideShapes Go.ChangeAt Go.RowKit Go.Shelf
open Go.Proofs.YtlbphlhbofjfgaaDoor.opened Go.Proofs.YtlbphlhbofjfgaaDoor.block Go.Proofs.YtlbphlhbofjfgaaDoor.words Go.Proofs.YtlbphlhbofjfgaaDoor.region
theorem loopN_len {g : Gr} (h : checkE g = 0) (k : Int) : (loopN g k).length ≤ 12 := by
  have := inW_len h k
  rw [inW_eq, List.length_append] at this
  simp at this
  omega
theorem cl_text (S n w : Bs) : ((((S ++ [99, 108, 117, 115, 116, 101, 114, 32]) ++ n) ++ [32, 119, 111, 114, 107, 101, 114, 115, 61]) ++ w) ++ [10] = S ++ sp [[99, 108, 117, 115, 116, 101, 114], n, [119, 111, 114, 107, 101, 114, 115, 61] ++ w] := by
  simp [sp, Lib.join_cons, Lib.joinTail]
theorem lo_text (S n u r : Bs) : ((((((S ++ [108, 111, 111, 112, 32]) ++ n) ++ [32, 105, 110, 61]) ++ u) ++ [32, 114, 111, 117, 110, 100, 115, 61]) ++ r) ++ [10] = S ++ sp [[108, 111, 111, 112], n, [105, 110, 61] ++ u, [114, 111, 117, 110, 100, 115, 61] ++ r] := by
  simp [sp, Lib.join_cons, Lib.joinTail]
theorem ch_text (S a b : Bs) : ((((S ++ [102, 114, 111, 109, 32]) ++ a) ++ [32, 116, 111, 32]) ++ b) ++ [10] = S ++ sp [[102, 114, 111, 109], a, [116, 111], b] := by
  simp [sp, Lib.join_cons, Lib.joinTail]
theorem op_text0 (S n w u c : Bs) : ((((((((S ++ [111, 112, 32]) ++ n) ++ [32]) ++ w) ++ [32, 105, 110, 61]) ++ u) ++ [32, 97, 116, 61]) ++ c) ++ [10] = S ++ sp [[111, 112], n, w, [105, 110, 61] ++ u, [97, 116, 61] ++ c] := by
  simp [sp, Lib.join_cons, Lib.joinTail]
theorem op_text1 (S n w u c x : Bs) : ((((((((((S ++ [111, 112, 32]) ++ n) ++ [32]) ++ w) ++ [32, 105, 110, 61]) ++ u) ++ [32, 97, 116, 61]) ++ c) ++ [32, 97, 61]) ++ x) ++ [10] = S ++ sp [[111, 112], n, w, [105, 110, 61] ++ u, [97, 116, 61] ++ c, [97, 61] ++ x] := by
  simp [sp, Lib.join_cons, Lib.joinTail]
theorem op_text2 (S n w u c x y : Bs) : ((((((((((((S ++ [111, 112, 32]) ++ n) ++ [32]) ++ w) ++ [32, 105, 110, 61]) ++ u) ++ [32, 97, 116, 61]) ++ c) ++ [32, 97, 61]) ++ x) ++ [32, 98, 61]) ++ y) ++ [10] = S ++ sp [[111, 112], n, w, [105, 110, 61] ++ u, [97, 116, 61] ++ c, [97, 61] ++ x, [98, 61] ++ y] := by
  simp [sp, Lib.join_cons, Lib.joinTail]
set_option maxRecDepth 100000 in
set_option maxHeartbeats 8000000 in
theorem textR_any (v : Gv) (g : Gr) (I : g.In) (w : World) (h : Lies4 w v g) :
    Calls Tryd.prog 8 #[gV v g] w fun e w' => e = .returned (.tuple #[sV (textV g), .int .i64 (checkE g)]) ∧ Below w.heap.size w w' := by
  have CK := fun w1 (h1 : Lies4 w1 v g) => checkR_any v g w1 h1
  have IW := fun (k : Int) (h0 : -1 ≤ k) (h1 : k < g.l.length) w1 (hl : Lies4 w1 v g) => loopName_any v g k h0 h1 w1 hl
  obtain ⟨va, vb, vd, ve, vi, vj, vk, vm⟩ := v
  unfold gV at CK IW ⊢
  dsimp only at CK IW ⊢
  replace CK := Lib.hid CK
  replace IW := Lib.hid IW
  obtain ⟨E, hE⟩ : ∃ E, checkE g = E := ⟨_, rfl⟩
  obtain ⟨X, hX⟩ : ∃ X, textV g = X := ⟨_, rfl⟩
  rw [hE, hX]
  have hB := Lib.hid (fresh1 w (.cells #[.slice va g.c.length vi, .slice vb g.l.length vj, .slice vd g.o.length vk, .slice ve g.h.length vm] 27))
  have OX := Lib.hid (Whole.fresh w 27 #[.slice va g.c.length vi, .slice vb g.l.length vj, .slice vd g.o.length vk, .slice ve g.h.length vm])
  have H0 := Lib.hid h
  have H1 := Lib.hid (h.below hB.out)
  clear h
  go_enter Tryd.func8, Tryd.ntmps8
  go_upto_region 1 with fail
  change Code.wp _ _ _ _ (w.alloc (.cells #[.slice va g.c.length vi, .slice vb g.l.length vj, .slice vd g.o.length vk, .slice ve g.h.length vm] 27))
  generalize w.alloc (.cells #[.slice va g.c.length vi, .slice vb g.l.length vj, .slice vd g.o.length vk, .slice ve g.h.length vm] 27) = w1 at OX hB H1 ⊢
  obtain ⟨gg, hgg⟩ : ∃ gg, w.heap.size = gg := ⟨_, rfl⟩
  rw [hgg] at OX ⊢
  replace hgg := Lib.hid hgg
  have k := OX.out.read
  have k0 : w1.cell? ⟨gg, 0, none⟩ = some (.slice va g.c.length vi) := k 0
  have k1 : w1.cell? ⟨gg, 1, none⟩ = some (.slice vb g.l.length vj) := k 1
  have k2 : w1.cell? ⟨gg, 2, none⟩ = some (.slice vd g.o.length vk) := k 2
  have k3 : w1.cell? ⟨gg, 3, none⟩ = some (.slice ve g.h.length vm) := k 3
  clear k
  replace CK := Lib.hid (CK.out w1 H1.out)
  rw [hE] at CK
  by_cases q : E = 0
  case neg =>
    obtain rfl : [] = X := by rw [← hX]; unfold textV; rw [if_neg (by rw [hE]; exact q)]
    have nb : (E == 0) = false := by rw [beq_eq_false_iff_ne]; exact q
    clear hE hX q IW
    go_wp2_with (go_at_call 10; refine CK.out.mono ?_; rintro e w2 ⟨rfl, b2⟩)
    go_ret2
    exact ⟨rfl, hB.out.trans (b2.mono hB.out.size)⟩
  subst q
  obtain ⟨q1, q2, q3, q4, q5⟩ := check_parts hE
  obtain ⟨z1, z2, z3, z4, z5, z6⟩ := sizes_of q1
  have HC := Lib.hid hE
  replace hX : textG g = X := by rw [← hX]; unfold textV; rw [if_pos hE]
  replace hX := Lib.hid hX
  clear hE
  go_upto_region 5 with (go_at_call 10; refine CK.out.mono ?_; rintro e w3 ⟨rfl, b2⟩)
  have OX3 := Lib.hid (OX.out.below b2 OX.out.inside)
  have B3 := Lib.hid (hB.out.trans (b2.mono hB.out.size))
  clear k0 k1 k2 k3 CK b2 OX hB H1
  have GG : ∀ w7, Below w3.heap.size w3 w7 → ∀ i, w7.cell? ⟨gg, i, none⟩ = #[.slice va g.c.length vi, .slice vb g.l.length vj, .slice vd g.o.length vk, .slice ve g.h.length vm][i]? := fun w7 h7 => (OX3.out.below h7 OX3.out.inside).read
  have HW : ∀ w7, Below w3.heap.size w3 w7 → Below w.heap.size w w7 := fun w7 h7 => B3.out.trans (h7.mono B3.out.size)
  have HL : ∀ w7, Below w3.heap.size w3 w7 → Lies4 w7 ⟨va, vb, vd, ve, vi, vj, vk, vm⟩ g := fun w7 h7 => H0.out.below (HW w7 h7)
  replace GG := Lib.hid GG
  replace HL := Lib.hid HL
  replace HW := Lib.hid HW
  have k0 : w3.cell? ⟨gg, 0, none⟩ = some (.slice va g.c.length vi) := GG.out w3 (Below.refl _ _) 0
  go_upto_region 6 with fail
  clear k0
  go_wp2_with fail
  obtain ⟨A0, hA0⟩ : ∃ A0, A0 = ([] : Bs) := ⟨_, rfl⟩
  go_loopw [5, 6] (fun sv a wr => ∃ i : Nat, i ≤ g.c.length ∧ a = .int .i64 i ∧ sv = sV (A0 ++ upto g.c (fun x => sp (clWords x)) i) ∧ Hid (Below w3.heap.size w3 wr)) (fun _ a _ => (g.c.length - intOf a).toNat)
  case atStart => exact ⟨0, by omega, rfl, by rw [upto_zero, List.append_nil, hA0], Lib.hid (Below.refl _ _)⟩
  have HA0 := Lib.hid hA0
  have LA0 : Hid (A0.length ≤ 0) := Lib.hid (by rw [hA0]; simp)
  clear hA0
  case round =>
    obtain ⟨i, hi, rfl, rfl, Br⟩ := hrel
    by_cases hin : i = g.c.length
    case neg =>
      have hlt : i < g.c.length := by omega
      obtain ⟨x, hx⟩ : ∃ x, g.c[i]? = some x := ⟨g.c[i], List.getElem?_eq_getElem hlt⟩
      have hxm := List.mem_of_getElem? hx
      have hL1 : (A0 ++ upto g.c (fun x => sp (clWords x)) i).length ≤ 1000000 := by
        have h1 := upto_le (L := g.c) (f := fun x => sp (clWords x)) (cl_sp HC.out I) i
        have h2 := LA0.out
        have h3 : g.c.length * 300 ≤ 48 * 300 := Nat.mul_le_mul_right 300 (by omega)
        rw [List.length_append]
        omega
      have HX0 : A0 ++ upto g.c (fun x => sp (clWords x)) (i + 1) = (A0 ++ upto g.c (fun x => sp (clWords x)) i) ++ sp (clWords x) := by rw [upto_next (f := fun x => sp (clWords x)) hx, ← List.append_assoc]
      generalize A0 ++ upto g.c (fun x => sp (clWords x)) i = S at hL1 HX0 ⊢
      have k0 : wr.cell? ⟨gg, 0, none⟩ = some (.slice va g.c.length vi) := GG.out wr Br.out 0
      have HWX : Hid (∀ w7, Below wr.heap.size wr w7 → Below w3.heap.size w3 w7) := Lib.hid fun w7 h7 => Br.out.trans (h7.mono Br.out.size)
      obtain ⟨b1, o1, hA, hb1, c0, c1⟩ := at_cl H0.out.c hx
      change va = _ at hA
      subst hA
      have E0 : ∀ w7, Below w3.heap.size w3 w7 → w7.cell? ⟨b1, o1 + i * 2, none⟩ = some (sV x.n) := fun w7 h7 => ((HW.out w7 h7).cell (p := ⟨b1, o1 + i * 2, none⟩) hb1).trans c0
      replace E0 := Lib.hid E0
      have E1 : ∀ w7, Below w3.heap.size w3 w7 → w7.cell? ⟨b1, o1 + i * 2 + 1, none⟩ = some (.int .i64 x.w) := fun w7 h7 => ((HW.out w7 h7).cell (p := ⟨b1, o1 + i * 2 + 1, none⟩) hb1).trans c1
      replace E1 := Lib.hid E1
      clear hb1 c0 c1
      obtain ⟨n0, n1⟩ := I.c x hxm
      have NB := Lib.hid (fun w => numberR_any x.w n0 n1 w)
      have LENN := Lib.itoa_length_le x.w n0 n1
      have hn := cl_name' HC.out hxm
      have HX := Lib.hid (HX0.trans (cl_text S x.n (Lib.itoa x.w)).symm)
      clear n0 n1 hx hxm HX0
      go_upto_region 8 with fail
      clear k0
      refine region_full 173 [] [] (fun _ => false) (fun w7 => Below wr.heap.size wr w7 ∧ wr.heap.size ≤ w7.heap.size) ?hR ?r0 [pdOne 0 (Is (sV S)), pdOne 1 (Is (sV (S ++ [99, 108, 117, 115, 116, 101, 114, 32]))), pdOne 2 (Is (.pointer (some ⟨gg, 0, none⟩))), pdOne 3 (Is (.slice (some ⟨b1, o1, none⟩) g.c.length vi)), pdOne 4 (Is (.int .i64 i)), pdOne 5 (Is (.pointer (some ⟨b1, o1 + i * 2, none⟩))), pdOne 6 (Is (.pointer (some ⟨b1, o1 + i * 2, none⟩))), pdOne 7 (Is (sV x.n)), pdOne 8 (Is (sV ((S ++ [99, 108, 117, 115, 116, 101, 114, 32]) ++ x.n))), pdOne 9 (Is (sV (((S ++ [99, 108, 117, 115, 116, 101, 114, 32]) ++ x.n) ++ [32, 119, 111, 114, 107, 101, 114, 115, 61]))), pdOne 10 (Is (.pointer (some ⟨gg, 0, none⟩))), pdOne 11 (Is (.slice (some ⟨b1, o1, none⟩) g.c.length vi)), pdOne 12 (Is (.int .i64 i)), pdOne 13 (Is (.pointer (some ⟨b1, o1 + i * 2, none⟩))), pdOne 14 (Is (.pointer (some ⟨b1, o1 + i * 2 + 1, none⟩))), pdOne 15 (Is (.int .i64 x.w)), pdOne 16 (Is (sV (Lib.itoa x.w))), pdOne 17 (Is (sV ((((S ++ [99, 108, 117, 115, 116, 101, 114, 32]) ++ x.n) ++ [32, 119, 111, 114, 107, 101, 114, 115, 61]) ++ (Lib.itoa x.w)))), pdOne 18 (Is (sV (((((S ++ [99, 108, 117, 115, 116, 101, 114, 32]) ++ x.n) ++ [32, 119, 111, 114, 107, 101, 114, 115, 61]) ++ (Lib.itoa x.w)) ++ [10]))), pdOne 19 (Is (sV (((((S ++ [99, 108, 117, 115, 116, 101, 114, 32]) ++ x.n) ++ [32, 119, 111, 114, 107, 101, 114, 115, 61]) ++ (Lib.itoa x.w)) ++ [10])))] (fun _ _ => True) (by kernel_rfl) rfl (by kernel_rfl) (by kernel_rfl) (by kernel_rfl) (by kernel_rfl) ?keep ?hO ?h0 ?tell
      case hR => exact fun wa wb hb ⟨h1, h2⟩ => ⟨h1.trans (hb.mono h1.size), Nat.le_trans h2 hb.size⟩
      case r0 => exact ⟨Below.refl _ _, Nat.le_refl _⟩
      case keep => exact ⟨keep_one (keeps_is _), keep_one (keeps_is _), keep_one (keeps_is _), keep_one (keeps_is _), keep_one (keeps_is _), keep_one (keeps_is _), keep_one (keeps_is _), keep_one (keeps_is _), keep_one (keeps_is _), keep_one (keeps_is _), keep_one (keeps_is _), keep_one (keeps_is _), keep_one (keeps_is _), keep_one (keeps_is _), keep_one (keeps_is _), keep_one (keeps_is _), keep_one (keeps_is _), keep_one (keeps_is _), keep_one (keeps_is _), keep_one (keeps_is _), trivial⟩
      case hO => exact fun _ _ _ _ h => h
      case h0 => exact fun _ _ => trivial
      case tell =>
        intro fin hfin
        simp [lexPut, Act.put] at hfin
        simp only [TellF]
        refine ⟨⟨?_, ?_, ?_, ?_, ?_, ?_, ?_, ?_, ?_, ?_, ?_, ?_, ?_, ?_, ?_, ?_, ?_, ?_, ?_, ?_, trivial⟩, ?_⟩
        · intro v2 w7 hr hd
          refine yields_run (u := sV S) (w' := w7) ?_ (Below.refl _ _) rfl
          unfold execOp
          simp [go_sem, Act.eval]
        · intro v2 w7 hr hd
          have h0 : v2 0 = _ := hd 0 (by kernel_rfl)
          have ha : ({ data := S.toArray } : ByteArray) ++ { data := #[99, 108, 117, 115, 116, 101, 114, 32] } = ⟨(S ++ [99, 108, 117, 115, 116, 101, 114, 32]).toArray⟩ := str_app9 S [99, 108, 117, 115, 116, 101, 114, 32]
          refine yields_run (u := sV (S ++ [99, 108, 117, 115, 116, 101, 114, 32])) (w' := w7) ?_ (Below.refl _ _) rfl
          unfold execOp
          simp [go_sem, Act.eval, Act.put, h0, ha]
          omega
        · intro v2 w7 hr hd
          refine yields_run (u := .pointer (some ⟨gg, 0, none⟩)) (w' := w7) ?_ (Below.refl _ _) rfl
          unfold execOp
          simp [go_sem, Act.eval, Act.put]
        · intro v2 w7 hr hd
          have h2 : v2 2 = _ := hd 2 (by kernel_rfl)
          have c0 := (GG.out w7 (HWX.out w7 hr.1) 0)
          refine yields_run (u := .slice (some ⟨b1, o1, none⟩) g.c.length vi) (w' := w7) ?_ (Below.refl _ _) rfl
          unfold execOp
          simp [go_sem, Act.eval, Act.put, h2, c0]
        · intro v2 w7 hr hd
          refine yields_run (u := .int .i64 i) (w' := w7) ?_ (Below.refl _ _) rfl
          unfold execOp
          simp [go_sem, Act.eval, Act.put]
        · intro v2 w7 hr hd
          have h3 : v2 3 = _ := hd 3 (by kernel_rfl)
          have h4 : v2 4 = _ := hd 4 (by kernel_rfl)
          exact yields_index (b := b1) (off := o1) (n := g.c.length) (c := vi) (i := i) (m := 2) rfl (by simp [Act.eval, Act.put, h3, h4]) (by simp [Act.eval, Act.put, h3, h4]) hlt Tryd.underlying22 (by intro w; simp [Tryd.sizeOf67])
        · intro v2 w7 hr hd
          have h5 : v2 5 = _ := hd 5 (by kernel_rfl)
          refine yields_run (u := .pointer (some ⟨b1, o1 + i * 2, none⟩)) (w' := w7) ?_ (Below.refl _ _) rfl
          unfold execOp
          simp [go_sem, Act.eval, Act.put, h5]
        · intro v2 w7 hr hd
          have h6 : v2 6 = _ := hd 6 (by kernel_rfl)
          have c0 := (E0.out w7 (HWX.out w7 hr.1))
          refine yields_run (u := sV x.n) (w' := w7) ?_ (Below.refl _ _) rfl
          unfold execOp
          simp [go_sem, Act.eval, Act.put, h6, c0]
        · intro v2 w7 hr hd
          have h1 : v2 1 = _ := hd 1 (by kernel_rfl)
          have h7 : v2 7 = _ := hd 7 (by kernel_rfl)
          have hlen : ((S ++ [99, 108, 117, 115, 116, 101, 114, 32])).length ≤ 1001000 := by
            simp
            omega
          generalize (S ++ [99, 108, 117, 115, 116, 101, 114, 32]) = P at h1 hlen ⊢
          have ha : ({ data := P.toArray } : ByteArray) ++ { data := x.n.toArray } = ⟨(P ++ x.n).toArray⟩ := str_app9 P x.n
          refine yields_run (u := sV (P ++ x.n)) (w' := w7) ?_ (Below.refl _ _) rfl
          unfold execOp
          simp [go_sem, Act.eval, Act.put, h1, h7, ha]
          omega
        · intro v2 w7 hr hd
          have h8 : v2 8 = _ := hd 8 (by kernel_rfl)
          have hlen : (((S ++ [99, 108, 117, 115, 116, 101, 114, 32]) ++ x.n)).length ≤ 1001000 := by
            simp
            omega
          generalize ((S ++ [99, 108, 117, 115, 116, 101, 114, 32]) ++ x.n) = P at h8 hlen ⊢
          have ha : ({ data := P.toArray } : ByteArray) ++ { data := #[32, 119, 111, 114, 107, 101, 114, 115, 61] } = ⟨(P ++ [32, 119, 111, 114, 107, 101, 114, 115, 61]).toArray⟩ := str_app9 P [32, 119, 111, 114, 107, 101, 114, 115, 61]
          refine yields_run (u := sV (P ++ [32, 119, 111, 114, 107, 101, 114, 115, 61])) (w' := w7) ?_ (Below.refl _ _) rfl
          unfold execOp
          simp [go_sem, Act.eval, Act.put, h8, ha]
          omega
        · intro v2 w7 hr hd
          refine yields_run (u := .pointer (some ⟨gg, 0, none⟩)) (w' := w7) ?_ (Below.refl _ _) rfl
          unfold execOp
          simp [go_sem, Act.eval, Act.put]
        · intro v2 w7 hr hd
          have h10 : v2 10 = _ := hd 10 (by kernel_rfl)
          have c0 := (GG.out w7 (HWX.out w7 hr.1) 0)
          refine yields_run (u := .slice (some ⟨b1, o1, none⟩) g.c.length vi) (w' := w7) ?_ (Below.refl _ _) rfl
          unfold execOp
          simp [go_sem, Act.eval, Act.put, h10, c0]
        · intro v2 w7 hr hd
          refine yields_run (u := .int .i64 i) (w' := w7) ?_ (Below.refl _ _) rfl
          unfold execOp
          simp [go_sem, Act.eval, Act.put]
        · intro v2 w7 hr hd
          have h11 : v2 11 = _ := hd 11 (by kernel_rfl)
          have h12 : v2 12 = _ := hd 12 (by kernel_rfl)
          exact yields_index (b := b1) (off := o1) (n := g.c.length) (c := vi) (i := i) (m := 2) rfl (by simp [Act.eval, Act.put, h11, h12]) (by simp [Act.eval, Act.put, h11, h12]) hlt Tryd.underlying22 (by intro w; simp [Tryd.sizeOf67])
        · intro v2 w7 hr hd
          have h13 : v2 13 = _ := hd 13 (by kernel_rfl)
          refine yields_run (u := .pointer (some ⟨b1, o1 + i * 2 + 1, none⟩)) (w' := w7) ?_ (Below.refl _ _) rfl
          unfold execOp
          simp [go_sem, Act.eval, Act.put, h13]
        · intro v2 w7 hr hd
          have h14 : v2 14 = _ := hd 14 (by kernel_rfl)
          have c0 := (E1.out w7 (HWX.out w7 hr.1))
          refine yields_run (u := .int .i64 x.w) (w' := w7) ?_ (Below.refl _ _) rfl
          unfold execOp
          simp [go_sem, Act.eval, Act.put, h14, c0]
        · intro v2 w7 hr hd
          have h15 : v2 15 = _ := hd 15 (by kernel_rfl)
          refine yields_call (f := 28) rfl (vs := #[.int .i64 x.w]) (by simp [Act.eval, Act.put, h15]) rfl Tryd.func28 (by kernel_rfl) (by kernel_rfl) ((NB.out w7).mono fun e w8 ⟨he, hb⟩ => ⟨_, he, hb, rfl⟩)
        · intro v2 w7 hr hd
          have h9 : v2 9 = _ := hd 9 (by kernel_rfl)
          have h16 : v2 16 = _ := hd 16 (by kernel_rfl)
          have hlen : ((((S ++ [99, 108, 117, 115, 116, 101, 114, 32]) ++ x.n) ++ [32, 119, 111, 114, 107, 101, 114, 115, 61])).length ≤ 1001000 := by
            simp
            omega
          generalize (((S ++ [99, 108, 117, 115, 116, 101, 114, 32]) ++ x.n) ++ [32, 119, 111, 114, 107, 101, 114, 115, 61]) = P at h9 hlen ⊢
          have ha : ({ data := P.toArray } : ByteArray) ++ { data := (Lib.itoa x.w).toArray } = ⟨(P ++ (Lib.itoa x.w)).toArray⟩ := str_app9 P (Lib.itoa x.w)
          refine yields_run (u := sV (P ++ (Lib.itoa x.w))) (w' := w7) ?_ (Below.refl _ _) rfl
          unfold execOp
          simp [go_sem, Act.eval, Act.put, h9, h16, ha]
          omega
        · intro v2 w7 hr hd
          have h17 : v2 17 = _ := hd 17 (by kernel_rfl)
          have hlen : (((((S ++ [99, 108, 117, 115, 116, 101, 114, 32]) ++ x.n) ++ [32, 119, 111, 114, 107, 101, 114, 115, 61]) ++ (Lib.itoa x.w))).length ≤ 1001000 := by
            simp
            omega
          generalize ((((S ++ [99, 108, 117, 115, 116, 101, 114, 32]) ++ x.n) ++ [32, 119, 111, 114, 107, 101, 114, 115, 61]) ++ (Lib.itoa x.w)) = P at h17 hlen ⊢
          have ha : ({ data := P.toArray } : ByteArray) ++ { data := #[10] } = ⟨(P ++ [10]).toArray⟩ := str_app9 P [10]
          refine yields_run (u := sV (P ++ [10])) (w' := w7) ?_ (Below.refl _ _) rfl
          unfold execOp
          simp [go_sem, Act.eval, Act.put, h17, ha]
          omega
        · intro v2 w7 hr hd
          have h18 : v2 18 = _ := hd 18 (by kernel_rfl)
          refine yields_run (u := sV (((((S ++ [99, 108, 117, 115, 116, 101, 114, 32]) ++ x.n) ++ [32, 119, 111, 114, 107, 101, 114, 115, 61]) ++ (Lib.itoa x.w)) ++ [10])) (w' := w7) ?_ (Below.refl _ _) rfl
          unfold execOp
          simp [go_sem, Act.eval, Act.put, h18]
        · intro v2 w7 hr hv
          have hb9 := hv 19 (by decide)
          have hR := hr.1
          rw [hfin]
          clear hfin hv hr
          go_wp2_with fail
          go_roundw
          case rel => exact ⟨i + 1, hlt, by go_num, by rw [HX.out]; exact hb9, Lib.hid (Br.out.trans (hR.mono Br.out.size))⟩
          case measure => simp [intOf]; omega
    subst hin
    have hlt : ¬ ((g.c.length : Int) < g.c.length) := by omega
    rw [upto_all]
    have LB0 : (A0 ++ (g.c.map (fun x => sp (clWords x))).flatten).length ≤ 100000 := by
      have h1 := upto_le (L := g.c) (f := fun x => sp (clWords x)) (cl_sp HC.out I) g.c.length
      have h2 := LA0.out
      have h3 : g.c.length * 300 ≤ 48 * 300 := Nat.mul_le_mul_right 300 (by omega)
      rw [upto_all] at h1
      rw [List.length_append]
      omega
    obtain ⟨u0, hnw⟩ : ∃ u0, u0 = wr := ⟨_, rfl⟩
    subst hnw
    have k0 : u0.cell? ⟨gg, 0, none⟩ = some (.slice va g.c.length vi) := GG.out u0 Br.out 0
    go_upto_region 9 with fail
    clear k0
    have k0 : u0.cell? ⟨gg, 1, none⟩ = some (.slice vb g.l.length vj) := GG.out u0 Br.out 1
    go_upto_region 10 with fail
    clear k0
    go_wp2_with fail
    obtain ⟨A1, hA1⟩ : ∃ A1, A1 = A0 ++ (g.c.map (fun x => sp (clWords x))).flatten := ⟨_, rfl⟩
    go_loopw [5, 7] (fun sv a wr => ∃ i : Nat, i ≤ g.l.length ∧ a = .int .i64 i ∧ sv = sV (A1 ++ upto g.l (fun x => sp (loWords g x)) i) ∧ Hid (Below w3.heap.size w3 wr)) (fun _ a _ => (g.l.length - intOf a).toNat)
    case atStart => exact ⟨0, by omega, rfl, by rw [upto_zero, List.append_nil, hA1], Br⟩
    have HA1 := Lib.hid hA1
    have LA1 : Hid (A1.length ≤ 100000) := Lib.hid (by rw [hA1]; exact LB0)
    clear hA1
    case round =>
      obtain ⟨i, hi, rfl, rfl, Br⟩ := hrel
      by_cases hin : i = g.l.length
      case neg =>
        have hlt : i < g.l.length := by omega
        obtain ⟨x, hx⟩ : ∃ x, g.l[i]? = some x := ⟨g.l[i], List.getElem?_eq_getElem hlt⟩
        have hxm := List.mem_of_getElem? hx
        have hL1 : (A1 ++ upto g.l (fun x => sp (loWords g x)) i).length ≤ 1000000 := by
          have h1 := upto_le (L := g.l) (f := fun x => sp (loWords g x)) (lo_sp HC.out I) i
          have h2 := LA1.out
          have h3 : g.l.length * 300 ≤ 48 * 300 := Nat.mul_le_mul_right 300 (by omega)
          rw [List.length_append]
          omega
        have HX0 : A1 ++ upto g.l (fun x => sp (loWords g x)) (i + 1) = (A1 ++ upto g.l (fun x => sp (loWords g x)) i) ++ sp (loWords g x) := by rw [upto_next (f := fun x => sp (loWords g x)) hx, ← List.append_assoc]
        generalize A1 ++ upto g.l (fun x => sp (loWords g x)) i = S at hL1 HX0 ⊢
        have k0 : wr.cell? ⟨gg, 1, none⟩ = some (.slice vb g.l.length vj) := GG.out wr Br.out 1
        have HWX : Hid (∀ w7, Below wr.heap.size wr w7 → Below w3.heap.size w3 w7) := Lib.hid fun w7 h7 => Br.out.trans (h7.mono Br.out.size)
        obtain ⟨b1, o1, hA, hb1, c0, c1, c2⟩ := at_lo H0.out.l hx
        change vb = _ at hA
        subst hA
        have E0 : ∀ w7, Below w3.heap.size w3 w7 → w7.cell? ⟨b1, o1 + i * 3, none⟩ = some (sV x.n) := fun w7 h7 => ((HW.out w7 h7).cell (p := ⟨b1, o1 + i * 3, none⟩) hb1).trans c0
        replace E0 := Lib.hid E0
        have E1 : ∀ w7, Below w3.heap.size w3 w7 → w7.cell? ⟨b1, o1 + i * 3 + 1, none⟩ = some (.int .i64 x.u) := fun w7 h7 => ((HW.out w7 h7).cell (p := ⟨b1, o1 + i * 3 + 1, none⟩) hb1).trans c1
        replace E1 := Lib.hid E1
        have E2 : ∀ w7, Below w3.heap.size w3 w7 → w7.cell? ⟨b1, o1 + i * 3 + 2, none⟩ = some (.int .i64 x.r) := fun w7 h7 => ((HW.out w7 h7).cell (p := ⟨b1, o1 + i * 3 + 2, none⟩) hb1).trans c2
        replace E2 := Lib.hid E2
        clear hb1 c0 c1 c2
        obtain ⟨-, n0, n1⟩ := I.l x hxm
        have NB := Lib.hid (fun w => numberR_any x.r n0 n1 w)
        have LENN := Lib.itoa_length_le x.r n0 n1
        have hn := lo_name HC.out hxm
        have hu := loopN_len HC.out x.u
        obtain ⟨u0, u1⟩ := lo_range HC.out hxm
        have IWX := Lib.hid (IW.out x.u u0 u1)
        have HX := Lib.hid (HX0.trans (lo_text S x.n (loopN g x.u) (Lib.itoa x.r)).symm)
        clear n0 n1 u0 u1 hx hxm HX0
        go_upto_region 12 with fail
        clear k0
        refine region_full 173 [] [] (fun _ => false) (fun w7 => Below wr.heap.size wr w7 ∧ wr.heap.size ≤ w7.heap.size) ?hR ?r0 [pdOne 0 (Is (sV S)), pdOne 1 (Is (sV (S ++ [108, 111, 111, 112, 32]))), pdOne 2 (Is (.pointer (some ⟨gg, 1, none⟩))), pdOne 3 (Is (.slice (some ⟨b1, o1, none⟩) g.l.length vj)), pdOne 4 (Is (.int .i64 i)), pdOne 5 (Is (.pointer (some ⟨b1, o1 + i * 3, none⟩))), pdOne 6 (Is (.pointer (some ⟨b1, o1 + i * 3, none⟩))), pdOne 7 (Is (sV x.n)), pdOne 8 (Is (sV ((S ++ [108, 111, 111, 112, 32]) ++ x.n))), pdOne 9 (Is (sV (((S ++ [108, 111, 111, 112, 32]) ++ x.n) ++ [32, 105, 110, 61]))), pdOne 10 (Is (.agg #[.slice va g.c.length vi, .slice (some ⟨b1, o1, none⟩) g.l.length vj, .slice vd g.o.length vk, .slice ve g.h.length vm])), pdOne 11 (Is (.pointer (some ⟨gg, 1, none⟩))), pdOne 12 (Is (.slice (some ⟨b1, o1, none⟩) g.l.length vj)), pdOne 13 (Is (.int .i64 i)), pdOne 14 (Is (.pointer (some ⟨b1, o1 + i * 3, none⟩))), pdOne 15 (Is (.pointer (some ⟨b1, o1 + i * 3 + 1, none⟩))), pdOne 16 (Is (.int .i64 x.u)), pdOne 17 (Is (sV (loopN g x.u))), pdOne 18 (Is (sV ((((S ++ [108, 111, 111, 112, 32]) ++ x.n) ++ [32, 105, 110, 61]) ++ (loopN g x.u)))), pdOne 19 (Is (sV (((((S ++ [108, 111, 111, 112, 32]) ++ x.n) ++ [32, 105, 110, 61]) ++ (loopN g x.u)) ++ [32, 114, 111, 117, 110, 100, 115, 61]))), pdOne 20 (Is (.pointer (some ⟨gg, 1, none⟩))), pdOne 21 (Is (.slice (some ⟨b1, o1, none⟩) g.l.length vj)), pdOne 22 (Is (.int .i64 i)), pdOne 23 (Is (.pointer (some ⟨b1, o1 + i * 3, none⟩))), pdOne 24 (Is (.pointer (some ⟨b1, o1 + i * 3 + 2, none⟩))), pdOne 25 (Is (.int .i64 x.r)), pdOne 26 (Is (sV (Lib.itoa x.r))), pdOne 27 (Is (sV ((((((S ++ [108, 111, 111, 112, 32]) ++ x.n) ++ [32, 105, 110, 61]) ++ (loopN g x.u)) ++ [32, 114, 111, 117, 110, 100, 115, 61]) ++ (Lib.itoa x.r)))), pdOne 28 (Is (sV (((((((S ++ [108, 111, 111, 112, 32]) ++ x.n) ++ [32, 105, 110, 61]) ++ (loopN g x.u)) ++ [32, 114, 111, 117, 110, 100, 115, 61]) ++ (Lib.itoa x.r)) ++ [10]))), pdOne 29 (Is (sV (((((((S ++ [108, 111, 111, 112, 32]) ++ x.n) ++ [32, 105, 110, 61]) ++ (loopN g x.u)) ++ [32, 114, 111, 117, 110, 100, 115, 61]) ++ (Lib.itoa x.r)) ++ [10])))] (fun _ _ => True) (by kernel_rfl) rfl (by kernel_rfl) (by kernel_rfl) (by kernel_rfl) (by kernel_rfl) ?keep ?hO ?h0 ?tell
        case hR => exact fun wa wb hb ⟨h1, h2⟩ => ⟨h1.trans (hb.mono h1.size), Nat.le_trans h2 hb.size⟩
        case r0 => exact ⟨Below.refl _ _, Nat.le_refl _⟩
        case keep => exact ⟨keep_one (keeps_is _), keep_one (keeps_is _), keep_one (keeps_is _), keep_one (keeps_is _), keep_one (keeps_is _), keep_one (keeps_is _), keep_one (keeps_is _), keep_one (keeps_is _), keep_one (keeps_is _), keep_one (keeps_is _), keep_one (keeps_is _), keep_one (keeps_is _), keep_one (keeps_is _), keep_one (keeps_is _), keep_one (keeps_is _), keep_one (keeps_is _), keep_one (keeps_is _), keep_one (keeps_is _), keep_one (keeps_is _), keep_one (keeps_is _), keep_one (keeps_is _), keep_one (keeps_is _), keep_one (keeps_is _), keep_one (keeps_is _), keep_one (keeps_is _), keep_one (keeps_is _), keep_one (keeps_is _), keep_one (keeps_is _), keep_one (keeps_is _), keep_one (keeps_is _), trivial⟩
        case hO => exact fun _ _ _ _ h => h
        case h0 => exact fun _ _ => trivial
        case tell =>
          intro fin hfin
          simp [lexPut, Act.put] at hfin
          simp only [TellF]
          refine ⟨⟨?_, ?_, ?_, ?_, ?_, ?_, ?_, ?_, ?_, ?_, ?_, ?_, ?_, ?_, ?_, ?_, ?_, ?_, ?_, ?_, ?_, ?_, ?_, ?_, ?_, ?_, ?_, ?_, ?_, ?_, trivial⟩, ?_⟩
          · intro v2 w7 hr hd
            refine yields_run (u := sV S) (w' := w7) ?_ (Below.refl _ _) rfl
            unfold execOp
            simp [go_sem, Act.eval]
          · intro v2 w7 hr hd
            have h0 : v2 0 = _ := hd 0 (by kernel_rfl)
            have ha : ({ data := S.toArray } : ByteArray) ++ { data := #[108, 111, 111, 112, 32] } = ⟨(S ++ [108, 111, 111, 112, 32]).toArray⟩ := str_app9 S [108, 111, 111, 112, 32]
            refine yields_run (u := sV (S ++ [108, 111, 111, 112, 32])) (w' := w7) ?_ (Below.refl _ _) rfl
            unfold execOp
            simp [go_sem, Act.eval, Act.put, h0, ha]
            omega
          · intro v2 w7 hr hd
            refine yields_run (u := .pointer (some ⟨gg, 1, none⟩)) (w' := w7) ?_ (Below.refl _ _) rfl
            unfold execOp
            simp [go_sem, Act.eval, Act.put]
          · intro v2 w7 hr hd
            have h2 : v2 2 = _ := hd 2 (by kernel_rfl)
            have c0 := (GG.out w7 (HWX.out w7 hr.1) 1)
            refine yields_run (u := .slice (some ⟨b1, o1, none⟩) g.l.length vj) (w' := w7) ?_ (Below.refl _ _) rfl
            unfold execOp
            simp [go_sem, Act.eval, Act.put, h2, c0]
          · intro v2 w7 hr hd
            refine yields_run (u := .int .i64 i) (w' := w7) ?_ (Below.refl _ _) rfl
            unfold execOp
            simp [go_sem, Act.eval, Act.put]
          · intro v2 w7 hr hd
            have h3 : v2 3 = _ := hd 3 (by kernel_rfl)
            have h4 : v2 4 = _ := hd 4 (by kernel_rfl)
            exact yields_index (b := b1) (off := o1) (n := g.l.length) (c := vj) (i := i) (m := 3) rfl (by simp [Act.eval, Act.put, h3, h4]) (by simp [Act.eval, Act.put, h3, h4]) hlt Tryd.underlying23 (by intro w; simp [Tryd.sizeOf69])
          · intro v2 w7 hr hd
            have h5 : v2 5 = _ := hd 5 (by kernel_rfl)
            refine yields_run (u := .pointer (some ⟨b1, o1 + i * 3, none⟩)) (w' := w7) ?_ (Below.refl _ _) rfl
            unfold execOp
            simp [go_sem, Act.eval, Act.put, h5]
          · intro v2 w7 hr hd
            have h6 : v2 6 = _ := hd 6 (by kernel_rfl)
            have c0 := (E0.out w7 (HWX.out w7 hr.1))
            refine yields_run (u := sV x.n) (w' := w7) ?_ (Below.refl _ _) rfl
            unfold execOp
            simp [go_sem, Act.eval, Act.put, h6, c0]
          · intro v2 w7 hr hd
            have h1 : v2 1 = _ := hd 1 (by kernel_rfl)
            have h7 : v2 7 = _ := hd 7 (by kernel_rfl)
            have hlen : ((S ++ [108, 111, 111, 112, 32])).length ≤ 1001000 := by
              simp
              omega
            generalize (S ++ [108, 111, 111, 112, 32]) = P at h1 hlen ⊢
            have ha : ({ data := P.toArray } : ByteArray) ++ { data := x.n.toArray } = ⟨(P ++ x.n).toArray⟩ := str_app9 P x.n
            refine yields_run (u := sV (P ++ x.n)) (w' := w7) ?_ (Below.refl _ _) rfl
            unfold execOp
            simp [go_sem, Act.eval, Act.put, h1, h7, ha]
            omega
          · intro v2 w7 hr hd
            have h8 : v2 8 = _ := hd 8 (by kernel_rfl)
            have hlen : (((S ++ [108, 111, 111, 112, 32]) ++ x.n)).length ≤ 1001000 := by
              simp
              omega
            generalize ((S ++ [108, 111, 111, 112, 32]) ++ x.n) = P at h8 hlen ⊢
            have ha : ({ data := P.toArray } : ByteArray) ++ { data := #[32, 105, 110, 61] } = ⟨(P ++ [32, 105, 110, 61]).toArray⟩ := str_app9 P [32, 105, 110, 61]
            refine yields_run (u := sV (P ++ [32, 105, 110, 61])) (w' := w7) ?_ (Below.refl _ _) rfl
            unfold execOp
            simp [go_sem, Act.eval, Act.put, h8, ha]
            omega
          · intro v2 w7 hr hd
            have c0 := (GG.out w7 (HWX.out w7 hr.1) 0)
            have c1 := (GG.out w7 (HWX.out w7 hr.1) 1)
            have c2 := (GG.out w7 (HWX.out w7 hr.1) 2)
            have c3 := (GG.out w7 (HWX.out w7 hr.1) 3)
            refine yields_run (u := .agg #[.slice va g.c.length vi, .slice (some ⟨b1, o1, none⟩) g.l.length vj, .slice vd g.o.length vk, .slice ve g.h.length vm]) (w' := w7) ?_ (Below.refl _ _) rfl
            unfold execOp
            simp [go_sem, Act.eval, Act.put, c0, c1, c2, c3]
          · intro v2 w7 hr hd
            refine yields_run (u := .pointer (some ⟨gg, 1, none⟩)) (w' := w7) ?_ (Below.refl _ _) rfl
            unfold execOp
            simp [go_sem, Act.eval, Act.put]
          · intro v2 w7 hr hd
            have h11 : v2 11 = _ := hd 11 (by kernel_rfl)
            have c0 := (GG.out w7 (HWX.out w7 hr.1) 1)
            refine yields_run (u := .slice (some ⟨b1, o1, none⟩) g.l.length vj) (w' := w7) ?_ (Below.refl _ _) rfl
            unfold execOp
            simp [go_sem, Act.eval, Act.put, h11, c0]
          · intro v2 w7 hr hd
            refine yields_run (u := .int .i64 i) (w' := w7) ?_ (Below.refl _ _) rfl
            unfold execOp
            simp [go_sem, Act.eval, Act.put]
          · intro v2 w7 hr hd
            have h12 : v2 12 = _ := hd 12 (by kernel_rfl)
            have h13 : v2 13 = _ := hd 13 (by kernel_rfl)
            exact yields_index (b := b1) (off := o1) (n := g.l.length) (c := vj) (i := i) (m := 3) rfl (by simp [Act.eval, Act.put, h12, h13]) (by simp [Act.eval, Act.put, h12, h13]) hlt Tryd.underlying23 (by intro w; simp [Tryd.sizeOf69])
          · intro v2 w7 hr hd
            have h14 : v2 14 = _ := hd 14 (by kernel_rfl)
            refine yields_run (u := .pointer (some ⟨b1, o1 + i * 3 + 1, none⟩)) (w' := w7) ?_ (Below.refl _ _) rfl
            unfold execOp
            simp [go_sem, Act.eval, Act.put, h14]
          · intro v2 w7 hr hd
            have h15 : v2 15 = _ := hd 15 (by kernel_rfl)
            have c0 := (E1.out w7 (HWX.out w7 hr.1))
            refine yields_run (u := .int .i64 x.u) (w' := w7) ?_ (Below.refl _ _) rfl
            unfold execOp
            simp [go_sem, Act.eval, Act.put, h15, c0]
          · intro v2 w7 hr hd
            have h10 : v2 10 = _ := hd 10 (by kernel_rfl)
            have h16 : v2 16 = _ := hd 16 (by kernel_rfl)
            refine yields_call (f := 29) rfl (vs := #[.agg #[.slice va g.c.length vi, .slice (some ⟨b1, o1, none⟩) g.l.length vj, .slice vd g.o.length vk, .slice ve g.h.length vm], .int .i64 x.u]) (by simp [Act.eval, Act.put, h10, h16]) rfl Tryd.func29 (by kernel_rfl) (by kernel_rfl) ((IWX.out w7 (HL.out w7 (HWX.out w7 hr.1))).mono fun e w8 ⟨he, hb⟩ => ⟨_, he, hb, rfl⟩)
          · intro v2 w7 hr hd
            have h9 : v2 9 = _ := hd 9 (by kernel_rfl)
            have h17 : v2 17 = _ := hd 17 (by kernel_rfl)
            have hlen : ((((S ++ [108, 111, 111, 112, 32]) ++ x.n) ++ [32, 105, 110, 61])).length ≤ 1001000 := by
              simp
              omega
            generalize (((S ++ [108, 111, 111, 112, 32]) ++ x.n) ++ [32, 105, 110, 61]) = P at h9 hlen ⊢
            have ha : ({ data := P.toArray } : ByteArray) ++ { data := (loopN g x.u).toArray } = ⟨(P ++ (loopN g x.u)).toArray⟩ := str_app9 P (loopN g x.u)
            refine yields_run (u := sV (P ++ (loopN g x.u))) (w' := w7) ?_ (Below.refl _ _) rfl
            unfold execOp
            simp [go_sem, Act.eval, Act.put, h9, h17, ha]
            omega
          · intro v2 w7 hr hd
            have h18 : v2 18 = _ := hd 18 (by kernel_rfl)
            have hlen : (((((S ++ [108, 111, 111, 112, 32]) ++ x.n) ++ [32, 105, 110, 61]) ++ (loopN g x.u))).length ≤ 1001000 := by
              simp
              omega
            generalize ((((S ++ [108, 111, 111, 112, 32]) ++ x.n) ++ [32, 105, 110, 61]) ++ (loopN g x.u)) = P at h18 hlen ⊢
            have ha : ({ data := P.toArray } : ByteArray) ++ { data := #[32, 114, 111, 117, 110, 100, 115, 61] } = ⟨(P ++ [32, 114, 111, 117, 110, 100, 115, 61]).toArray⟩ := str_app9 P [32, 114, 111, 117, 110, 100, 115, 61]
            refine yields_run (u := sV (P ++ [32, 114, 111, 117, 110, 100, 115, 61])) (w' := w7) ?_ (Below.refl _ _) rfl
            unfold execOp
            simp [go_sem, Act.eval, Act.put, h18, ha]
            omega
          · intro v2 w7 hr hd
            refine yields_run (u := .pointer (some ⟨gg, 1, none⟩)) (w' := w7) ?_ (Below.refl _ _) rfl
            unfold execOp
            simp [go_sem, Act.eval, Act.put]
          · intro v2 w7 hr hd
            have h20 : v2 20 = _ := hd 20 (by kernel_rfl)
            have c0 := (GG.out w7 (HWX.out w7 hr.1) 1)
            refine yields_run (u := .slice (some ⟨b1, o1, none⟩) g.l.length vj) (w' := w7) ?_ (Below.refl _ _) rfl
            unfold execOp
            simp [go_sem, Act.eval, Act.put, h20, c0]
          · intro v2 w7 hr hd
            refine yields_run (u := .int .i64 i) (w' := w7) ?_ (Below.refl _ _) rfl
            unfold execOp
            simp [go_sem, Act.eval, Act.put]
          · intro v2 w7 hr hd
            have h21 : v2 21 = _ := hd 21 (by kernel_rfl)
            have h22 : v2 22 = _ := hd 22 (by kernel_rfl)
            exact yields_index (b := b1) (off := o1) (n := g.l.length) (c := vj) (i := i) (m := 3) rfl (by simp [Act.eval, Act.put, h21, h22]) (by simp [Act.eval, Act.put, h21, h22]) hlt Tryd.underlying23 (by intro w; simp [Tryd.sizeOf69])
          · intro v2 w7 hr hd
            have h23 : v2 23 = _ := hd 23 (by kernel_rfl)
            refine yields_run (u := .pointer (some ⟨b1, o1 + i * 3 + 2, none⟩)) (w' := w7) ?_ (Below.refl _ _) rfl
            unfold execOp
            simp [go_sem, Act.eval, Act.put, h23]
          · intro v2 w7 hr hd
            have h24 : v2 24 = _ := hd 24 (by kernel_rfl)
            have c0 := (E2.out w7 (HWX.out w7 hr.1))
            refine yields_run (u := .int .i64 x.r) (w' := w7) ?_ (Below.refl _ _) rfl
            unfold execOp
            simp [go_sem, Act.eval, Act.put, h24, c0]
          · intro v2 w7 hr hd
            have h25 : v2 25 = _ := hd 25 (by kernel_rfl)
            refine yields_call (f := 28) rfl (vs := #[.int .i64 x.r]) (by simp [Act.eval, Act.put, h25]) rfl Tryd.func28 (by kernel_rfl) (by kernel_rfl) ((NB.out w7).mono fun e w8 ⟨he, hb⟩ => ⟨_, he, hb, rfl⟩)
          · intro v2 w7 hr hd
            have h19 : v2 19 = _ := hd 19 (by kernel_rfl)
            have h26 : v2 26 = _ := hd 26 (by kernel_rfl)
            have hlen : ((((((S ++ [108, 111, 111, 112, 32]) ++ x.n) ++ [32, 105, 110, 61]) ++ (loopN g x.u)) ++ [32, 114, 111, 117, 110, 100, 115, 61])).length ≤ 1001000 := by
              simp
              omega
            generalize (((((S ++ [108, 111, 111, 112, 32]) ++ x.n) ++ [32, 105, 110, 61]) ++ (loopN g x.u)) ++ [32, 114, 111, 117, 110, 100, 115, 61]) = P at h19 hlen ⊢
            have ha : ({ data := P.toArray } : ByteArray) ++ { data := (Lib.itoa x.r).toArray } = ⟨(P ++ (Lib.itoa x.r)).toArray⟩ := str_app9 P (Lib.itoa x.r)
            refine yields_run (u := sV (P ++ (Lib.itoa x.r))) (w' := w7) ?_ (Below.refl _ _) rfl
            unfold execOp
            simp [go_sem, Act.eval, Act.put, h19, h26, ha]
            omega
          · intro v2 w7 hr hd
            have h27 : v2 27 = _ := hd 27 (by kernel_rfl)
            have hlen : (((((((S ++ [108, 111, 111, 112, 32]) ++ x.n) ++ [32, 105, 110, 61]) ++ (loopN g x.u)) ++ [32, 114, 111, 117, 110, 100, 115, 61]) ++ (Lib.itoa x.r))).length ≤ 1001000 := by
              simp
              omega
            generalize ((((((S ++ [108, 111, 111, 112, 32]) ++ x.n) ++ [32, 105, 110, 61]) ++ (loopN g x.u)) ++ [32, 114, 111, 117, 110, 100, 115, 61]) ++ (Lib.itoa x.r)) = P at h27 hlen ⊢
            have ha : ({ data := P.toArray } : ByteArray) ++ { data := #[10] } = ⟨(P ++ [10]).toArray⟩ := str_app9 P [10]
            refine yields_run (u := sV (P ++ [10])) (w' := w7) ?_ (Below.refl _ _) rfl
            unfold execOp
            simp [go_sem, Act.eval, Act.put, h27, ha]
            omega
          · intro v2 w7 hr hd
            have h28 : v2 28 = _ := hd 28 (by kernel_rfl)
            refine yields_run (u := sV (((((((S ++ [108, 111, 111, 112, 32]) ++ x.n) ++ [32, 105, 110, 61]) ++ (loopN g x.u)) ++ [32, 114, 111, 117, 110, 100, 115, 61]) ++ (Lib.itoa x.r)) ++ [10])) (w' := w7) ?_ (Below.refl _ _) rfl
            unfold execOp
            simp [go_sem, Act.eval, Act.put, h28]
          · intro v2 w7 hr hv
            have hb9 := hv 29 (by decide)
            have hR := hr.1
            rw [hfin]
            clear hfin hv hr
            go_wp2_with fail
            go_roundw
            case rel => exact ⟨i + 1, hlt, by go_num, by rw [HX.out]; exact hb9, Lib.hid (Br.out.trans (hR.mono Br.out.size))⟩
            case measure => simp [intOf]; omega
      subst hin
      have hlt : ¬ ((g.l.length : Int) < g.l.length) := by omega
      rw [upto_all]
      have LB1 : (A1 ++ (g.l.map (fun x => sp (loWords g x))).flatten).length ≤ 200000 := by
        have h1 := upto_le (L := g.l) (f := fun x => sp (loWords g x)) (lo_sp HC.out I) g.l.length
        have h2 := LA1.out
        have h3 : g.l.length * 300 ≤ 48 * 300 := Nat.mul_le_mul_right 300 (by omega)
        rw [upto_all] at h1
        rw [List.length_append]
        omega
      obtain ⟨u1, hnw⟩ : ∃ u1, u1 = wr := ⟨_, rfl⟩
      subst hnw
      have k0 : u1.cell? ⟨gg, 1, none⟩ = some (.slice vb g.l.length vj) := GG.out u1 Br.out 1
      go_upto_region 13 with fail
      clear k0
      have k0 : u1.cell? ⟨gg, 2, none⟩ = some (.slice vd g.o.length vk) := GG.out u1 Br.out 2
      go_upto_region 14 with fail
      clear k0
      go_wp2_with fail
      obtain ⟨A2, hA2⟩ : ∃ A2, A2 = A1 ++ (g.l.map (fun x => sp (loWords g x))).flatten := ⟨_, rfl⟩
      go_loopw [5, 8] (fun sv a wr => ∃ i : Nat, i ≤ g.o.length ∧ a = .int .i64 i ∧ sv = sV (A2 ++ upto g.o (fun x => sp (oqWords g x)) i) ∧ Hid (Below w3.heap.size w3 wr)) (fun _ a _ => (g.o.length - intOf a).toNat)
      case atStart => exact ⟨0, by omega, rfl, by rw [upto_zero, List.append_nil, hA2], Br⟩
      have HA2 := Lib.hid hA2
      have LA2 : Hid (A2.length ≤ 200000) := Lib.hid (by rw [hA2]; exact LB1)
      clear hA2
      case round =>
        obtain ⟨i, hi, rfl, rfl, Br⟩ := hrel
        by_cases hin : i = g.o.length
        case neg =>
          have hlt : i < g.o.length := by omega
          obtain ⟨x, hx⟩ : ∃ x, g.o[i]? = some x := ⟨g.o[i], List.getElem?_eq_getElem hlt⟩
          have hxm := List.mem_of_getElem? hx
          have hL1 : (A2 ++ upto g.o (fun x => sp (oqWords g x)) i).length ≤ 1000000 := by
            have h1 := upto_le (L := g.o) (f := fun x => sp (oqWords g x)) (oq_sp HC.out I) i
            have h2 := LA2.out
            have h3 : g.o.length * 300 ≤ 48 * 300 := Nat.mul_le_mul_right 300 (by omega)
            rw [List.length_append]
            omega
          have HX0 : A2 ++ upto g.o (fun x => sp (oqWords g x)) (i + 1) = (A2 ++ upto g.o (fun x => sp (oqWords g x)) i) ++ sp (oqWords g x) := by rw [upto_next (f := fun x => sp (oqWords g x)) hx, ← List.append_assoc]
          generalize A2 ++ upto g.o (fun x => sp (oqWords g x)) i = S at hL1 HX0 ⊢
          have k0 : wr.cell? ⟨gg, 2, none⟩ = some (.slice vd g.o.length vk) := GG.out wr Br.out 2
          obtain ⟨-, -, -, ⟨a0, a1⟩, y0, y1⟩ := I.o x hxm
          have NA := Lib.hid (fun w => numberR_any x.x a0 a1 w)
          have NB := Lib.hid (fun w => numberR_any x.y y0 y1 w)
          have LENA := Lib.itoa_length_le x.x a0 a1
          have LENB := Lib.itoa_length_le x.y y0 y1
          have hn := oq_name HC.out hxm
          have hwl := wordB_len x.k
          have hu := loopN_len HC.out x.l
          obtain ⟨-, ⟨l0, l1⟩, ⟨p0, p1⟩, -, -⟩ := opE_parts (oq_parts HC.out hx).2
          have IWX := Lib.hid (IW.out x.l l0 l1)
          have WD := Lib.hid (fun w => (word_any x.k w).mono fun e w' ⟨h1, h2⟩ => (⟨h1, h2 ▸ Below.refl _ _⟩ : e = Ending.returned (sV (wordB x.k)) ∧ Below w.heap.size w w'))
          have MO := more_any x.k
          obtain ⟨m, hm⟩ : ∃ m : Nat, x.a = m := ⟨x.a.toNat, by omega⟩
          have hm1 : m < g.c.length := by omega
          obtain ⟨xc, hxc⟩ : ∃ xc, g.c[m]? = some xc := ⟨g.c[m], List.getElem?_eq_getElem hm1⟩
          have hcl := cl_name' HC.out (List.mem_of_getElem? hxc)
          have hnc : nameC g x.a = xc.n := by simp [nameC, hm, hxc]
          obtain ⟨bc, oc, hAc, hbc, ec, -⟩ := at_cl (H0.out.c) hxc
          change va = _ at hAc
          subst hAc
          have EC : ∀ w7, Below w3.heap.size w3 w7 → w7.cell? ⟨bc, oc + m * 2, none⟩ = some (sV xc.n) := fun w7 h7 => ((HW.out w7 h7).cell (p := ⟨bc, oc + m * 2, none⟩) hbc).trans ec
          replace EC := Lib.hid EC
          have hWd : oqWords g x = [[111, 112], x.n, wordB x.k, [105, 110, 61] ++ loopN g x.l, [97, 116, 61] ++ xc.n] ++ ([[97, 61] ++ Lib.itoa x.x, [98, 61] ++ Lib.itoa x.y].take (moreK x.k)) := by unfold oqWords; rw [inW_eq, hnc]
          rw [hWd] at HX0
          have hmore : moreK x.k ≤ 2 := more_le x.k
          obtain ⟨b1, o1, hA, hb1, c0, c1, c2, c3, c4, c5⟩ := at_oq (H0.out.below (HW.out wr Br.out)).o hx
          change vd = _ at hA
          subst hA
          rw [hm] at c3
          clear a0 a1 y0 y1 l0 l1 p0 p1 hx hxm hxc ec hbc hnc hWd hm
          generalize moreK x.k = mk at HX0 hmore MO
          generalize wordB x.k = W at HX0 hwl WD
          generalize loopN g x.l = U at HX0 hu IWX
          generalize Lib.itoa x.x = AX at HX0 NA LENA
          generalize Lib.itoa x.y = AY at HX0 NB LENB
          replace HX0 := Lib.hid HX0
          replace MO := Lib.hid MO
          go_upto_region 17 with fail
          change Code.wp _ _ _ _ (wr.alloc (.cells #[sV x.n, .int .i64 x.k, .int .i64 x.l, .int .i64 (m : Int), .int .i64 x.x, .int .i64 x.y] 71))
          have bx := fresh1 wr (.cells #[sV x.n, .int .i64 x.k, .int .i64 x.l, .int .i64 (m : Int), .int .i64 x.x, .int .i64 x.y] 71)
          have RX := Whole.fresh wr 71 #[sV x.n, .int .i64 x.k, .int .i64 x.l, .int .i64 (m : Int), .int .i64 x.x, .int .i64 x.y]
          have BX := Lib.hid (Br.out.trans (bx.mono Br.out.size))
          clear Br c0 c1 c2 c3 c4 c5 hb1 k0 bx
          generalize wr.alloc (.cells #[sV x.n, .int .i64 x.k, .int .i64 x.l, .int .i64 (m : Int), .int .i64 x.x, .int .i64 x.y] 71) = wx at RX BX ⊢
          generalize wr.heap.size = r at RX ⊢
          have RR : ∀ w7, Below wx.heap.size wx w7 → ∀ i, w7.cell? ⟨r, i, none⟩ = #[sV x.n, .int .i64 x.k, .int .i64 x.l, .int .i64 (m : Int), .int .i64 x.x, .int .i64 x.y][i]? := fun w7 h7 => (RX.below h7 RX.inside).read
          replace RR := Lib.hid RR
          have HWX : Hid (∀ w7, Below wx.heap.size wx w7 → Below w3.heap.size w3 w7) := Lib.hid fun w7 h7 => BX.out.trans (h7.mono BX.out.size)
          clear RX
          refine region_full 173 [] [] (fun _ => false) (fun w7 => Below wx.heap.size wx w7 ∧ wx.heap.size ≤ w7.heap.size) ?hR ?r0 [pdOne 0 (Is (sV S)), pdOne 1 (Is (sV (S ++ [111, 112, 32]))), pdOne 2 (Is (.pointer (some ⟨r, 0, none⟩))), pdOne 3 (Is (sV x.n)), pdOne 4 (Is (sV ((S ++ [111, 112, 32]) ++ x.n))), pdOne 5 (Is (sV (((S ++ [111, 112, 32]) ++ x.n) ++ [32]))), pdOne 6 (Is (.pointer (some ⟨r, 1, none⟩))), pdOne 7 (Is (.int .i64 x.k)), pdOne 8 (Is (sV W)), pdOne 9 (Is (sV ((((S ++ [111, 112, 32]) ++ x.n) ++ [32]) ++ W))), pdOne 10 (Is (sV (((((S ++ [111, 112, 32]) ++ x.n) ++ [32]) ++ W) ++ [32, 105, 110, 61]))), pdOne 11 (Is (.agg #[.slice (some ⟨bc, oc, none⟩) g.c.length vi, .slice vb g.l.length vj, .slice (some ⟨b1, o1, none⟩) g.o.length vk, .slice ve g.h.length vm])), pdOne 12 (Is (.pointer (some ⟨r, 2, none⟩))), pdOne 13 (Is (.int .i64 x.l)), pdOne 14 (Is (sV U)), pdOne 15 (Is (sV ((((((S ++ [111, 112, 32]) ++ x.n) ++ [32]) ++ W) ++ [32, 105, 110, 61]) ++ U))), pdOne 16 (Is (sV (((((((S ++ [111, 112, 32]) ++ x.n) ++ [32]) ++ W) ++ [32, 105, 110, 61]) ++ U) ++ [32, 97, 116, 61]))), pdOne 17 (Is (.pointer (some ⟨gg, 0, none⟩))), pdOne 18 (Is (.slice (some ⟨bc, oc, none⟩) g.c.length vi)), pdOne 19 (Is (.pointer (some ⟨r, 3, none⟩))), pdOne 20 (Is (.int .i64 (m : Int))), pdOne 21 (Is (.pointer (some ⟨bc, oc + m * 2, none⟩))), pdOne 22 (Is (.pointer (some ⟨bc, oc + m * 2, none⟩))), pdOne 23 (Is (sV xc.n)), pdOne 24 (Is (sV ((((((((S ++ [111, 112, 32]) ++ x.n) ++ [32]) ++ W) ++ [32, 105, 110, 61]) ++ U) ++ [32, 97, 116, 61]) ++ xc.n))), pdOne 25 (Is (sV ((((((((S ++ [111, 112, 32]) ++ x.n) ++ [32]) ++ W) ++ [32, 105, 110, 61]) ++ U) ++ [32, 97, 116, 61]) ++ xc.n)))] (fun _ _ => True) (by kernel_rfl) rfl (by kernel_rfl) (by kernel_rfl) (by kernel_rfl) (by kernel_rfl) ?keep ?hO ?h0 ?tell
          case hR => exact fun wa wb hb ⟨h1, h2⟩ => ⟨h1.trans (hb.mono h1.size), Nat.le_trans h2 hb.size⟩
          case r0 => exact ⟨Below.refl _ _, Nat.le_refl _⟩
          case keep => exact ⟨keep_one (keeps_is _), keep_one (keeps_is _), keep_one (keeps_is _), keep_one (keeps_is _), keep_one (keeps_is _), keep_one (keeps_is _), keep_one (keeps_is _), keep_one (keeps_is _), keep_one (keeps_is _), keep_one (keeps_is _), keep_one (keeps_is _), keep_one (keeps_is _), keep_one (keeps_is _), keep_one (keeps_is _), keep_one (keeps_is _), keep_one (keeps_is _), keep_one (keeps_is _), keep_one (keeps_is _), keep_one (keeps_is _), keep_one (keeps_is _), keep_one (keeps_is _), keep_one (keeps_is _), keep_one (keeps_is _), keep_one (keeps_is _), keep_one (keeps_is _), keep_one (keeps_is _), trivial⟩
          case hO => exact fun _ _ _ _ h => h
          case h0 => exact fun _ _ => trivial
          case tell =>
            intro fin hfin
            simp [lexPut, Act.put] at hfin
            simp only [TellF]
            refine ⟨⟨?_, ?_, ?_, ?_, ?_, ?_, ?_, ?_, ?_, ?_, ?_, ?_, ?_, ?_, ?_, ?_, ?_, ?_, ?_, ?_, ?_, ?_, ?_, ?_, ?_, ?_, trivial⟩, ?_⟩
            · intro v2 w7 hr hd
              refine yields_run (u := sV S) (w' := w7) ?_ (Below.refl _ _) rfl
              unfold execOp
              simp [go_sem, Act.eval]
            · intro v2 w7 hr hd
              have h0 : v2 0 = _ := hd 0 (by kernel_rfl)
              have ha : ({ data := S.toArray } : ByteArray) ++ { data := #[111, 112, 32] } = ⟨(S ++ [111, 112, 32]).toArray⟩ := str_app9 S [111, 112, 32]
              refine yields_run (u := sV (S ++ [111, 112, 32])) (w' := w7) ?_ (Below.refl _ _) rfl
              unfold execOp
              simp [go_sem, Act.eval, Act.put, h0, ha]
              omega
            · intro v2 w7 hr hd
              refine yields_run (u := .pointer (some ⟨r, 0, none⟩)) (w' := w7) ?_ (Below.refl _ _) rfl
              unfold execOp
              simp [go_sem, Act.eval, Act.put]
            · intro v2 w7 hr hd
              have h2 : v2 2 = _ := hd 2 (by kernel_rfl)
              have c0 := (RR.out w7 hr.1 0)
              refine yields_run (u := sV x.n) (w' := w7) ?_ (Below.refl _ _) rfl
              unfold execOp
              simp [go_sem, Act.eval, Act.put, h2, c0]
            · intro v2 w7 hr hd
              have h1 : v2 1 = _ := hd 1 (by kernel_rfl)
              have h3 : v2 3 = _ := hd 3 (by kernel_rfl)
              have hlen : ((S ++ [111, 112, 32])).length ≤ 1001000 := by
                simp
                omega
              generalize (S ++ [111, 112, 32]) = P at h1 hlen ⊢
              have ha : ({ data := P.toArray } : ByteArray) ++ { data := x.n.toArray } = ⟨(P ++ x.n).toArray⟩ := str_app9 P x.n
              refine yields_run (u := sV (P ++ x.n)) (w' := w7) ?_ (Below.refl _ _) rfl
              unfold execOp
              simp [go_sem, Act.eval, Act.put, h1, h3, ha]
              omega
            · intro v2 w7 hr hd
              have h4 : v2 4 = _ := hd 4 (by kernel_rfl)
              have hlen : (((S ++ [111, 112, 32]) ++ x.n)).length ≤ 1001000 := by
                simp
                omega
              generalize ((S ++ [111, 112, 32]) ++ x.n) = P at h4 hlen ⊢
              have ha : ({ data := P.toArray } : ByteArray) ++ { data := #[32] } = ⟨(P ++ [32]).toArray⟩ := str_app9 P [32]
              refine yields_run (u := sV (P ++ [32])) (w' := w7) ?_ (Below.refl _ _) rfl
              unfold execOp
              simp [go_sem, Act.eval, Act.put, h4, ha]
              omega
            · intro v2 w7 hr hd
              refine yields_run (u := .pointer (some ⟨r, 1, none⟩)) (w' := w7) ?_ (Below.refl _ _) rfl
              unfold execOp
              simp [go_sem, Act.eval, Act.put]
            · intro v2 w7 hr hd
              have h6 : v2 6 = _ := hd 6 (by kernel_rfl)
              have c0 := (RR.out w7 hr.1 1)
              refine yields_run (u := .int .i64 x.k) (w' := w7) ?_ (Below.refl _ _) rfl
              unfold execOp
              simp [go_sem, Act.eval, Act.put, h6, c0]
            · intro v2 w7 hr hd
              have h7 : v2 7 = _ := hd 7 (by kernel_rfl)
              refine yields_call (f := 30) rfl (vs := #[.int .i64 x.k]) (by simp [Act.eval, Act.put, h7]) rfl Tryd.func30 (by kernel_rfl) (by kernel_rfl) ((WD.out w7).mono fun e w8 ⟨he, hb⟩ => ⟨_, he, hb, rfl⟩)
            · intro v2 w7 hr hd
              have h5 : v2 5 = _ := hd 5 (by kernel_rfl)
              have h8 : v2 8 = _ := hd 8 (by kernel_rfl)
              have hlen : ((((S ++ [111, 112, 32]) ++ x.n) ++ [32])).length ≤ 1001000 := by
                simp
                omega
              generalize (((S ++ [111, 112, 32]) ++ x.n) ++ [32]) = P at h5 hlen ⊢
              have ha : ({ data := P.toArray } : ByteArray) ++ { data := W.toArray } = ⟨(P ++ W).toArray⟩ := str_app9 P W
              refine yields_run (u := sV (P ++ W)) (w' := w7) ?_ (Below.refl _ _) rfl
              unfold execOp
              simp [go_sem, Act.eval, Act.put, h5, h8, ha]
              omega
            · intro v2 w7 hr hd
              have h9 : v2 9 = _ := hd 9 (by kernel_rfl)
              have hlen : (((((S ++ [111, 112, 32]) ++ x.n) ++ [32]) ++ W)).length ≤ 1001000 := by
                simp
                omega
              generalize ((((S ++ [111, 112, 32]) ++ x.n) ++ [32]) ++ W) = P at h9 hlen ⊢
              have ha : ({ data := P.toArray } : ByteArray) ++ { data := #[32, 105, 110, 61] } = ⟨(P ++ [32, 105, 110, 61]).toArray⟩ := str_app9 P [32, 105, 110, 61]
              refine yields_run (u := sV (P ++ [32, 105, 110, 61])) (w' := w7) ?_ (Below.refl _ _) rfl
              unfold execOp
              simp [go_sem, Act.eval, Act.put, h9, ha]
              omega
            · intro v2 w7 hr hd
              have c0 := (GG.out w7 (HWX.out w7 hr.1) 0)
              have c1 := (GG.out w7 (HWX.out w7 hr.1) 1)
              have c2 := (GG.out w7 (HWX.out w7 hr.1) 2)
              have c3 := (GG.out w7 (HWX.out w7 hr.1) 3)
              refine yields_run (u := .agg #[.slice (some ⟨bc, oc, none⟩) g.c.length vi, .slice vb g.l.length vj, .slice (some ⟨b1, o1, none⟩) g.o.length vk, .slice ve g.h.length vm]) (w' := w7) ?_ (Below.refl _ _) rfl
              unfold execOp
              simp [go_sem, Act.eval, Act.put, c0, c1, c2, c3]
            · intro v2 w7 hr hd
              refine yields_run (u := .pointer (some ⟨r, 2, none⟩)) (w' := w7) ?_ (Below.refl _ _) rfl
              unfold execOp
              simp [go_sem, Act.eval, Act.put]
            · intro v2 w7 hr hd
              have h12 : v2 12 = _ := hd 12 (by kernel_rfl)
              have c0 := (RR.out w7 hr.1 2)
              refine yields_run (u := .int .i64 x.l) (w' := w7) ?_ (Below.refl _ _) rfl
              unfold execOp
              simp [go_sem, Act.eval, Act.put, h12, c0]
            · intro v2 w7 hr hd
              have h11 : v2 11 = _ := hd 11 (by kernel_rfl)
              have h13 : v2 13 = _ := hd 13 (by kernel_rfl)
              refine yields_call (f := 29) rfl (vs := #[.agg #[.slice (some ⟨bc, oc, none⟩) g.c.length vi, .slice vb g.l.length vj, .slice (some ⟨b1, o1, none⟩) g.o.length vk, .slice ve g.h.length vm], .int .i64 x.l]) (by simp [Act.eval, Act.put, h11, h13]) rfl Tryd.func29 (by kernel_rfl) (by kernel_rfl) ((IWX.out w7 (HL.out w7 (HWX.out w7 hr.1))).mono fun e w8 ⟨he, hb⟩ => ⟨_, he, hb, rfl⟩)
            · intro v2 w7 hr hd
              have h10 : v2 10 = _ := hd 10 (by kernel_rfl)
              have h14 : v2 14 = _ := hd 14 (by kernel_rfl)
              have hlen : ((((((S ++ [111, 112, 32]) ++ x.n) ++ [32]) ++ W) ++ [32, 105, 110, 61])).length ≤ 1001000 := by
                simp
                omega
              generalize (((((S ++ [111, 112, 32]) ++ x.n) ++ [32]) ++ W) ++ [32, 105, 110, 61]) = P at h10 hlen ⊢
              have ha : ({ data := P.toArray } : ByteArray) ++ { data := U.toArray } = ⟨(P ++ U).toArray⟩ := str_app9 P U
              refine yields_run (u := sV (P ++ U)) (w' := w7) ?_ (Below.refl _ _) rfl
              unfold execOp
              simp [go_sem, Act.eval, Act.put, h10, h14, ha]
              omega
            · intro v2 w7 hr hd
              have h15 : v2 15 = _ := hd 15 (by kernel_rfl)
              have hlen : (((((((S ++ [111, 112, 32]) ++ x.n) ++ [32]) ++ W) ++ [32, 105, 110, 61]) ++ U)).length ≤ 1001000 := by
                simp
                omega
              generalize ((((((S ++ [111, 112, 32]) ++ x.n) ++ [32]) ++ W) ++ [32, 105, 110, 61]) ++ U) = P at h15 hlen ⊢
              have ha : ({ data := P.toArray } : ByteArray) ++ { data := #[32, 97, 116, 61] } = ⟨(P ++ [32, 97, 116, 61]).toArray⟩ := str_app9 P [32, 97, 116, 61]
              refine yields_run (u := sV (P ++ [32, 97, 116, 61])) (w' := w7) ?_ (Below.refl _ _) rfl
              unfold execOp
              simp [go_sem, Act.eval, Act.put, h15, ha]
              omega
            · intro v2 w7 hr hd
              refine yields_run (u := .pointer (some ⟨gg, 0, none⟩)) (w' := w7) ?_ (Below.refl _ _) rfl
              unfold execOp
              simp [go_sem, Act.eval, Act.put]
            · intro v2 w7 hr hd
              have h17 : v2 17 = _ := hd 17 (by kernel_rfl)
              have c0 := (GG.out w7 (HWX.out w7 hr.1) 0)
              refine yields_run (u := .slice (some ⟨bc, oc, none⟩) g.c.length vi) (w' := w7) ?_ (Below.refl _ _) rfl
              unfold execOp
              simp [go_sem, Act.eval, Act.put, h17, c0]
            · intro v2 w7 hr hd
              refine yields_run (u := .pointer (some ⟨r, 3, none⟩)) (w' := w7) ?_ (Below.refl _ _) rfl
              unfold execOp
              simp [go_sem, Act.eval, Act.put]
            · intro v2 w7 hr hd
              have h19 : v2 19 = _ := hd 19 (by kernel_rfl)
              have c0 := (RR.out w7 hr.1 3)
              refine yields_run (u := .int .i64 (m : Int)) (w' := w7) ?_ (Below.refl _ _) rfl
              unfold execOp
              simp [go_sem, Act.eval, Act.put, h19, c0]
            · intro v2 w7 hr hd
              have h18 : v2 18 = _ := hd 18 (by kernel_rfl)
              have h20 : v2 20 = _ := hd 20 (by kernel_rfl)
              exact yields_index (b := bc) (off := oc) (n := g.c.length) (c := vi) (i := m) (m := 2) rfl (by simp [Act.eval, Act.put, h18, h20]) (by simp [Act.eval, Act.put, h18, h20]) hm1 Tryd.underlying22 (by intro w; simp [Tryd.sizeOf67])
            · intro v2 w7 hr hd
              have h21 : v2 21 = _ := hd 21 (by kernel_rfl)
              refine yields_run (u := .pointer (some ⟨bc, oc + m * 2, none⟩)) (w' := w7) ?_ (Below.refl _ _) rfl
              unfold execOp
              simp [go_sem, Act.eval, Act.put, h21]
            · intro v2 w7 hr hd
              have h22 : v2 22 = _ := hd 22 (by kernel_rfl)
              have c0 := (EC.out w7 (HWX.out w7 hr.1))
              refine yields_run (u := sV xc.n) (w' := w7) ?_ (Below.refl _ _) rfl
              unfold execOp
              simp [go_sem, Act.eval, Act.put, h22, c0]
            · intro v2 w7 hr hd
              have h16 : v2 16 = _ := hd 16 (by kernel_rfl)
              have h23 : v2 23 = _ := hd 23 (by kernel_rfl)
              have hlen : ((((((((S ++ [111, 112, 32]) ++ x.n) ++ [32]) ++ W) ++ [32, 105, 110, 61]) ++ U) ++ [32, 97, 116, 61])).length ≤ 1001000 := by
                simp
                omega
              generalize (((((((S ++ [111, 112, 32]) ++ x.n) ++ [32]) ++ W) ++ [32, 105, 110, 61]) ++ U) ++ [32, 97, 116, 61]) = P at h16 hlen ⊢
              have ha : ({ data := P.toArray } : ByteArray) ++ { data := xc.n.toArray } = ⟨(P ++ xc.n).toArray⟩ := str_app9 P xc.n
              refine yields_run (u := sV (P ++ xc.n)) (w' := w7) ?_ (Below.refl _ _) rfl
              unfold execOp
              simp [go_sem, Act.eval, Act.put, h16, h23, ha]
              omega
            · intro v2 w7 hr hd
              have h24 : v2 24 = _ := hd 24 (by kernel_rfl)
              refine yields_run (u := sV ((((((((S ++ [111, 112, 32]) ++ x.n) ++ [32]) ++ W) ++ [32, 105, 110, 61]) ++ U) ++ [32, 97, 116, 61]) ++ xc.n)) (w' := w7) ?_ (Below.refl _ _) rfl
              unfold execOp
              simp [go_sem, Act.eval, Act.put, h24]
            · intro v2 w7 hr hv
              have hb9 : v2 25 = sV ((((((((S ++ [111, 112, 32]) ++ x.n) ++ [32]) ++ W) ++ [32, 105, 110, 61]) ++ U) ++ [32, 97, 116, 61]) ++ xc.n) := hv 25 (by decide)
              have hR := Lib.hid hr
              rw [hfin]
              generalize v2 25 = v5 at hb9 ⊢
              clear hfin hv hr
              obtain ⟨P, hP⟩ : ∃ P, P = ((((((((S ++ [111, 112, 32]) ++ x.n) ++ [32]) ++ W) ++ [32, 105, 110, 61]) ++ U) ++ [32, 97, 116, 61]) ++ xc.n) := ⟨_, rfl⟩
              rw [← hP] at hb9
              have hPl : P.length ≤ 1001000 := by rw [hP]; simp; omega
              subst hb9
              replace hP := Lib.hid hP
              have r1 : w7.cell? ⟨r, 1, none⟩ = some (.int .i64 x.k) := RR.out w7 hR.out.1 1
              have r4 : w7.cell? ⟨r, 4, none⟩ = some (.int .i64 x.x) := RR.out w7 hR.out.1 4
              have r5 : w7.cell? ⟨r, 5, none⟩ = some (.int .i64 x.y) := RR.out w7 hR.out.1 5
              clear WD IWX EC
              generalize hz : (mk : Int) = z at MO
              obtain h0 | h0 | h0 : mk = 0 ∨ mk = 1 ∨ mk = 2 := by omega
              · subst h0
                obtain rfl : z = 0 := by omega
                clear hz
                obtain ⟨Q1, hQ1⟩ : ∃ Q, Q = P ++ [10] := ⟨_, rfl⟩
                have ha1 : ({ data := P.toArray } : ByteArray) ++ { data := #[10] } = ⟨Q1.toArray⟩ := by rw [hQ1]; exact str_app9 P [10]
                have hl1 : Q1.length ≤ 1001010 := by rw [hQ1]; simp; omega
                replace hQ1 := Lib.hid hQ1
                go_wp2_with (first
                  | (go_at_call 31; refine (MO.out _).mono ?_; rintro e wz ⟨rfl, hz⟩; subst wz)
                  | (go_at_call 28; refine (NB.out w8).mono ?_; rintro e w9 ⟨rfl, b9⟩; have R9 := R8.out.trans (b9.mono z8.out); clear s1 s5 b9; replace R9 := Lib.hid R9)
                  | (go_at_call 28; refine (NA.out w7).mono ?_; rintro e w8 ⟨rfl, b8⟩; have R8 := hR.out.1.trans (b8.mono hR.out.2); have z8 := Nat.le_trans hR.out.2 b8.size; have s1 : w8.cell? ⟨r, 1, none⟩ = some (.int .i64 x.k) := RR.out w8 R8 1; have s5 : w8.cell? ⟨r, 5, none⟩ = some (.int .i64 x.y) := RR.out w8 R8 5; clear r1 r4 r5 b8; replace R8 := Lib.hid R8; replace z8 := Lib.hid z8))
                go_roundw
                case rel => exact ⟨i + 1, hlt, by go_num, by rw [HX0.out]; exact congrArg sV (by rw [hQ1.out, hP.out]; exact op_text0 S x.n W U xc.n), Lib.hid (HWX.out _ hR.out.1)⟩
                case measure => simp [intOf]; omega
              · subst h0
                obtain rfl : z = 1 := by omega
                clear hz
                obtain ⟨Q1, hQ1⟩ : ∃ Q, Q = P ++ [32, 97, 61] := ⟨_, rfl⟩
                have ha1 : ({ data := P.toArray } : ByteArray) ++ { data := #[32, 97, 61] } = ⟨Q1.toArray⟩ := by rw [hQ1]; exact str_app9 P [32, 97, 61]
                have hl1 : Q1.length ≤ 1001010 := by rw [hQ1]; simp; omega
                replace hQ1 := Lib.hid hQ1
                obtain ⟨Q2, hQ2⟩ : ∃ Q, Q = Q1 ++ AX := ⟨_, rfl⟩
                have ha2 : ({ data := Q1.toArray } : ByteArray) ++ { data := AX.toArray } = ⟨Q2.toArray⟩ := by rw [hQ2]; exact str_app9 Q1 AX
                have hl2 : Q2.length ≤ 1001100 := by rw [hQ2]; simp; omega
                replace hQ2 := Lib.hid hQ2
                obtain ⟨Q3, hQ3⟩ : ∃ Q, Q = Q2 ++ [10] := ⟨_, rfl⟩
                have ha3 : ({ data := Q2.toArray } : ByteArray) ++ { data := #[10] } = ⟨Q3.toArray⟩ := by rw [hQ3]; exact str_app9 Q2 [10]
                have hl3 : Q3.length ≤ 1001200 := by rw [hQ3]; simp; omega
                replace hQ3 := Lib.hid hQ3
                go_wp2_with (first
                  | (go_at_call 31; refine (MO.out _).mono ?_; rintro e wz ⟨rfl, hz⟩; subst wz)
                  | (go_at_call 28; refine (NB.out w8).mono ?_; rintro e w9 ⟨rfl, b9⟩; have R9 := R8.out.trans (b9.mono z8.out); clear s1 s5 b9; replace R9 := Lib.hid R9)
                  | (go_at_call 28; refine (NA.out w7).mono ?_; rintro e w8 ⟨rfl, b8⟩; have R8 := hR.out.1.trans (b8.mono hR.out.2); have z8 := Nat.le_trans hR.out.2 b8.size; have s1 : w8.cell? ⟨r, 1, none⟩ = some (.int .i64 x.k) := RR.out w8 R8 1; have s5 : w8.cell? ⟨r, 5, none⟩ = some (.int .i64 x.y) := RR.out w8 R8 5; clear r1 r4 r5 b8; replace R8 := Lib.hid R8; replace z8 := Lib.hid z8))
                go_roundw
                case rel => exact ⟨i + 1, hlt, by go_num, by rw [HX0.out]; exact congrArg sV (by rw [hQ3.out, hQ2.out, hQ1.out, hP.out]; exact op_text1 S x.n W U xc.n AX), Lib.hid (HWX.out _ R8.out)⟩
                case measure => simp [intOf]; omega
              · subst h0
                obtain rfl : z = 2 := by omega
                clear hz
                obtain ⟨Q1, hQ1⟩ : ∃ Q, Q = P ++ [32, 97, 61] := ⟨_, rfl⟩
                have ha1 : ({ data := P.toArray } : ByteArray) ++ { data := #[32, 97, 61] } = ⟨Q1.toArray⟩ := by rw [hQ1]; exact str_app9 P [32, 97, 61]
                have hl1 : Q1.length ≤ 1001010 := by rw [hQ1]; simp; omega
                replace hQ1 := Lib.hid hQ1
                obtain ⟨Q2, hQ2⟩ : ∃ Q, Q = Q1 ++ AX := ⟨_, rfl⟩
                have ha2 : ({ data := Q1.toArray } : ByteArray) ++ { data := AX.toArray } = ⟨Q2.toArray⟩ := by rw [hQ2]; exact str_app9 Q1 AX
                have hl2 : Q2.length ≤ 1001100 := by rw [hQ2]; simp; omega
                replace hQ2 := Lib.hid hQ2
                obtain ⟨Q3, hQ3⟩ : ∃ Q, Q = Q2 ++ [32, 98, 61] := ⟨_, rfl⟩
                have ha3 : ({ data := Q2.toArray } : ByteArray) ++ { data := #[32, 98, 61] } = ⟨Q3.toArray⟩ := by rw [hQ3]; exact str_app9 Q2 [32, 98, 61]
                have hl3 : Q3.length ≤ 1001200 := by rw [hQ3]; simp; omega
                replace hQ3 := Lib.hid hQ3
                obtain ⟨Q4, hQ4⟩ : ∃ Q, Q = Q3 ++ AY := ⟨_, rfl⟩
                have ha4 : ({ data := Q3.toArray } : ByteArray) ++ { data := AY.toArray } = ⟨Q4.toArray⟩ := by rw [hQ4]; exact str_app9 Q3 AY
                have hl4 : Q4.length ≤ 1001300 := by rw [hQ4]; simp; omega
                replace hQ4 := Lib.hid hQ4
                obtain ⟨Q5, hQ5⟩ : ∃ Q, Q = Q4 ++ [10] := ⟨_, rfl⟩
                have ha5 : ({ data := Q4.toArray } : ByteArray) ++ { data := #[10] } = ⟨Q5.toArray⟩ := by rw [hQ5]; exact str_app9 Q4 [10]
                have hl5 : Q5.length ≤ 1001400 := by rw [hQ5]; simp; omega
                replace hQ5 := Lib.hid hQ5
                go_wp2_with (first
                  | (go_at_call 31; refine (MO.out _).mono ?_; rintro e wz ⟨rfl, hz⟩; subst wz)
                  | (go_at_call 28; refine (NB.out w8).mono ?_; rintro e w9 ⟨rfl, b9⟩; have R9 := R8.out.trans (b9.mono z8.out); clear s1 s5 b9; replace R9 := Lib.hid R9)
                  | (go_at_call 28; refine (NA.out w7).mono ?_; rintro e w8 ⟨rfl, b8⟩; have R8 := hR.out.1.trans (b8.mono hR.out.2); have z8 := Nat.le_trans hR.out.2 b8.size; have s1 : w8.cell? ⟨r, 1, none⟩ = some (.int .i64 x.k) := RR.out w8 R8 1; have s5 : w8.cell? ⟨r, 5, none⟩ = some (.int .i64 x.y) := RR.out w8 R8 5; clear r1 r4 r5 b8; replace R8 := Lib.hid R8; replace z8 := Lib.hid z8))
                go_roundw
                case rel => exact ⟨i + 1, hlt, by go_num, by rw [HX0.out]; exact congrArg sV (by rw [hQ5.out, hQ4.out, hQ3.out, hQ2.out, hQ1.out, hP.out]; exact op_text2 S x.n W U xc.n AX AY), Lib.hid (HWX.out _ R9.out)⟩
                case measure => simp [intOf]; omega
        subst hin
        have hlt : ¬ ((g.o.length : Int) < g.o.length) := by omega
        rw [upto_all]
        have LB2 : (A2 ++ (g.o.map (fun x => sp (oqWords g x))).flatten).length ≤ 300000 := by
          have h1 := upto_le (L := g.o) (f := fun x => sp (oqWords g x)) (oq_sp HC.out I) g.o.length
          have h2 := LA2.out
          have h3 : g.o.length * 300 ≤ 48 * 300 := Nat.mul_le_mul_right 300 (by omega)
          rw [upto_all] at h1
          rw [List.length_append]
          omega
        obtain ⟨u2, hnw⟩ : ∃ u2, u2 = wr := ⟨_, rfl⟩
        subst hnw
        have k0 : u2.cell? ⟨gg, 2, none⟩ = some (.slice vd g.o.length vk) := GG.out u2 Br.out 2
        go_upto_region 23 with fail
        clear k0
        have k0 : u2.cell? ⟨gg, 3, none⟩ = some (.slice ve g.h.length vm) := GG.out u2 Br.out 3
        go_upto_region 24 with fail
        clear k0
        go_wp2_with fail
        obtain ⟨A3, hA3⟩ : ∃ A3, A3 = A2 ++ (g.o.map (fun x => sp (oqWords g x))).flatten := ⟨_, rfl⟩
        go_loopw [5, 10] (fun sv a wr => ∃ i : Nat, i ≤ g.h.length ∧ a = .int .i64 i ∧ sv = sV (A3 ++ upto g.h (fun x => sp (chWords g x)) i) ∧ Hid (Below w3.heap.size w3 wr)) (fun _ a _ => (g.h.length - intOf a).toNat)
        case atStart => exact ⟨0, by omega, rfl, by rw [upto_zero, List.append_nil, hA3], Br⟩
        have HA3 := Lib.hid hA3
        have LA3 : Hid (A3.length ≤ 300000) := Lib.hid (by rw [hA3]; exact LB2)
        clear hA3
        case round =>
          obtain ⟨i, hi, rfl, rfl, Br⟩ := hrel
          by_cases hin : i = g.h.length
          case neg =>
            have hlt : i < g.h.length := by omega
            obtain ⟨x, hx⟩ : ∃ x, g.h[i]? = some x := ⟨g.h[i], List.getElem?_eq_getElem hlt⟩
            have hxm := List.mem_of_getElem? hx
            have hL1 : (A3 ++ upto g.h (fun x => sp (chWords g x)) i).length ≤ 1000000 := by
              have h1 := upto_le (L := g.h) (f := fun x => sp (chWords g x)) (ch_sp HC.out) i
              have h2 := LA3.out
              have h3 : g.h.length * 300 ≤ 48 * 300 := Nat.mul_le_mul_right 300 (by omega)
              rw [List.length_append]
              omega
            have HX0 : A3 ++ upto g.h (fun x => sp (chWords g x)) (i + 1) = (A3 ++ upto g.h (fun x => sp (chWords g x)) i) ++ sp (chWords g x) := by rw [upto_next (f := fun x => sp (chWords g x)) hx, ← List.append_assoc]
            generalize A3 ++ upto g.h (fun x => sp (chWords g x)) i = S at hL1 HX0 ⊢
            have k0 : wr.cell? ⟨gg, 3, none⟩ = some (.slice ve g.h.length vm) := GG.out wr Br.out 3
            obtain ⟨f0, f1, t0, t1⟩ := ch_range HC.out hxm
            obtain ⟨xf, xt⟩ := x
            dsimp only at f0 f1 t0 t1
            obtain ⟨m, rfl⟩ : ∃ m : Nat, xf = m := ⟨xf.toNat, by omega⟩
            obtain ⟨n, rfl⟩ : ∃ n : Nat, xt = n := ⟨xt.toNat, by omega⟩
            have hm1 : m < g.o.length := by omega
            have hn1 : n < g.o.length := by omega
            obtain ⟨x1, hx1⟩ : ∃ x, g.o[m]? = some x := ⟨g.o[m], List.getElem?_eq_getElem hm1⟩
            obtain ⟨x2, hx2⟩ : ∃ x, g.o[n]? = some x := ⟨g.o[n], List.getElem?_eq_getElem hn1⟩
            have hcw : chWords g ⟨m, n⟩ = [[102, 114, 111, 109], x1.n, [116, 111], x2.n] := by simp [chWords, nameO, hx1, hx2]
            have hna := oq_name HC.out (List.mem_of_getElem? hx1)
            have hnb := oq_name HC.out (List.mem_of_getElem? hx2)
            obtain ⟨bo, oo, hA2, hbo, e1, -⟩ := at_oq (H0.out.o) hx1
            change vd = _ at hA2
            obtain ⟨bo2, oo2, hA3, -, e2, -⟩ := at_oq (H0.out.o) hx2
            change vd = _ at hA3
            subst hA2
            injection (Option.some.inj hA3) with hb2 ho2
            subst hb2 ho2
            clear hA3
            have HWX : Hid (∀ w7, Below wr.heap.size wr w7 → Below w3.heap.size w3 w7) := Lib.hid fun w7 h7 => Br.out.trans (h7.mono Br.out.size)
            obtain ⟨b1, o1, hA, hb1, c0, c1⟩ := at_ch H0.out.h hx
            change ve = _ at hA
            subst hA
            have E0 : ∀ w7, Below w3.heap.size w3 w7 → w7.cell? ⟨b1, o1 + i * 2, none⟩ = some (.int .i64 (m : Int)) := fun w7 h7 => ((HW.out w7 h7).cell (p := ⟨b1, o1 + i * 2, none⟩) hb1).trans c0
            replace E0 := Lib.hid E0
            have E1 : ∀ w7, Below w3.heap.size w3 w7 → w7.cell? ⟨b1, o1 + i * 2 + 1, none⟩ = some (.int .i64 (n : Int)) := fun w7 h7 => ((HW.out w7 h7).cell (p := ⟨b1, o1 + i * 2 + 1, none⟩) hb1).trans c1
            replace E1 := Lib.hid E1
            clear hb1 c0 c1
            have F1 : ∀ w7, Below w3.heap.size w3 w7 → w7.cell? ⟨bo, oo + m * 6, none⟩ = some (sV x1.n) := fun w7 h7 => ((HW.out w7 h7).cell (p := ⟨bo, oo + m * 6, none⟩) hbo).trans e1
            have F2 : ∀ w7, Below w3.heap.size w3 w7 → w7.cell? ⟨bo, oo + n * 6, none⟩ = some (sV x2.n) := fun w7 h7 => ((HW.out w7 h7).cell (p := ⟨bo, oo + n * 6, none⟩) hbo).trans e2
            replace F1 := Lib.hid F1
            replace F2 := Lib.hid F2
            rw [hcw] at HX0
            have HX := Lib.hid (HX0.trans (ch_text S x1.n x2.n).symm)
            clear f0 f1 t0 t1 hx hxm HX0 hx1 hx2 hcw e1 e2 hbo
            go_upto_region 26 with fail
            clear k0
            refine region_full 173 [] [] (fun _ => false) (fun w7 => Below wr.heap.size wr w7 ∧ wr.heap.size ≤ w7.heap.size) ?hR ?r0 [pdOne 0 (Is (sV S)), pdOne 1 (Is (sV (S ++ [102, 114, 111, 109, 32]))), pdOne 2 (Is (.pointer (some ⟨gg, 2, none⟩))), pdOne 3 (Is (.slice (some ⟨bo, oo, none⟩) g.o.length vk)), pdOne 4 (Is (.pointer (some ⟨gg, 3, none⟩))), pdOne 5 (Is (.slice (some ⟨b1, o1, none⟩) g.h.length vm)), pdOne 6 (Is (.int .i64 i)), pdOne 7 (Is (.pointer (some ⟨b1, o1 + i * 2, none⟩))), pdOne 8 (Is (.pointer (some ⟨b1, o1 + i * 2, none⟩))), pdOne 9 (Is (.int .i64 (m : Int))), pdOne 10 (Is (.pointer (some ⟨bo, oo + m * 6, none⟩))), pdOne 11 (Is (.pointer (some ⟨bo, oo + m * 6, none⟩))), pdOne 12 (Is (sV x1.n)), pdOne 13 (Is (sV ((S ++ [102, 114, 111, 109, 32]) ++ x1.n))), pdOne 14 (Is (sV (((S ++ [102, 114, 111, 109, 32]) ++ x1.n) ++ [32, 116, 111, 32]))), pdOne 15 (Is (.pointer (some ⟨gg, 2, none⟩))), pdOne 16 (Is (.slice (some ⟨bo, oo, none⟩) g.o.length vk)), pdOne 17 (Is (.pointer (some ⟨gg, 3, none⟩))), pdOne 18 (Is (.slice (some ⟨b1, o1, none⟩) g.h.length vm)), pdOne 19 (Is (.int .i64 i)), pdOne 20 (Is (.pointer (some ⟨b1, o1 + i * 2, none⟩))), pdOne 21 (Is (.pointer (some ⟨b1, o1 + i * 2 + 1, none⟩))), pdOne 22 (Is (.int .i64 (n : Int))), pdOne 23 (Is (.pointer (some ⟨bo, oo + n * 6, none⟩))), pdOne 24 (Is (.pointer (some ⟨bo, oo + n * 6, none⟩))), pdOne 25 (Is (sV x2.n)), pdOne 26 (Is (sV ((((S ++ [102, 114, 111, 109, 32]) ++ x1.n) ++ [32, 116, 111, 32]) ++ x2.n))), pdOne 27 (Is (sV (((((S ++ [102, 114, 111, 109, 32]) ++ x1.n) ++ [32, 116, 111, 32]) ++ x2.n) ++ [10]))), pdOne 28 (Is (sV (((((S ++ [102, 114, 111, 109, 32]) ++ x1.n) ++ [32, 116, 111, 32]) ++ x2.n) ++ [10])))] (fun _ _ => True) (by kernel_rfl) rfl (by kernel_rfl) (by kernel_rfl) (by kernel_rfl) (by kernel_rfl) ?keep ?hO ?h0 ?tell
            case hR => exact fun wa wb hb ⟨h1, h2⟩ => ⟨h1.trans (hb.mono h1.size), Nat.le_trans h2 hb.size⟩
            case r0 => exact ⟨Below.refl _ _, Nat.le_refl _⟩
            case keep => exact ⟨keep_one (keeps_is _), keep_one (keeps_is _), keep_one (keeps_is _), keep_one (keeps_is _), keep_one (keeps_is _), keep_one (keeps_is _), keep_one (keeps_is _), keep_one (keeps_is _), keep_one (keeps_is _), keep_one (keeps_is _), keep_one (keeps_is _), keep_one (keeps_is _), keep_one (keeps_is _), keep_one (keeps_is _), keep_one (keeps_is _), keep_one (keeps_is _), keep_one (keeps_is _), keep_one (keeps_is _), keep_one (keeps_is _), keep_one (keeps_is _), keep_one (keeps_is _), keep_one (keeps_is _), keep_one (keeps_is _), keep_one (keeps_is _), keep_one (keeps_is _), keep_one (keeps_is _), keep_one (keeps_is _), keep_one (keeps_is _), keep_one (keeps_is _), trivial⟩
            case hO => exact fun _ _ _ _ h => h
            case h0 => exact fun _ _ => trivial
            case tell =>
              intro fin hfin
              simp [lexPut, Act.put] at hfin
              simp only [TellF]
              refine ⟨⟨?_, ?_, ?_, ?_, ?_, ?_, ?_, ?_, ?_, ?_, ?_, ?_, ?_, ?_, ?_, ?_, ?_, ?_, ?_, ?_, ?_, ?_, ?_, ?_, ?_, ?_, ?_, ?_, ?_, trivial⟩, ?_⟩
              · intro v2 w7 hr hd
                refine yields_run (u := sV S) (w' := w7) ?_ (Below.refl _ _) rfl
                unfold execOp
                simp [go_sem, Act.eval]
              · intro v2 w7 hr hd
                have h0 : v2 0 = _ := hd 0 (by kernel_rfl)
                have ha : ({ data := S.toArray } : ByteArray) ++ { data := #[102, 114, 111, 109, 32] } = ⟨(S ++ [102, 114, 111, 109, 32]).toArray⟩ := str_app9 S [102, 114, 111, 109, 32]
                refine yields_run (u := sV (S ++ [102, 114, 111, 109, 32])) (w' := w7) ?_ (Below.refl _ _) rfl
                unfold execOp
                simp [go_sem, Act.eval, Act.put, h0, ha]
                omega
              · intro v2 w7 hr hd
                refine yields_run (u := .pointer (some ⟨gg, 2, none⟩)) (w' := w7) ?_ (Below.refl _ _) rfl
                unfold execOp
                simp [go_sem, Act.eval, Act.put]
              · intro v2 w7 hr hd
                have h2 : v2 2 = _ := hd 2 (by kernel_rfl)
                have c0 := (GG.out w7 (HWX.out w7 hr.1) 2)
                refine yields_run (u := .slice (some ⟨bo, oo, none⟩) g.o.length vk) (w' := w7) ?_ (Below.refl _ _) rfl
                unfold execOp
                simp [go_sem, Act.eval, Act.put, h2, c0]
              · intro v2 w7 hr hd
                refine yields_run (u := .pointer (some ⟨gg, 3, none⟩)) (w' := w7) ?_ (Below.refl _ _) rfl
                unfold execOp
                simp [go_sem, Act.eval, Act.put]
              · intro v2 w7 hr hd
                have h4 : v2 4 = _ := hd 4 (by kernel_rfl)
                have c0 := (GG.out w7 (HWX.out w7 hr.1) 3)
                refine yields_run (u := .slice (some ⟨b1, o1, none⟩) g.h.length vm) (w' := w7) ?_ (Below.refl _ _) rfl
                unfold execOp
                simp [go_sem, Act.eval, Act.put, h4, c0]
              · intro v2 w7 hr hd
                refine yields_run (u := .int .i64 i) (w' := w7) ?_ (Below.refl _ _) rfl
                unfold execOp
                simp [go_sem, Act.eval, Act.put]
              · intro v2 w7 hr hd
                have h5 : v2 5 = _ := hd 5 (by kernel_rfl)
                have h6 : v2 6 = _ := hd 6 (by kernel_rfl)
                exact yields_index (b := b1) (off := o1) (n := g.h.length) (c := vm) (i := i) (m := 2) rfl (by simp [Act.eval, Act.put, h5, h6]) (by simp [Act.eval, Act.put, h5, h6]) hlt Tryd.underlying25 (by intro w; simp [Tryd.sizeOf76])
              · intro v2 w7 hr hd
                have h7 : v2 7 = _ := hd 7 (by kernel_rfl)
                refine yields_run (u := .pointer (some ⟨b1, o1 + i * 2, none⟩)) (w' := w7) ?_ (Below.refl _ _) rfl
                unfold execOp
                simp [go_sem, Act.eval, Act.put, h7]
              · intro v2 w7 hr hd
                have h8 : v2 8 = _ := hd 8 (by kernel_rfl)
                have c0 := (E0.out w7 (HWX.out w7 hr.1))
                refine yields_run (u := .int .i64 (m : Int)) (w' := w7) ?_ (Below.refl _ _) rfl
                unfold execOp
                simp [go_sem, Act.eval, Act.put, h8, c0]
              · intro v2 w7 hr hd
                have h3 : v2 3 = _ := hd 3 (by kernel_rfl)
                have h9 : v2 9 = _ := hd 9 (by kernel_rfl)
                exact yields_index (b := bo) (off := oo) (n := g.o.length) (c := vk) (i := m) (m := 6) rfl (by simp [Act.eval, Act.put, h3, h9]) (by simp [Act.eval, Act.put, h3, h9]) hm1 Tryd.underlying24 (by intro w; simp [Tryd.sizeOf71])
              · intro v2 w7 hr hd
                have h10 : v2 10 = _ := hd 10 (by kernel_rfl)
                refine yields_run (u := .pointer (some ⟨bo, oo + m * 6, none⟩)) (w' := w7) ?_ (Below.refl _ _) rfl
                unfold execOp
                simp [go_sem, Act.eval, Act.put, h10]
              · intro v2 w7 hr hd
                have h11 : v2 11 = _ := hd 11 (by kernel_rfl)
                have c0 := (F1.out w7 (HWX.out w7 hr.1))
                refine yields_run (u := sV x1.n) (w' := w7) ?_ (Below.refl _ _) rfl
                unfold execOp
                simp [go_sem, Act.eval, Act.put, h11, c0]
              · intro v2 w7 hr hd
                have h1 : v2 1 = _ := hd 1 (by kernel_rfl)
                have h12 : v2 12 = _ := hd 12 (by kernel_rfl)
                have hlen : ((S ++ [102, 114, 111, 109, 32])).length ≤ 1001000 := by
                  simp
                  omega
                generalize (S ++ [102, 114, 111, 109, 32]) = P at h1 hlen ⊢
                have ha : ({ data := P.toArray } : ByteArray) ++ { data := x1.n.toArray } = ⟨(P ++ x1.n).toArray⟩ := str_app9 P x1.n
                refine yields_run (u := sV (P ++ x1.n)) (w' := w7) ?_ (Below.refl _ _) rfl
                unfold execOp
                simp [go_sem, Act.eval, Act.put, h1, h12, ha]
                omega
              · intro v2 w7 hr hd
                have h13 : v2 13 = _ := hd 13 (by kernel_rfl)
                have hlen : (((S ++ [102, 114, 111, 109, 32]) ++ x1.n)).length ≤ 1001000 := by
                  simp
                  omega
                generalize ((S ++ [102, 114, 111, 109, 32]) ++ x1.n) = P at h13 hlen ⊢
                have ha : ({ data := P.toArray } : ByteArray) ++ { data := #[32, 116, 111, 32] } = ⟨(P ++ [32, 116, 111, 32]).toArray⟩ := str_app9 P [32, 116, 111, 32]
                refine yields_run (u := sV (P ++ [32, 116, 111, 32])) (w' := w7) ?_ (Below.refl _ _) rfl
                unfold execOp
                simp [go_sem, Act.eval, Act.put, h13, ha]
                omega
              · intro v2 w7 hr hd
                refine yields_run (u := .pointer (some ⟨gg, 2, none⟩)) (w' := w7) ?_ (Below.refl _ _) rfl
                unfold execOp
                simp [go_sem, Act.eval, Act.put]
              · intro v2 w7 hr hd
                have h15 : v2 15 = _ := hd 15 (by kernel_rfl)
                have c0 := (GG.out w7 (HWX.out w7 hr.1) 2)
                refine yields_run (u := .slice (some ⟨bo, oo, none⟩) g.o.length vk) (w' := w7) ?_ (Below.refl _ _) rfl
                unfold execOp
                simp [go_sem, Act.eval, Act.put, h15, c0]
              · intro v2 w7 hr hd
                refine yields_run (u := .pointer (some ⟨gg, 3, none⟩)) (w' := w7) ?_ (Below.refl _ _) rfl
                unfold execOp
                simp [go_sem, Act.eval, Act.put]
              · intro v2 w7 hr hd
                have h17 : v2 17 = _ := hd 17 (by kernel_rfl)
                have c0 := (GG.out w7 (HWX.out w7 hr.1) 3)
                refine yields_run (u := .slice (some ⟨b1, o1, none⟩) g.h.length vm) (w' := w7) ?_ (Below.refl _ _) rfl
                unfold execOp
                simp [go_sem, Act.eval, Act.put, h17, c0]
              · intro v2 w7 hr hd
                refine yields_run (u := .int .i64 i) (w' := w7) ?_ (Below.refl _ _) rfl
                unfold execOp
                simp [go_sem, Act.eval, Act.put]
              · intro v2 w7 hr hd
                have h18 : v2 18 = _ := hd 18 (by kernel_rfl)
                have h19 : v2 19 = _ := hd 19 (by kernel_rfl)
                exact yields_index (b := b1) (off := o1) (n := g.h.length) (c := vm) (i := i) (m := 2) rfl (by simp [Act.eval, Act.put, h18, h19]) (by simp [Act.eval, Act.put, h18, h19]) hlt Tryd.underlying25 (by intro w; simp [Tryd.sizeOf76])
              · intro v2 w7 hr hd
                have h20 : v2 20 = _ := hd 20 (by kernel_rfl)
                refine yields_run (u := .pointer (some ⟨b1, o1 + i * 2 + 1, none⟩)) (w' := w7) ?_ (Below.refl _ _) rfl
                unfold execOp
                simp [go_sem, Act.eval, Act.put, h20]
              · intro v2 w7 hr hd
                have h21 : v2 21 = _ := hd 21 (by kernel_rfl)
                have c0 := (E1.out w7 (HWX.out w7 hr.1))
                refine yields_run (u := .int .i64 (n : Int)) (w' := w7) ?_ (Below.refl _ _) rfl
                unfold execOp
                simp [go_sem, Act.eval, Act.put, h21, c0]
              · intro v2 w7 hr hd
                have h16 : v2 16 = _ := hd 16 (by kernel_rfl)
                have h22 : v2 22 = _ := hd 22 (by kernel_rfl)
                exact yields_index (b := bo) (off := oo) (n := g.o.length) (c := vk) (i := n) (m := 6) rfl (by simp [Act.eval, Act.put, h16, h22]) (by simp [Act.eval, Act.put, h16, h22]) hn1 Tryd.underlying24 (by intro w; simp [Tryd.sizeOf71])
              · intro v2 w7 hr hd
                have h23 : v2 23 = _ := hd 23 (by kernel_rfl)
                refine yields_run (u := .pointer (some ⟨bo, oo + n * 6, none⟩)) (w' := w7) ?_ (Below.refl _ _) rfl
                unfold execOp
                simp [go_sem, Act.eval, Act.put, h23]
              · intro v2 w7 hr hd
                have h24 : v2 24 = _ := hd 24 (by kernel_rfl)
                have c0 := (F2.out w7 (HWX.out w7 hr.1))
                refine yields_run (u := sV x2.n) (w' := w7) ?_ (Below.refl _ _) rfl
                unfold execOp
                simp [go_sem, Act.eval, Act.put, h24, c0]
              · intro v2 w7 hr hd
                have h14 : v2 14 = _ := hd 14 (by kernel_rfl)
                have h25 : v2 25 = _ := hd 25 (by kernel_rfl)
                have hlen : ((((S ++ [102, 114, 111, 109, 32]) ++ x1.n) ++ [32, 116, 111, 32])).length ≤ 1001000 := by
                  simp
                  omega
                generalize (((S ++ [102, 114, 111, 109, 32]) ++ x1.n) ++ [32, 116, 111, 32]) = P at h14 hlen ⊢
                have ha : ({ data := P.toArray } : ByteArray) ++ { data := x2.n.toArray } = ⟨(P ++ x2.n).toArray⟩ := str_app9 P x2.n
                refine yields_run (u := sV (P ++ x2.n)) (w' := w7) ?_ (Below.refl _ _) rfl
                unfold execOp
                simp [go_sem, Act.eval, Act.put, h14, h25, ha]
                omega
              · intro v2 w7 hr hd
                have h26 : v2 26 = _ := hd 26 (by kernel_rfl)
                have hlen : (((((S ++ [102, 114, 111, 109, 32]) ++ x1.n) ++ [32, 116, 111, 32]) ++ x2.n)).length ≤ 1001000 := by
                  simp
                  omega
                generalize ((((S ++ [102, 114, 111, 109, 32]) ++ x1.n) ++ [32, 116, 111, 32]) ++ x2.n) = P at h26 hlen ⊢
                have ha : ({ data := P.toArray } : ByteArray) ++ { data := #[10] } = ⟨(P ++ [10]).toArray⟩ := str_app9 P [10]
                refine yields_run (u := sV (P ++ [10])) (w' := w7) ?_ (Below.refl _ _) rfl
                unfold execOp
                simp [go_sem, Act.eval, Act.put, h26, ha]
                omega
              · intro v2 w7 hr hd
                have h27 : v2 27 = _ := hd 27 (by kernel_rfl)
                refine yields_run (u := sV (((((S ++ [102, 114, 111, 109, 32]) ++ x1.n) ++ [32, 116, 111, 32]) ++ x2.n) ++ [10])) (w' := w7) ?_ (Below.refl _ _) rfl
                unfold execOp
                simp [go_sem, Act.eval, Act.put, h27]
              · intro v2 w7 hr hv
                have hb9 := hv 28 (by decide)
                have hR := hr.1
                rw [hfin]
                clear hfin hv hr
                go_wp2_with fail
                go_roundw
                case rel => exact ⟨i + 1, hlt, by go_num, by rw [HX.out]; exact hb9, Lib.hid (Br.out.trans (hR.mono Br.out.size))⟩
                case measure => simp [intOf]; omega
          subst hin
          have hlt : ¬ ((g.h.length : Int) < g.h.length) := by omega
          rw [upto_all]
          have HXX : A3 ++ (g.h.map fun x => sp (chWords g x)).flatten = X := by rw [← hX.out, HA3.out, HA2.out, HA1.out, HA0.out]; simp [textG]
          rw [HXX]
          have k0 : wr.cell? ⟨gg, 3, none⟩ = some (.slice ve g.h.length vm) := GG.out wr Br.out 3
          go_wp2_with fail
          go_ret2
          exact ⟨rfl, HW.out _ Br.out⟩
end Go.Proofs.YtlbphlhbofjfgaaDoor.graph
