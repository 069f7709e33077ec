/-
  The contract of watershedref11.Text.
-/
import Derived.Test.YtfjfohkdlikpiaaDoorWr
import Derived.Test.YtfjfohkdlikpiaaDoorDp
import Derived.Test.YtfjfohkdlikpiaaDoorDe
import Derived.Test.YtfjfohkdlikpiaaDoorWh
import Derived.Test.YtfjfohkdlikpiaaDoorRt6
import Derived.Lib.ItoaLen
import Derived.Handy
import Derived.BigQuiet
import Derived.Deep.CutBlock
namespace Go.Proofs.YtfjfohkdlikpiaaDoor.data
open Go.ChangeShapes Go.WideShapes Go.ChangeAt Go.RowKit
open Go.Proofs.YtfjfohkdlikpiaaDoor.opened Go.Proofs.YtfjfohkdlikpiaaDoor.block Go.Proofs.YtfjfohkdlikpiaaDoor.region Go.Proofs.YtfjfohkdlikpiaaDoor.words

theorem str_app9 (a b : Bs) : ({ data := a.toArray } : ByteArray) ++ { data := b.toArray } = ⟨(a ++ b).toArray⟩ := by
  apply ByteArray.ext
  rw [ByteArray.data_append]
  simp
/-- The text of the first records. -/
def txtK (L : List Rc) (k : Nat) : Bs := Lib.join ((L.take k).map txtR) [44]
theorem txtK_zero (L : List Rc) : txtK L 0 = [] := rfl
theorem txtK_one {L : List Rc} {r : Rc} (h : L[0]? = some r) : txtK L 1 = txtR r := by
  cases L with
  | nil => simp at h
  | cons x M =>
    simp at h
    subst h
    simp [txtK, Lib.join_one]
theorem txtK_succ {L : List Rc} {k : Nat} {r : Rc} (h : L[k + 1]? = some r) : txtK L (k + 2) = txtK L (k + 1) ++ 44 :: txtR r := by
  cases L with
  | nil => simp at h
  | cons x M =>
    have e : (x :: M).take (k + 2) = x :: (M.take k.succ) := rfl
    have e2 : M.take k.succ = M.take k ++ [r] := by
      have h' : M[k]? = some r := by simpa using h
      rw [Nat.succ_eq_add_one, List.take_add_one, h']
      rfl
    unfold txtK
    rw [e, e2]
    show Lib.join (txtR x :: (M.take k ++ [r]).map txtR) [44] = Lib.join (txtR x :: (M.take k).map txtR) [44] ++ _
    rw [Lib.join_cons, Lib.join_cons]
    simp [Lib.joinTail]
theorem txtR_len {r : Rc} (h : r.In) : (txtR r).length ≤ 43 := by
  have h1 := Lib.itoa_length_le _ h.1.1 h.1.2
  have h2 := Lib.itoa_length_le _ h.2.1 h.2.2
  unfold txtR
  simp only [List.length_append, List.length_cons]
  omega
theorem txtK_len {L : List Rc} (h : InR L) : ∀ k, (txtK L k).length ≤ 44 * k
  | 0 => by simp [txtK_zero]
  | 1 => by
    cases h0 : L[0]? with
    | none =>
      have : L = [] := by simpa using h0
      subst this
      simp [txtK, Lib.join_nil]
    | some r =>
      rw [txtK_one h0]
      have := txtR_len (h r (List.mem_of_getElem? h0))
      omega
  | k + 2 => by
    cases h0 : L[k + 1]? with
    | none =>
      have ih := txtK_len h (k + 1)
      have : L.length ≤ k + 1 := by simpa using h0
      have e : txtK L (k + 2) = txtK L (k + 1) := by
        unfold txtK
        rw [List.take_of_length_le (by omega), List.take_of_length_le this]
      rw [e]
      omega
    | some r =>
      have ih := txtK_len h (k + 1)
      rw [txtK_succ h0]
      have := txtR_len (h r (List.mem_of_getElem? h0))
      simp only [List.length_append, List.length_cons]
      omega
theorem txtK_all {L : List Rc} (h : L ≠ []) : txtK L L.length = txtL L := by
  unfold txtK txtL
  rw [if_neg h, List.take_length]
set_option maxRecDepth 100000 in
set_option maxHeartbeats 8000000 in
theorem textR_any (L : List Rc) (iL : InR L) (A : Option Addr) (c : Nat) (mL : L.length ≤ 1000) (w : World) (hL : Lr w A L) :
    Calls Tryd.prog 8 #[.slice A L.length c] w fun e w' => e = .returned (sV (txtL L)) ∧ Below w.heap.size w w' := by
  by_cases h0 : L = []
  · subst h0
    rw [show txtL [] = [45] from rfl]
    go_enter Tryd.func8, Tryd.ntmps8
    go_wp2_with fail
    go_ret
    exact ⟨rfl, Below.refl _ _⟩
  rw [← txtK_all h0]
  have hpos : L.length ≠ 0 := fun e => h0 (List.eq_nil_of_length_eq_zero e)
  have x0 : (((L.length : Nat) : Int) == 0) = false := by rw [beq_eq_false_iff_ne]; omega
  have HL0 := Lib.hid hL
  have HI := Lib.hid iL
  clear hL iL h0
  go_enter Tryd.func8, Tryd.ntmps8
  go_wp2_with fail
  go_loopw [3, 4] (fun s i wr => ∃ k : Nat, k ≤ L.length ∧ s = sV (txtK L k) ∧ i = .int .i64 k ∧ Hid (Below w.heap.size w wr) ∧ Hid (Lr wr A L)) (fun _ i _ => L.length - (intOf i).toNat)
  case atStart => exact ⟨0, Nat.zero_le _, rfl, rfl, Lib.hid (Below.refl _ _), HL0⟩
  case round =>
    clear HL0
    obtain ⟨k, hk, rfl, rfl, HB, HL⟩ := hrel
    by_cases hlt : k < L.length
    · obtain ⟨r, hr, hrm⟩ := get_ltR hlt
      have ir := HI.out r hrm
      obtain ⟨b, o, rfl, hb, hc0, hc1⟩ := at_rc HL.out hr
      have RC := Lib.hid (⟨hb, hc0, hc1⟩ : _ ∧ _ ∧ _)
      have NK := Lib.hid (fun W => numberR_any r.k ir.1.1 ir.1.2 W)
      have NV := Lib.hid (fun W => numberR_any r.v ir.2.1 ir.2.2 W)
      have lk := Lib.itoa_length_le _ ir.1.1 ir.1.2
      have lv := Lib.itoa_length_le _ ir.2.1 ir.2.2
      have hT := txtK_len HI.out k
      have HSu : Hid (∀ j, k = j + 1 → txtK L (k + 1) = (((txtK L k ++ [44]) ++ Lib.itoa r.k) ++ [58]) ++ Lib.itoa r.v) := Lib.hid (fun j e => by
        subst e
        rw [txtK_succ hr]
        simp [txtR])
      have HS0 : Hid (k = 0 → txtK L (k + 1) = ((([] ++ Lib.itoa r.k) ++ [58]) ++ Lib.itoa r.v)) := Lib.hid (fun e => by
        subst e
        rw [txtK_one hr]
        simp [txtR])
      generalize Lib.itoa r.k = nk at NK lk HSu HS0
      generalize Lib.itoa r.v = nv at NV lv HSu HS0
      clear hr hrm ir hb hc0 hc1
      obtain ⟨S, hS, HS⟩ : ∃ S : Bs, (S = if k = 0 then [] else txtK L k ++ [44]) ∧ Hid (txtK L (k + 1) = ((S ++ nk) ++ [58]) ++ nv) := ⟨_, rfl, Lib.hid (by
        by_cases e : k = 0
        · rw [if_pos e]; exact HS0.out e
        · rw [if_neg e]; exact HSu.out (k - 1) (by omega))⟩
      clear HSu HS0
      have hSl : S.length ≤ 100000 := by
        rw [hS]
        split
        · simp
        · simp only [List.length_append, List.length_cons, List.length_nil]; omega
      by_cases k0 : k = 0
      · rw [if_pos k0] at hS
        have eT : txtK L k = S := by rw [k0, hS]; rfl
        rw [eT]
        clear eT hS
        have x1 : ¬ (0 : Int) < (k : Int) := by omega
        clear k0
        go_upto_region 9 with fail
        refine region_full 35 [] [] (fun _ => false) (fun w7 => Below wr.heap.size wr w7 ∧ wr.heap.size ≤ w7.heap.size) ?hR ?r0 [pdOne 0 (Is (sV S)), pdOne 1 (Is (.slice (some ⟨b, o, none⟩) L.length c)), pdOne 2 (Is (.int .i64 (k : Nat))), pdOne 3 (Is (.pointer (some ⟨b, o + k * 2, none⟩))), pdOne 4 (Is (.pointer (some ⟨b, o + k * 2, none⟩))), pdOne 5 (Is (.int .i64 r.k)), pdOne 6 (Is (sV nk)), pdOne 7 (Is (sV (S ++ nk))), pdOne 8 (Is (sV ((S ++ nk) ++ [58]))), pdOne 9 (Is (.slice (some ⟨b, o, none⟩) L.length c)), pdOne 10 (Is (.int .i64 (k : Nat))), pdOne 11 (Is (.pointer (some ⟨b, o + k * 2, none⟩))), pdOne 12 (Is (.pointer (some ⟨b, o + k * 2 + 1, none⟩))), pdOne 13 (Is (.int .i64 r.v)), pdOne 14 (Is (sV nv)), pdOne 15 (Is (sV (((S ++ nk) ++ [58]) ++ nv))), pdOne 16 (Is (sV (((S ++ nk) ++ [58]) ++ nv)))] (fun _ _ => True) (by kernel_rfl) rfl (by kernel_rfl) (by kernel_rfl) (by kernel_rfl) (by kernel_rfl) ?keep ?hO ?h0 ?tell
        case hR => exact fun wa wb hb ⟨h1, h2⟩ => ⟨h1.trans (hb.mono h1.size), Nat.le_trans h2 hb.size⟩
        case r0 => exact ⟨Below.refl _ _, Nat.le_refl _⟩
        case keep => exact ⟨keep_one (keeps_is _), keep_one (keeps_is _), keep_one (keeps_is _), keep_one (keeps_is _), keep_one (keeps_is _), keep_one (keeps_is _), keep_one (keeps_is _), keep_one (keeps_is _), keep_one (keeps_is _), keep_one (keeps_is _), keep_one (keeps_is _), keep_one (keeps_is _), keep_one (keeps_is _), keep_one (keeps_is _), keep_one (keeps_is _), keep_one (keeps_is _), keep_one (keeps_is _), trivial⟩
        case hO => exact fun _ _ _ _ h => h
        case h0 => exact fun _ _ => trivial
        case tell =>
          intro fin hfin
          simp [lexPut, Act.put] at hfin
          simp only [TellF]
          refine ⟨⟨?_, ?_, ?_, ?_, ?_, ?_, ?_, ?_, ?_, ?_, ?_, ?_, ?_, ?_, ?_, ?_, ?_, trivial⟩, ?_⟩
          · intro v2 w7 hr hd
            refine yields_run (u := sV S) (w' := w7) ?_ (Below.refl _ _) rfl
            unfold execOp
            simp [go_sem, Act.eval]
          · intro v2 w7 hr hd
            refine yields_run (u := .slice (some ⟨b, o, none⟩) L.length c) (w' := w7) ?_ (Below.refl _ _) rfl
            unfold execOp
            simp [go_sem, Act.eval, Act.put]
          · intro v2 w7 hr hd
            refine yields_run (u := .int .i64 (k : Nat)) (w' := w7) ?_ (Below.refl _ _) rfl
            unfold execOp
            simp [go_sem, Act.eval, Act.put]
          · intro v2 w7 hr hd
            have h1 : v2 1 = _ := hd 1 (by kernel_rfl)
            have h2 : v2 2 = _ := hd 2 (by kernel_rfl)
            exact yields_index (b := b) (off := o) (n := L.length) (c := c) (i := k) (m := 2) rfl (by simp [Act.eval, Act.put, h1, h2]) (by simp [Act.eval, Act.put, h1, h2]) (by omega) Tryd.underlying22 (by intro w; simp [Tryd.sizeOf34])
          · intro v2 w7 hr hd
            have h3 : v2 3 = _ := hd 3 (by kernel_rfl)
            refine yields_run (u := .pointer (some ⟨b, o + k * 2, none⟩)) (w' := w7) ?_ (Below.refl _ _) rfl
            unfold execOp
            simp [go_sem, Act.eval, Act.put, h3]
          · intro v2 w7 hr hd
            have h4 : v2 4 = _ := hd 4 (by kernel_rfl)
            have c0 := (hr.1.cell (p := ⟨b, o + k * 2, none⟩) RC.out.1).trans RC.out.2.1
            refine yields_run (u := .int .i64 r.k) (w' := w7) ?_ (Below.refl _ _) rfl
            unfold execOp
            simp [go_sem, Act.eval, Act.put, h4, c0]
          · intro v2 w7 hr hd
            have h5 : v2 5 = _ := hd 5 (by kernel_rfl)
            refine yields_call (f := 15) rfl (vs := #[.int .i64 r.k]) (by simp [Act.eval, Act.put, h5]) rfl Tryd.func15 (by kernel_rfl) (by kernel_rfl) ((NK.out w7).mono fun e w8 ⟨he, hb⟩ => ⟨_, he, hb, rfl⟩)
          · intro v2 w7 hr hd
            have h0 : v2 0 = _ := hd 0 (by kernel_rfl)
            have h6 : v2 6 = _ := hd 6 (by kernel_rfl)
            have ha : ({ data := S.toArray } : ByteArray) ++ { data := nk.toArray } = ⟨(S ++ nk).toArray⟩ := str_app9 S nk
            refine yields_run (u := sV (S ++ nk)) (w' := w7) ?_ (Below.refl _ _) rfl
            unfold execOp
            simp [go_sem, Act.eval, Act.put, h0, h6, ha]
            omega
          · intro v2 w7 hr hd
            have h7 : v2 7 = _ := hd 7 (by kernel_rfl)
            have hlen : ((S ++ nk)).length ≤ 1001000 := by
              simp
              omega
            generalize (S ++ nk) = P at h7 hlen ⊢
            have ha : ({ data := P.toArray } : ByteArray) ++ { data := #[58] } = ⟨(P ++ [58]).toArray⟩ := str_app9 P [58]
            refine yields_run (u := sV (P ++ [58])) (w' := w7) ?_ (Below.refl _ _) rfl
            unfold execOp
            simp [go_sem, Act.eval, Act.put, h7, ha]
            omega
          · intro v2 w7 hr hd
            refine yields_run (u := .slice (some ⟨b, o, none⟩) L.length c) (w' := w7) ?_ (Below.refl _ _) rfl
            unfold execOp
            simp [go_sem, Act.eval, Act.put]
          · intro v2 w7 hr hd
            refine yields_run (u := .int .i64 (k : Nat)) (w' := w7) ?_ (Below.refl _ _) rfl
            unfold execOp
            simp [go_sem, Act.eval, Act.put]
          · intro v2 w7 hr hd
            have h9 : v2 9 = _ := hd 9 (by kernel_rfl)
            have h10 : v2 10 = _ := hd 10 (by kernel_rfl)
            exact yields_index (b := b) (off := o) (n := L.length) (c := c) (i := k) (m := 2) rfl (by simp [Act.eval, Act.put, h9, h10]) (by simp [Act.eval, Act.put, h9, h10]) (by omega) Tryd.underlying22 (by intro w; simp [Tryd.sizeOf34])
          · intro v2 w7 hr hd
            have h11 : v2 11 = _ := hd 11 (by kernel_rfl)
            refine yields_run (u := .pointer (some ⟨b, o + k * 2 + 1, none⟩)) (w' := w7) ?_ (Below.refl _ _) rfl
            unfold execOp
            simp [go_sem, Act.eval, Act.put, h11]
          · intro v2 w7 hr hd
            have h12 : v2 12 = _ := hd 12 (by kernel_rfl)
            have c0 := (hr.1.cell (p := ⟨b, o + k * 2 + 1, none⟩) RC.out.1).trans RC.out.2.2
            refine yields_run (u := .int .i64 r.v) (w' := w7) ?_ (Below.refl _ _) rfl
            unfold execOp
            simp [go_sem, Act.eval, Act.put, h12, c0]
          · intro v2 w7 hr hd
            have h13 : v2 13 = _ := hd 13 (by kernel_rfl)
            refine yields_call (f := 15) rfl (vs := #[.int .i64 r.v]) (by simp [Act.eval, Act.put, h13]) rfl Tryd.func15 (by kernel_rfl) (by kernel_rfl) ((NV.out w7).mono fun e w8 ⟨he, hb⟩ => ⟨_, he, hb, rfl⟩)
          · intro v2 w7 hr hd
            have h8 : v2 8 = _ := hd 8 (by kernel_rfl)
            have h14 : v2 14 = _ := hd 14 (by kernel_rfl)
            have hlen : (((S ++ nk) ++ [58])).length ≤ 1001000 := by
              simp
              omega
            generalize ((S ++ nk) ++ [58]) = P at h8 hlen ⊢
            have ha : ({ data := P.toArray } : ByteArray) ++ { data := nv.toArray } = ⟨(P ++ nv).toArray⟩ := str_app9 P nv
            refine yields_run (u := sV (P ++ nv)) (w' := w7) ?_ (Below.refl _ _) rfl
            unfold execOp
            simp [go_sem, Act.eval, Act.put, h8, h14, ha]
            omega
          · intro v2 w7 hr hd
            have h15 : v2 15 = _ := hd 15 (by kernel_rfl)
            refine yields_run (u := sV (((S ++ nk) ++ [58]) ++ nv)) (w' := w7) ?_ (Below.refl _ _) rfl
            unfold execOp
            simp [go_sem, Act.eval, Act.put, h15]
          · intro v2 w7 hr hv
            have h16 : v2 16 = sV (((S ++ nk) ++ [58]) ++ nv) := hv 16 (by decide)
            rw [hfin, h16]
            clear hfin hv
            have HB7 := Lib.hid (HB.out.trans (hr.1.mono HB.out.size))
            have HL7 := Lib.hid (HL.out.below hr.1)
            clear hr h16 RC NK NV HB HL
            generalize v2 = vz
            go_wp2_with fail
            go_roundw
            case rel => exact ⟨k + 1, by omega, by rw [HS.out], by go_num, HB7, HL7⟩
            case measure => simp [intOf]; omega
      · rw [if_neg k0] at hS
        have x1 : (0 : Int) < (k : Int) := by omega
        generalize txtK L k = T at hT hS ⊢
        have ha : ({ data := T.toArray } : ByteArray) ++ { data := #[44] } = ⟨S.toArray⟩ := by rw [hS]; exact str_app9 T [44]
        clear hS k0
        go_upto_region 9 with fail
        refine region_full 35 [] [] (fun _ => false) (fun w7 => Below wr.heap.size wr w7 ∧ wr.heap.size ≤ w7.heap.size) ?hR ?r0 [pdOne 0 (Is (sV S)), pdOne 1 (Is (.slice (some ⟨b, o, none⟩) L.length c)), pdOne 2 (Is (.int .i64 (k : Nat))), pdOne 3 (Is (.pointer (some ⟨b, o + k * 2, none⟩))), pdOne 4 (Is (.pointer (some ⟨b, o + k * 2, none⟩))), pdOne 5 (Is (.int .i64 r.k)), pdOne 6 (Is (sV nk)), pdOne 7 (Is (sV (S ++ nk))), pdOne 8 (Is (sV ((S ++ nk) ++ [58]))), pdOne 9 (Is (.slice (some ⟨b, o, none⟩) L.length c)), pdOne 10 (Is (.int .i64 (k : Nat))), pdOne 11 (Is (.pointer (some ⟨b, o + k * 2, none⟩))), pdOne 12 (Is (.pointer (some ⟨b, o + k * 2 + 1, none⟩))), pdOne 13 (Is (.int .i64 r.v)), pdOne 14 (Is (sV nv)), pdOne 15 (Is (sV (((S ++ nk) ++ [58]) ++ nv))), pdOne 16 (Is (sV (((S ++ nk) ++ [58]) ++ nv)))] (fun _ _ => True) (by kernel_rfl) rfl (by kernel_rfl) (by kernel_rfl) (by kernel_rfl) (by kernel_rfl) ?keep ?hO ?h0 ?tell
        case hR => exact fun wa wb hb ⟨h1, h2⟩ => ⟨h1.trans (hb.mono h1.size), Nat.le_trans h2 hb.size⟩
        case r0 => exact ⟨Below.refl _ _, Nat.le_refl _⟩
        case keep => exact ⟨keep_one (keeps_is _), keep_one (keeps_is _), keep_one (keeps_is _), keep_one (keeps_is _), keep_one (keeps_is _), keep_one (keeps_is _), keep_one (keeps_is _), keep_one (keeps_is _), keep_one (keeps_is _), keep_one (keeps_is _), keep_one (keeps_is _), keep_one (keeps_is _), keep_one (keeps_is _), keep_one (keeps_is _), keep_one (keeps_is _), keep_one (keeps_is _), keep_one (keeps_is _), trivial⟩
        case hO => exact fun _ _ _ _ h => h
        case h0 => exact fun _ _ => trivial
        case tell =>
          intro fin hfin
          simp [lexPut, Act.put] at hfin
          simp only [TellF]
          refine ⟨⟨?_, ?_, ?_, ?_, ?_, ?_, ?_, ?_, ?_, ?_, ?_, ?_, ?_, ?_, ?_, ?_, ?_, trivial⟩, ?_⟩
          · intro v2 w7 hr hd
            refine yields_run (u := sV S) (w' := w7) ?_ (Below.refl _ _) rfl
            unfold execOp
            simp [go_sem, Act.eval]
          · intro v2 w7 hr hd
            refine yields_run (u := .slice (some ⟨b, o, none⟩) L.length c) (w' := w7) ?_ (Below.refl _ _) rfl
            unfold execOp
            simp [go_sem, Act.eval, Act.put]
          · intro v2 w7 hr hd
            refine yields_run (u := .int .i64 (k : Nat)) (w' := w7) ?_ (Below.refl _ _) rfl
            unfold execOp
            simp [go_sem, Act.eval, Act.put]
          · intro v2 w7 hr hd
            have h1 : v2 1 = _ := hd 1 (by kernel_rfl)
            have h2 : v2 2 = _ := hd 2 (by kernel_rfl)
            exact yields_index (b := b) (off := o) (n := L.length) (c := c) (i := k) (m := 2) rfl (by simp [Act.eval, Act.put, h1, h2]) (by simp [Act.eval, Act.put, h1, h2]) (by omega) Tryd.underlying22 (by intro w; simp [Tryd.sizeOf34])
          · intro v2 w7 hr hd
            have h3 : v2 3 = _ := hd 3 (by kernel_rfl)
            refine yields_run (u := .pointer (some ⟨b, o + k * 2, none⟩)) (w' := w7) ?_ (Below.refl _ _) rfl
            unfold execOp
            simp [go_sem, Act.eval, Act.put, h3]
          · intro v2 w7 hr hd
            have h4 : v2 4 = _ := hd 4 (by kernel_rfl)
            have c0 := (hr.1.cell (p := ⟨b, o + k * 2, none⟩) RC.out.1).trans RC.out.2.1
            refine yields_run (u := .int .i64 r.k) (w' := w7) ?_ (Below.refl _ _) rfl
            unfold execOp
            simp [go_sem, Act.eval, Act.put, h4, c0]
          · intro v2 w7 hr hd
            have h5 : v2 5 = _ := hd 5 (by kernel_rfl)
            refine yields_call (f := 15) rfl (vs := #[.int .i64 r.k]) (by simp [Act.eval, Act.put, h5]) rfl Tryd.func15 (by kernel_rfl) (by kernel_rfl) ((NK.out w7).mono fun e w8 ⟨he, hb⟩ => ⟨_, he, hb, rfl⟩)
          · intro v2 w7 hr hd
            have h0 : v2 0 = _ := hd 0 (by kernel_rfl)
            have h6 : v2 6 = _ := hd 6 (by kernel_rfl)
            have ha : ({ data := S.toArray } : ByteArray) ++ { data := nk.toArray } = ⟨(S ++ nk).toArray⟩ := str_app9 S nk
            refine yields_run (u := sV (S ++ nk)) (w' := w7) ?_ (Below.refl _ _) rfl
            unfold execOp
            simp [go_sem, Act.eval, Act.put, h0, h6, ha]
            omega
          · intro v2 w7 hr hd
            have h7 : v2 7 = _ := hd 7 (by kernel_rfl)
            have hlen : ((S ++ nk)).length ≤ 1001000 := by
              simp
              omega
            generalize (S ++ nk) = P at h7 hlen ⊢
            have ha : ({ data := P.toArray } : ByteArray) ++ { data := #[58] } = ⟨(P ++ [58]).toArray⟩ := str_app9 P [58]
            refine yields_run (u := sV (P ++ [58])) (w' := w7) ?_ (Below.refl _ _) rfl
            unfold execOp
            simp [go_sem, Act.eval, Act.put, h7, ha]
            omega
          · intro v2 w7 hr hd
            refine yields_run (u := .slice (some ⟨b, o, none⟩) L.length c) (w' := w7) ?_ (Below.refl _ _) rfl
            unfold execOp
            simp [go_sem, Act.eval, Act.put]
          · intro v2 w7 hr hd
            refine yields_run (u := .int .i64 (k : Nat)) (w' := w7) ?_ (Below.refl _ _) rfl
            unfold execOp
            simp [go_sem, Act.eval, Act.put]
          · intro v2 w7 hr hd
            have h9 : v2 9 = _ := hd 9 (by kernel_rfl)
            have h10 : v2 10 = _ := hd 10 (by kernel_rfl)
            exact yields_index (b := b) (off := o) (n := L.length) (c := c) (i := k) (m := 2) rfl (by simp [Act.eval, Act.put, h9, h10]) (by simp [Act.eval, Act.put, h9, h10]) (by omega) Tryd.underlying22 (by intro w; simp [Tryd.sizeOf34])
          · intro v2 w7 hr hd
            have h11 : v2 11 = _ := hd 11 (by kernel_rfl)
            refine yields_run (u := .pointer (some ⟨b, o + k * 2 + 1, none⟩)) (w' := w7) ?_ (Below.refl _ _) rfl
            unfold execOp
            simp [go_sem, Act.eval, Act.put, h11]
          · intro v2 w7 hr hd
            have h12 : v2 12 = _ := hd 12 (by kernel_rfl)
            have c0 := (hr.1.cell (p := ⟨b, o + k * 2 + 1, none⟩) RC.out.1).trans RC.out.2.2
            refine yields_run (u := .int .i64 r.v) (w' := w7) ?_ (Below.refl _ _) rfl
            unfold execOp
            simp [go_sem, Act.eval, Act.put, h12, c0]
          · intro v2 w7 hr hd
            have h13 : v2 13 = _ := hd 13 (by kernel_rfl)
            refine yields_call (f := 15) rfl (vs := #[.int .i64 r.v]) (by simp [Act.eval, Act.put, h13]) rfl Tryd.func15 (by kernel_rfl) (by kernel_rfl) ((NV.out w7).mono fun e w8 ⟨he, hb⟩ => ⟨_, he, hb, rfl⟩)
          · intro v2 w7 hr hd
            have h8 : v2 8 = _ := hd 8 (by kernel_rfl)
            have h14 : v2 14 = _ := hd 14 (by kernel_rfl)
            have hlen : (((S ++ nk) ++ [58])).length ≤ 1001000 := by
              simp
              omega
            generalize ((S ++ nk) ++ [58]) = P at h8 hlen ⊢
            have ha : ({ data := P.toArray } : ByteArray) ++ { data := nv.toArray } = ⟨(P ++ nv).toArray⟩ := str_app9 P nv
            refine yields_run (u := sV (P ++ nv)) (w' := w7) ?_ (Below.refl _ _) rfl
            unfold execOp
            simp [go_sem, Act.eval, Act.put, h8, h14, ha]
            omega
          · intro v2 w7 hr hd
            have h15 : v2 15 = _ := hd 15 (by kernel_rfl)
            refine yields_run (u := sV (((S ++ nk) ++ [58]) ++ nv)) (w' := w7) ?_ (Below.refl _ _) rfl
            unfold execOp
            simp [go_sem, Act.eval, Act.put, h15]
          · intro v2 w7 hr hv
            have h16 : v2 16 = sV (((S ++ nk) ++ [58]) ++ nv) := hv 16 (by decide)
            rw [hfin, h16]
            clear hfin hv
            have HB7 := Lib.hid (HB.out.trans (hr.1.mono HB.out.size))
            have HL7 := Lib.hid (HL.out.below hr.1)
            clear hr h16 RC NK NV HB HL
            generalize v2 = vz
            go_wp2_with fail
            go_roundw
            case rel => exact ⟨k + 1, by omega, by rw [HS.out], by go_num, HB7, HL7⟩
            case measure => simp [intOf]; omega
    · obtain rfl : k = L.length := by omega
      go_wp2_with fail
      go_ret
      exact ⟨rfl, HB.out⟩
end Go.Proofs.YtfjfohkdlikpiaaDoor.data
