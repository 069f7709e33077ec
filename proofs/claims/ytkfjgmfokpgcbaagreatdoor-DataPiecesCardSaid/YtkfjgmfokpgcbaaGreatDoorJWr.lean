/-
  The contracts of the document's Number, Signed and Int.
  The contract of watershedref11.Text.
  The contract of data.Text.
-/
import Derived.Test.YtkfjgmfokpgcbaaGreatDoorJWq
import Derived.Test.YtkfjgmfokpgcbaaGreatDoorJNw
import Derived.Test.YtkfjgmfokpgcbaaGreatDoorJDe
import Derived.Test.YtkfjgmfokpgcbaaGreatDoorJBlock
import Derived.Test.YtkfjgmfokpgcbaaGreatDoorJRt5
import Derived.Lib.ItoaLen
import Derived.Handy
import Derived.BigQuiet
import Derived.Deep.CutBlock
import Derived.Lib.Join
namespace Go.Proofs.YtkfjgmfokpgcbaaGreatDoor.words
open Go.ChangeShapes Go.WideShapes Go.ChangeAt Go.RowKit
open Go.Proofs.YtkfjgmfokpgcbaaGreatDoor.opened Go.Proofs.YtkfjgmfokpgcbaaGreatDoor.block

theorem dig_one (m : Nat) (h : m < 10) (W : World) : (convert 62 9 (.slice (some ⟨W.heap.size, 0, none⟩) 1 1)).run Tryz.prog (W.alloc (.cells #[.int .u8 (48 + (m : Int))] 5)) = .ok (.string ⟨#[UInt8.ofNat (48 + m)]⟩) (W.alloc (.cells #[.int .u8 (48 + (m : Int))] 5)) := by
  have hc : Value.int .u8 (48 + (m : Int)) = .int .u8 ((UInt8.ofNat (48 + m)).toNat : Int) := by
    simp
    omega
  have ho := World.ownsRow_lit (base := 0) (e := 5) (size := 1) W #[Value.int .u8 (48 + (m : Int))] 1 (Nat.zero_le _) (by unfold maxLen; omega) rfl
  rw [hc] at ho ⊢
  have h := run_convert_bytes_back (P := Tryz.prog) (W.alloc (.cells #[.int .u8 ((UInt8.ofNat (48 + m)).toNat : Int)] 5)) 62 9 5 ⟨W.heap.size, 0, none⟩ 1 [UInt8.ofNat (48 + m)] Tryz.underlying62 Tryz.underlying5 Tryz.underlying9 (fun j hj => by
    have h0 : j = 0 := by simp at hj; omega
    subst h0
    exact cell_new1 W _ _ 0 _ rfl)
  exact h
theorem str_front (c : Nat) (l : Bs) : ({ data := #[48 + UInt8.ofNat c] } : ByteArray) ++ { data := l.toArray } = ⟨(UInt8.ofNat (48 + c) :: l).toArray⟩ := ByteArray.ext (by simp)
end Go.Proofs.YtkfjgmfokpgcbaaGreatDoor.words
namespace Go.Proofs.YtkfjgmfokpgcbaaGreatDoor.data
open Go.ChangeShapes Go.WideShapes Go.ChangeAt Go.RowKit
open Go.Proofs.YtkfjgmfokpgcbaaGreatDoor.opened Go.Proofs.YtkfjgmfokpgcbaaGreatDoor.block Go.Proofs.YtkfjgmfokpgcbaaGreatDoor.region Go.Proofs.YtkfjgmfokpgcbaaGreatDoor.words

theorem str_app9 (a b : Bs) : ({ data := a.toArray } : ByteArray) ++ { data := b.toArray } = ⟨(a ++ b).toArray⟩ := by
  apply ByteArray.ext
  rw [ByteArray.data_append]
  simp
/-- The text of the first records. -/
def txtK (L : List Rc) (k : Nat) : Bs := Lib.join ((L.take k).map txtR) [44]
theorem txtK_zero (L : List Rc) : txtK L 0 = [] := rfl
theorem txtK_one {L : List Rc} {r : Rc} (h : L[0]? = some r) : txtK L 1 = txtR r := by
  cases L with
  | nil => simp at h
  | cons x M =>
    simp at h
    subst h
    simp [txtK, Lib.join_one]
theorem txtK_succ {L : List Rc} {k : Nat} {r : Rc} (h : L[k + 1]? = some r) : txtK L (k + 2) = txtK L (k + 1) ++ 44 :: txtR r := by
  cases L with
  | nil => simp at h
  | cons x M =>
    have e : (x :: M).take (k + 2) = x :: (M.take k.succ) := rfl
    have e2 : M.take k.succ = M.take k ++ [r] := by
      have h' : M[k]? = some r := by simpa using h
      rw [Nat.succ_eq_add_one, List.take_add_one, h']
      rfl
    unfold txtK
    rw [e, e2]
    show Lib.join (txtR x :: (M.take k ++ [r]).map txtR) [44] = Lib.join (txtR x :: (M.take k).map txtR) [44] ++ _
    rw [Lib.join_cons, Lib.join_cons]
    simp [Lib.joinTail]
theorem txtR_len {r : Rc} (h : r.In) : (txtR r).length ≤ 43 := by
  have h1 := Lib.itoa_length_le _ h.1.1 h.1.2
  have h2 := Lib.itoa_length_le _ h.2.1 h.2.2
  unfold txtR
  simp only [List.length_append, List.length_cons]
  omega
theorem txtK_len {L : List Rc} (h : InR L) : ∀ k, (txtK L k).length ≤ 44 * k
  | 0 => by simp [txtK_zero]
  | 1 => by
    cases h0 : L[0]? with
    | none =>
      have : L = [] := by simpa using h0
      subst this
      simp [txtK, Lib.join_nil]
    | some r =>
      rw [txtK_one h0]
      have := txtR_len (h r (List.mem_of_getElem? h0))
      omega
  | k + 2 => by
    cases h0 : L[k + 1]? with
    | none =>
      have ih := txtK_len h (k + 1)
      have : L.length ≤ k + 1 := by simpa using h0
      have e : txtK L (k + 2) = txtK L (k + 1) := by
        unfold txtK
        rw [List.take_of_length_le (by omega), List.take_of_length_le this]
      rw [e]
      omega
    | some r =>
      have ih := txtK_len h (k + 1)
      rw [txtK_succ h0]
      have := txtR_len (h r (List.mem_of_getElem? h0))
      simp only [List.length_append, List.length_cons]
      omega
theorem txtK_all {L : List Rc} (h : L ≠ []) : txtK L L.length = txtL L := by
  unfold txtK txtL
  rw [if_neg h, List.take_length]
end Go.Proofs.YtkfjgmfokpgcbaaGreatDoor.data
namespace Go.Proofs.YtkfjgmfokpgcbaaGreatDoor.data
open Go.ChangeShapes Go.WideShapes Go.ChangeAt Go.RowKit
open Go.Proofs.YtkfjgmfokpgcbaaGreatDoor.opened Go.Proofs.YtkfjgmfokpgcbaaGreatDoor.block Go.Proofs.YtkfjgmfokpgcbaaGreatDoor.region Go.Proofs.YtkfjgmfokpgcbaaGreatDoor.words

def cS (s : Bs) : List Value := [sV s]
theorem cellsS : Cells 1 cS := ⟨fun _ => rfl, fun x v hv => by
  simp [cS] at hv
  subst hv
  rfl⟩
theorem flatS (N : List Bs) : N.flatMap cS = N.map sV := by
  induction N with
  | nil => rfl
  | cons x r ih => rw [List.flatMap_cons, ih]; rfl
theorem ownS_snoc {w : World} {base : Nat} {v : Value} {N : List Bs} {x : Bs} (h : w.ownsRow base 9 1 v (N.length + 1) (N.flatMap cS ++ cS x)) : OwnG 9 1 cS w base v (N ++ [x]) := by
  unfold OwnG
  rw [List.length_append, List.flatMap_append]
  simpa using h
theorem infoSd : (Tryz.prog.info? 9).map (fun i => (i.zero, i.size, i.bytes)) = some (some (.string ByteArray.empty), 1, 16) := by kernel_rfl
theorem infoSd_parts : ∃ i, Tryz.prog.info? 9 = some i ∧ i.zero = some (.string ByteArray.empty) ∧ i.size = 1 ∧ i.bytes = 16 := by
  have h := infoSd
  rw [Option.map_eq_some_iff] at h
  obtain ⟨i, hi, he⟩ := h
  simp only [Prod.mk.injEq] at he
  exact ⟨i, hi, he.1, he.2.1, he.2.2⟩
/-- strings.Join, at a comma, of texts that lie in a row. -/
theorem joinS_any (g : Nat) (xs : List Bs) (c : Nat) (hc : xs.length ≤ c) (h1 : xs.length ≤ 1000) (hlen : (Lib.join xs [44]).length ≤ 1000000) (w : World) (hg : g < w.heap.size) (h : Lg 1 cS w (some ⟨g, 0, none⟩) xs) :
    Calls Tryz.prog 42 #[.slice (some ⟨g, 0, none⟩) xs.length c, .string ⟨#[44]⟩] w fun e w' => e = .returned (sV (Lib.join xs [44])) ∧ Below w.heap.size w w' := by
  have hm : (xs.map fun x => (⟨x.toArray⟩ : ByteArray)).map (·.data.toList) = xs := by
    rw [List.map_map]
    have : ((fun x : ByteArray => x.data.toList) ∘ fun x : List UInt8 => (⟨x.toArray⟩ : ByteArray)) = id := by funext x; simp
    rw [this, List.map_id]
  have k := Any.strings_Join Tryz.lays156 Tryz.Builder_Extra_156 g 0 c (xs.map fun x => (⟨x.toArray⟩ : ByteArray)) ⟨#[44]⟩ w (by
    intro j x hx
    rw [List.getElem?_map] at hx
    obtain ⟨y, hy, rfl⟩ := Option.map_eq_some_iff.1 hx
    obtain ⟨b, off, hA, hb, hcell⟩ := h.cells hy
    injection (Option.some.inj hA) with e1 e2
    subst e1 e2
    have := hcell 0 (by omega)
    simpa [cS] using this) hg (by simp; omega) (by simpa using hc) (by rw [hm]; show (Lib.join xs [44]).length ≤ _; omega)
  rw [hm, List.length_map] at k
  exact k
set_option maxRecDepth 100000 in
set_option maxHeartbeats 8000000 in
theorem text_any (L : List Rc) (iL : InR L) (A : Option Addr) (c : Nat) (mL : L.length ≤ 1000) (w : World) (hE : Env w) (hL : Lr w A L) :
    Calls Tryz.prog 21 #[.slice A L.length c] w fun e w' => e = .returned (sV (txtL L)) ∧ Below w.heap.size w w' := by
  obtain ⟨i0, hi0, hz0, hz1, hz2⟩ := infoSd_parts
  by_cases h0 : L = []
  · subst h0
    rw [show txtL [] = [45] from rfl]
    go_enter Tryz.func21, Tryz.ntmps21
    go_wp2_with fail
    go_ret
    exact ⟨rfl, Below.refl _ _⟩
  have hJ : txtL L = Lib.join (L.map txtR) [44] := by unfold txtL; rw [if_neg h0]
  have hJl := txtK_len iL L.length
  rw [txtK_all h0] at hJl
  have hpos : L.length ≠ 0 := fun e => h0 (List.eq_nil_of_length_eq_zero e)
  have x0 : (((L.length : Nat) : Int) == 0) = false := by rw [beq_eq_false_iff_ne]; omega
  have HJ := Lib.hid hJ
  have HL0 := Lib.hid hL
  have HI := Lib.hid iL
  have HE := Lib.hid hE
  clear hL iL h0 hE hJ
  generalize txtL L = X at HJ hJl ⊢
  go_enter Tryz.func21, Tryz.ntmps21
  go_wp2_with fail
  go_loopw [3, 11] (fun s i wr => ∃ (k : Nat) (N : List Bs) (D : Option Addr) (c1 : Nat), k ≤ L.length ∧ s = .slice D N.length c1 ∧ i = .int .i64 k ∧ Hid (N.length = k) ∧ Hid (N = (L.take k).map txtR) ∧ Hid (OwnG 9 1 cS wr w.heap.size (.slice D N.length c1) N) ∧ Hid (Below w.heap.size w wr) ∧ Hid (Lr wr A L)) (fun _ i _ => L.length - (intOf i).toNat)
  case atStart => exact ⟨0, [], none, 0, Nat.zero_le _, rfl, rfl, Lib.hid rfl, Lib.hid rfl, Lib.hid (ownG_nil _ _), Lib.hid (Below.refl _ _), HL0⟩
  case round =>
    obtain ⟨k, N, D, c1, hk, rfl, rfl, HNk, HN, HO, HB, HL⟩ := hrel
    have hNle : N.length ≤ 1000 := by have := HNk.out; omega
    by_cases hlt : k < L.length
    · obtain ⟨r, hr, hrm⟩ := get_ltR hlt
      have ir := HI.out r hrm
      obtain ⟨b, o, rfl, hb, hc0, hc1⟩ := at_rc HL.out hr
      have NK := Lib.hid (fun W (h : Env W) => number_any r.k ir.1.1 ir.1.2 W h)
      have NV := Lib.hid (fun W (h : Env W) => number_any r.v ir.2.1 ir.2.2 W h)
      have lk := Lib.itoa_length_le _ ir.1.1 ir.1.2
      have lv := Lib.itoa_length_le _ ir.2.1 ir.2.2
      have HT : Hid ((L.take (k + 1)).map txtR = (L.take k).map txtR ++ [((Lib.itoa r.k ++ [58]) ++ Lib.itoa r.v)]) := Lib.hid (by rw [List.take_add_one, hr]; simp [txtR])
      generalize Lib.itoa r.k = nk at NK lk HT
      generalize Lib.itoa r.v = nv at NV lv HT
      clear hr hrm ir
      go_upto_region 7 with fail
      change Code.wp _ _ _ _ (wr.alloc (.cells #[.int .i64 r.k, .int .i64 r.v] 33))
      clear hc0 hc1 hb
      have bb := fresh0 wr (.cells #[.int .i64 r.k, .int .i64 r.v] 33)
      have HOX := Lib.hid (HO.out.below bb)
      have HBX := Lib.hid (HB.out.trans (bb.mono HB.out.size))
      have HLX := Lib.hid (HL.out.below bb)
      have HRX := Lib.hid (Whole.fresh wr 33 #[.int .i64 r.k, .int .i64 r.v])
      have HGX := Lib.hid (HO.out.away (Nat.le_refl _))
      clear bb HO HB
      generalize wr.alloc (.cells #[.int .i64 r.k, .int .i64 r.v] 33) = wx at HOX HBX HLX HRX ⊢
      generalize wr.heap.size = gx at HRX HGX ⊢
      refine region_full 29 [(10, 11)] [] (fun k => k == 10) (fun w7 => Below w.heap.size w w7 ∧ wx.heap.size ≤ w7.heap.size ∧ Whole w7 gx 33 #[.int .i64 r.k, .int .i64 r.v]) ?hR ?r0 [pdOne 0 (Is (.slice D N.length c1)), pdOne 1 (Is (.pointer (some ⟨gx, 0, none⟩))), pdOne 2 (Is (.int .i64 r.k)), pdOne 3 (Is (sV nk)), pdOne 4 (Is (sV (nk ++ [58]))), pdOne 5 (Is (.pointer (some ⟨gx, 1, none⟩))), pdOne 6 (Is (.int .i64 r.v)), pdOne 7 (Is (sV nv)), pdOne 8 (Is (sV (((nk ++ [58]) ++ nv)))), pdOne 9 (LoneG 9 cS wx.heap.size (((nk ++ [58]) ++ nv))), pdOne 10 (NewG 9 1 cS w.heap.size (N ++ [(((nk ++ [58]) ++ nv))])), pdOne 11 (NewG 9 1 cS w.heap.size (N ++ [(((nk ++ [58]) ++ nv))]))] (fun k w7 => k = 10 → OwnG 9 1 cS w7 w.heap.size (.slice D N.length c1) N) (by kernel_rfl) rfl (by kernel_rfl) (by kernel_rfl) (by kernel_rfl) (by kernel_rfl) ?keep ?hO ?h0 ?tell
      case hR => exact fun wa wb hb ⟨h1, h2, h3⟩ => ⟨h1.trans (hb.mono h1.size), Nat.le_trans h2 hb.size, h3.below hb h3.inside⟩
      case r0 => exact ⟨HBX.out, Nat.le_refl _, HRX.out⟩
      case keep => exact ⟨keep_one (keeps_is _), keep_one (keeps_is _), keep_one (keeps_is _), keep_one (keeps_is _), keep_one (keeps_is _), keep_one (keeps_is _), keep_one (keeps_is _), keep_one (keeps_is _), keep_one (keeps_is _), keep_one (keeps_loneG _ _), keep_one (keeps_newG _ _), keep_one (keeps_newG _ _), trivial⟩
      case hO => exact fun k wa wb hb h e => (h e).below hb
      case h0 => exact fun _ _ _ => HOX.out
      case tell =>
        intro fin hfin
        simp [lexPut, Act.put] at hfin
        simp only [TellF]
        refine ⟨⟨?_, ?_, ?_, ?_, ?_, ?_, ?_, ?_, ?_, ?_, ?_, ?_, trivial⟩, ?_⟩
        · intro v2 w7 hr hd
          refine yields_run (u := .slice D N.length c1) (w' := w7) ?_ (Below.refl _ _) rfl
          unfold execOp
          simp [go_sem, Act.eval]
        · intro v2 w7 hr hd
          refine yields_run (u := .pointer (some ⟨gx, 0, none⟩)) (w' := w7) ?_ (Below.refl _ _) rfl
          unfold execOp
          simp [go_sem, Act.eval, Act.put]
        · intro v2 w7 hr hd
          have h1 : v2 1 = _ := hd 1 (by kernel_rfl)
          have k0 := hr.2.2.read 0
          refine yields_run (u := .int .i64 r.k) (w' := w7) ?_ (Below.refl _ _) rfl
          unfold execOp
          simp [go_sem, Act.eval, Act.put, h1, k0]
        · intro v2 w7 hr hd
          have h2 : v2 2 = _ := hd 2 (by kernel_rfl)
          refine yields_call (f := 41) rfl (vs := #[.int .i64 r.k]) (by simp [Act.eval, Act.put, h2]) rfl Tryz.func41 (by kernel_rfl) (by kernel_rfl) ((NK.out w7 (HE.out.below hr.1)).mono fun e w8 ⟨he, hb⟩ => ⟨_, he, hb, rfl⟩)
        · intro v2 w7 hr hd
          have h3 : v2 3 = _ := hd 3 (by kernel_rfl)
          have ha : ({ data := nk.toArray } : ByteArray) ++ { data := #[58] } = ⟨(nk ++ [58]).toArray⟩ := str_app9 nk [58]
          refine yields_run (u := sV (nk ++ [58])) (w' := w7) ?_ (Below.refl _ _) rfl
          unfold execOp
          simp [go_sem, Act.eval, Act.put, h3, ha]
          try omega
        · intro v2 w7 hr hd
          refine yields_run (u := .pointer (some ⟨gx, 1, none⟩)) (w' := w7) ?_ (Below.refl _ _) rfl
          unfold execOp
          simp [go_sem, Act.eval, Act.put]
        · intro v2 w7 hr hd
          have h5 : v2 5 = _ := hd 5 (by kernel_rfl)
          have k1 := hr.2.2.read 1
          refine yields_run (u := .int .i64 r.v) (w' := w7) ?_ (Below.refl _ _) rfl
          unfold execOp
          simp [go_sem, Act.eval, Act.put, h5, k1]
        · intro v2 w7 hr hd
          have h6 : v2 6 = _ := hd 6 (by kernel_rfl)
          refine yields_call (f := 41) rfl (vs := #[.int .i64 r.v]) (by simp [Act.eval, Act.put, h6]) rfl Tryz.func41 (by kernel_rfl) (by kernel_rfl) ((NV.out w7 (HE.out.below hr.1)).mono fun e w8 ⟨he, hb⟩ => ⟨_, he, hb, rfl⟩)
        · intro v2 w7 hr hd
          have h4 : v2 4 = _ := hd 4 (by kernel_rfl)
          have h7 : v2 7 = _ := hd 7 (by kernel_rfl)
          have hlen : (nk ++ [58]).length ≤ 1001000 := by
            simp only [List.length_append, List.length_cons, List.length_nil]
            omega
          generalize nk ++ [58] = P at h4 hlen ⊢
          have ha : ({ data := P.toArray } : ByteArray) ++ { data := nv.toArray } = ⟨(P ++ nv).toArray⟩ := str_app9 P nv
          refine yields_run (u := sV (P ++ nv)) (w' := w7) ?_ (Below.refl _ _) rfl
          unfold execOp
          simp [go_sem, Act.eval, Act.put, h4, h7, ha]
          try omega
        · intro v2 w7 hr hd
          have h8 : v2 8 = _ := hd 8 (by kernel_rfl)
          refine yields_run (u := .slice (some ⟨w7.heap.size, 0, none⟩) 1 1) (w' := w7.alloc (.cells (cS (((nk ++ [58]) ++ nv))).toArray 9)) ?_ (fresh0 w7 _) ⟨w7.heap.size, rfl, hr.2.1, Whole.fresh w7 _ _⟩
          unfold execOp
          simp [go_sem, Act.eval, Act.put, h8, cS]
        · intro v2 w7 hr ho hd
          have h0 : v2 0 = _ := hd 0 (by kernel_rfl)
          obtain ⟨gy, hz, hyl, hw⟩ : LoneG 9 cS wx.heap.size (((nk ++ [58]) ++ nv)) (v2 9) w7 := hd 9 (by kernel_rfl)
          have ho7 := ho (by first | rfl | trivial)
          refine .inl (yields_appendA (.tmp 15) (.tmp 24) 89 rfl w.heap.size 9 i0 (.string ByteArray.empty) 1 16 Tryz.underlying89 hi0 hz0 hz1 hz2 rfl (by decide) (.slice D N.length c1) N.length (N.flatMap cS) (by simp [Act.eval, Act.put, h0]) ho7 ⟨gy, 0, none⟩ 1 1 (cS (((nk ++ [58]) ++ nv))) (by simp [Act.eval, Act.put, hz]) rfl (whole_cells hw) (cellsS.one (((nk ++ [58]) ++ nv))) (by decide) (by unfold maxLen; omega) (by omega) hr.1.size ?_)
          intro g8 cap8 w8 hown hgrow hat
          have hab : ∀ j, (Value.slice D N.length c1).ownBlock = some j → w.heap.size ≤ j := fun j e => ho7.above e
          refine ⟨⟨hr.1.grown hgrow hr.1.size hab, Nat.le_trans hr.2.1 hgrow.size, hr.2.2.grown hgrow HGX.out⟩, ?_, ?_, g8, cap8, by rw [List.length_append]; rfl, ownS_snoc hown⟩
          · intro k2 u hk hc hu
            exact match k2, hk, hc, hu with
              | 0, _, _, hu => hu
              | 1, _, _, hu => hu
              | 2, _, _, hu => hu
              | 3, _, _, hu => hu
              | 4, _, _, hu => hu
              | 5, _, _, hu => hu
              | 6, _, _, hu => hu
              | 7, _, _, hu => hu
              | 8, _, _, hu => hu
              | 9, _, _, ⟨gx, h1, h2, h3⟩ => ⟨gx, h1, h2, h3.grown hgrow (HOX.out.away h2)⟩
              | 10, hk, _, _ => absurd rfl hk
              | 11, _, hc, _ => absurd hc (by decide)
              | _ + 12, _, _, _ => trivial
          · intro k2 hk hn _ h e
            exact absurd e hk
        · intro v2 w7 hr hd
          have h10 : NewG 9 1 cS w.heap.size (N ++ [(((nk ++ [58]) ++ nv))]) (v2 10) w7 := hd 10 (by kernel_rfl)
          refine yields_run (u := v2 10) (w' := w7) ?_ (Below.refl _ _) h10
          unfold execOp
          simp [go_sem, Act.eval, Act.put]
        · intro v2 w7 hr hv
          have h11 : NewG 9 1 cS w.heap.size (N ++ [(((nk ++ [58]) ++ nv))]) (v2 11) w7 := hv 11 (by decide)
          rw [hfin]
          clear hfin hv
          generalize v2 11 = v7 at h11 ⊢
          obtain ⟨g8, cap8, rfl, ho8⟩ := h11
          have HO8 := Lib.hid ho8
          have HB8 := Lib.hid hr.1
          clear ho8 hr
          generalize v2 = vz
          go_wp2_with fail
          go_roundw
          case rel => exact ⟨k + 1, N ++ [(((nk ++ [58]) ++ nv))], some ⟨g8, 0, none⟩, cap8, by omega, rfl, by go_num, Lib.hid (by have := HNk.out; simp; omega), Lib.hid (by rw [HT.out, HN.out]), HO8, HB8, Lib.hid (HL0.out.below HB8.out)⟩
          case measure => simp [intOf]; omega
    · obtain rfl : k = L.length := by omega
      have hNL : N = L.map txtR := by rw [HN.out, List.take_length]
      have hNl := HNk.out
      obtain ⟨g, cap, e⟩ := OwnG.succ (k := N.length - 1) (by have h9 := HO.out; unfold OwnG at h9; rwa [show N.length - 1 + 1 = N.length by omega])
      injection e with e1 e2 e3
      subst e1
      have hro := HO.out.room
      have hlg := HO.out.lg cellsS
      have hgin : g < wr.heap.size := by
        rcases hlg with h9 | ⟨b, off, hA, hb, -⟩
        · have : N = [] := by simpa using h9
          rw [this] at hNl
          simp at hNl
          omega
        · injection (Option.some.inj hA) with e1 e2
          omega
      have hJN : X = Lib.join N [44] := by rw [HJ.out, hNL]
      have JA := Lib.hid (joinS_any g N c1 hro hNle (by rw [← hJN]; omega) wr hgin hlg)
      rw [← hJN] at JA
      clear e2 e3 hro hlg hgin hJN hNL hNl HN HO
      go_wp2_with (go_at_call 42; refine JA.out.mono ?_; rintro e w9 ⟨rfl, b9⟩; have B9 := HB.out.trans (b9.mono HB.out.size))
      go_ret
      exact ⟨rfl, B9⟩
end Go.Proofs.YtkfjgmfokpgcbaaGreatDoor.data
