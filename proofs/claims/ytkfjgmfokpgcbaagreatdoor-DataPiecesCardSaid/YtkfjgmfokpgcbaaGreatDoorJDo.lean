/-
  Copies of lists of records: the contracts of watershedlaw11.own and slices.Clone.
  The contracts of data.pieces and data.Cut.
-/
import Derived.Test.YtkfjgmfokpgcbaaGreatDoorJDe
import Derived.WalkMore
import Derived.Lib.SliceRun
import Derived.Deep.CutBlock
import Derived.Deep.OwnRows
namespace Go.Proofs.YtkfjgmfokpgcbaaGreatDoor.data
open Go.ChangeShapes Go.WideShapes Go.ChangeAt Go.RowKit
open Go.Proofs.YtkfjgmfokpgcbaaGreatDoor.opened Go.Proofs.YtkfjgmfokpgcbaaGreatDoor.block Go.Proofs.YtkfjgmfokpgcbaaGreatDoor.region

theorem lr_flat {w : World} {L : List Rc} {b off : Nat} (h : Lr w (some ⟨b, off, none⟩) L) : ∀ j u, (L.flatMap cR)[j]? = some u → w.cell? ((⟨b, off, none⟩ : Addr).add j) = some u := by
  intro j u hj
  have hlt : j < L.length * 2 := by rw [← flatG_len cellsR]; exact (List.getElem?_eq_some_iff.1 hj).1
  obtain ⟨y, hy, -⟩ := get_ltR (L := L) (i := j / 2) (by omega)
  have e := flatG_at cellsR L (j / 2) y (j % 2) hy (Nat.mod_lt _ (by omega))
  rw [show j / 2 * 2 + j % 2 = j by omega, hj] at e
  rcases h with h | ⟨b', o', hA, -, hc⟩
  · have : L = [] := by simpa using h
    subst this
    simp at hy
  · injection (Option.some.inj hA) with e1 e2
    subst e1 e2
    have := (hc (j / 2) (cR y) (by rw [List.getElem?_map, hy]; rfl)).2 (j % 2) (Nat.mod_lt _ (by omega))
    rw [show j / 2 * 2 + j % 2 = j by omega, ← e] at this
    rw [show (⟨b, off, none⟩ : Addr).add j = ⟨b, off + j, none⟩ by cases j <;> simp [Addr.add]]
    exact this
theorem one_flatR (L : List Rc) : ∀ v ∈ L.flatMap cR, v.oneCell' = true := by
  intro v hv
  obtain ⟨x, -, hx⟩ := List.mem_flatMap.1 hv
  exact cellsR.one x v hx
theorem own0 (W : World) : OwnR (W.alloc (.cells #[] 33)) W.heap.size (.slice (some ⟨W.heap.size, 0, none⟩) 0 0) [] := ⟨rfl, .inr ⟨W.heap.size, 0, #[], rfl, Nat.le_refl _, heap_alloc_new W _, Nat.le_refl _, by simp [maxLen], rfl, rfl⟩⟩
set_option maxRecDepth 100000 in
theorem own_any (A : Option Addr) (c : Nat) (L : List Rc) (mL : L.length ≤ 4096) (w : World) (hL : Lr w A L) :
    Calls Tryz.prog 8 #[.slice A L.length c] w fun e W' => ∃ B c', e = .returned (.slice B L.length c') ∧ OwnR W' w.heap.size (.slice B L.length c') L ∧ Below w.heap.size w W' := by
  obtain ⟨i0, hi0, hz0, hz1, hz2⟩ := infoR_parts
  cases L with
  | nil =>
    clear hL
    cases A with
    | none =>
      go_enter Tryz.func8, Tryz.ntmps8
      go_wp2_with fail
      go_ret
      exact ⟨_, _, rfl, own0 w, fresh0 _ _⟩
    | some ad =>
      have HO := Lib.hid (own0 w)
      go_enter Tryz.func8, Tryz.ntmps8
      go_wp2_with (at_builtin; refine wpList_append_own _ rfl _ _ 22 rfl w.heap.size 33 i0 (.agg #[.int .i64 0, .int .i64 0]) 2 16 Tryz.underlying22 hi0 hz0 hz1 hz2 rfl (by decide) _ 0 [] rfl HO.out ad 0 _ [] rfl (by simp) (by intro j u hj; simp at hj) (by simp) (by simp [maxLen]) (by omega) (by simp) ?_; intro v' w5 hown' hgrow _; have b5 := Lib.hid (((Below.refl w.heap.size w).alloc (Nat.le_refl _) (.cells #[] 33)).grown hgrow (by simp) (fun j ej => by cases ej; exact Nat.le_refl _)); have HO5 : Hid (OwnR w5 w.heap.size v' []) := Lib.hid (by simpa [OwnR, OwnG] using hown'); obtain ⟨B4, c4, hv5, -, -⟩ := HO5.out.shape; subst hv5; clear hown' hgrow)
      go_ret
      exact ⟨_, _, rfl, HO5.out, b5.out⟩
  | cons x r =>
    obtain ⟨b, off, rfl, hb, -⟩ := at_rc hL (k := 0) (p := x) rfl
    have HC := Lib.hid (lr_flat (hL.below (fresh0 w (.cells #[] 33))))
    have HO := Lib.hid (own0 w)
    generalize x :: r = L at mL HC hL
    clear hL
    go_enter Tryz.func8, Tryz.ntmps8
    go_wp2_with (at_builtin; refine wpList_append_own _ rfl _ _ 22 rfl w.heap.size 33 i0 (.agg #[.int .i64 0, .int .i64 0]) 2 16 Tryz.underlying22 hi0 hz0 hz1 hz2 rfl (by decide) _ 0 [] rfl HO.out ⟨b, off, none⟩ L.length _ (L.flatMap cR) rfl (by rw [flatG_len cellsR]) HC.out (one_flatR _) (by simp [maxLen]; omega) (by omega) (by simp) ?_; intro v' w5 hown' hgrow _; have b5 := Lib.hid (((Below.refl w.heap.size w).alloc (Nat.le_refl _) (.cells #[] 33)).grown hgrow (by simp) (fun j ej => by cases ej; exact Nat.le_refl _)); have HO5 : Hid (OwnR w5 w.heap.size v' L) := Lib.hid (by simpa [OwnR, OwnG] using hown'); obtain ⟨B4, c4, hv5, -, -⟩ := HO5.out.shape; subst hv5; clear hown' hgrow)
    go_ret
    exact ⟨_, _, rfl, HO5.out, b5.out⟩
set_option maxRecDepth 100000 in
theorem clone_any (A : Option Addr) (c : Nat) (L : List Rc) (mL : L.length ≤ 4096) (w : World) (hL : Lr w A L) :
    Calls Tryz.prog 44 #[.slice A L.length c] w fun e W' => ∃ B c', e = .returned (.slice B L.length c') ∧ OwnR W' w.heap.size (.slice B L.length c') L ∧ Below w.heap.size w W' := by
  obtain ⟨i0, hi0, hz0, hz1, hz2⟩ := infoR_parts
  cases L with
  | nil =>
    clear hL
    cases A with
    | none =>
      have hq := fun W => Lib.run_eql_slice_nil (P := Tryz.prog) W 22 33 none 0 c 0 0 Tryz.underlying22
      go_enter Tryz.func44, Tryz.ntmps44
      go_wp2_with fail
      go_ret
      exact ⟨none, 0, rfl, ownG_nil _ _, Below.refl _ _⟩
    | some ad =>
      have HO := Lib.hid (own0 w)
      have hq := fun W => Lib.run_eql_slice_nil (P := Tryz.prog) W 22 33 (some ad) 0 c 0 0 Tryz.underlying22
      go_enter Tryz.func44, Tryz.ntmps44
      go_wp2_with (at_builtin; refine wpList_append_own _ rfl _ _ 22 rfl w.heap.size 33 i0 (.agg #[.int .i64 0, .int .i64 0]) 2 16 Tryz.underlying22 hi0 hz0 hz1 hz2 rfl (by decide) _ 0 [] rfl HO.out ad 0 _ [] rfl (by simp) (by intro j u hj; simp at hj) (by simp) (by simp [maxLen]) (by omega) (by simp) ?_; intro v' w5 hown' hgrow _; have b5 := Lib.hid (((Below.refl w.heap.size w).alloc (Nat.le_refl _) (.cells #[] 33)).grown hgrow (by simp) (fun j ej => by cases ej; exact Nat.le_refl _)); have HO5 : Hid (OwnR w5 w.heap.size v' []) := Lib.hid (by simpa [OwnR, OwnG] using hown'); obtain ⟨B4, c4, hv5, -, -⟩ := HO5.out.shape; subst hv5; clear hown' hgrow)
      go_ret
      exact ⟨_, _, rfl, HO5.out, b5.out⟩
  | cons x r =>
    obtain ⟨b, off, rfl, hb, -⟩ := at_rc hL (k := 0) (p := x) rfl
    have HC := Lib.hid (lr_flat (hL.below (fresh0 w (.cells #[] 33))))
    have HO := Lib.hid (own0 w)
    generalize x :: r = L at mL HC hL
    clear hL
    have hq := fun W => Lib.run_eql_slice_nil (P := Tryz.prog) W 22 33 (some ⟨b, off, none⟩) L.length c 0 0 Tryz.underlying22
    go_enter Tryz.func44, Tryz.ntmps44
    go_wp2_with (at_builtin; refine wpList_append_own _ rfl _ _ 22 rfl w.heap.size 33 i0 (.agg #[.int .i64 0, .int .i64 0]) 2 16 Tryz.underlying22 hi0 hz0 hz1 hz2 rfl (by decide) _ 0 [] rfl HO.out ⟨b, off, none⟩ L.length _ (L.flatMap cR) rfl (by rw [flatG_len cellsR]) HC.out (one_flatR _) (by simp [maxLen]; omega) (by omega) (by simp) ?_; intro v' w5 hown' hgrow _; have b5 := Lib.hid (((Below.refl w.heap.size w).alloc (Nat.le_refl _) (.cells #[] 33)).grown hgrow (by simp) (fun j ej => by cases ej; exact Nat.le_refl _)); have HO5 : Hid (OwnR w5 w.heap.size v' L) := Lib.hid (by simpa [OwnR, OwnG] using hown'); obtain ⟨B4, c4, hv5, -, -⟩ := HO5.out.shape; subst hv5; clear hown' hgrow)
    go_ret
    exact ⟨_, _, rfl, HO5.out, b5.out⟩
end Go.Proofs.YtkfjgmfokpgcbaaGreatDoor.data
namespace Go.Proofs.YtkfjgmfokpgcbaaGreatDoor.data
open Go.ChangeShapes Go.WideShapes Go.ChangeAt Go.RowKit
open Go.Proofs.YtkfjgmfokpgcbaaGreatDoor.opened Go.Proofs.YtkfjgmfokpgcbaaGreatDoor.block Go.Proofs.YtkfjgmfokpgcbaaGreatDoor.region

/-- Rows that lie, so many of a list of rows. -/
def Rows (w : World) (vs : List Value) (NN : List (List Rc)) : Prop := ∀ (i : Nat) (N : List Rc), NN[i]? = some N → ∃ B c, vs[i]? = some (.slice B N.length c) ∧ Lr w B N
theorem rows_more {w : World} {vs : List Value} {NN : List (List Rc)} {N : List Rc} {B : Option Addr} {c : Nat} (hl : vs.length = NN.length) (h : Rows w vs NN) (hN : Lr w B N) : Rows w (vs ++ [.slice B N.length c]) (NN ++ [N]) := by
  intro i M hi
  by_cases e : i < NN.length
  · rw [List.getElem?_append_left e] at hi
    obtain ⟨B', c', h1, h2⟩ := h i M hi
    exact ⟨B', c', by rw [List.getElem?_append_left (by omega)]; exact h1, h2⟩
  · have hlt := (List.getElem?_eq_some_iff.1 hi).1
    simp at hlt
    have e2 : i = NN.length := by omega
    subst e2
    simp at hi
    subst hi
    exact ⟨B, c, by rw [← hl]; simp, hN⟩
theorem rows_lies {w w1 : World} {base n c : Nat} {A : Option Addr} {vs : List Value} {NN : List (List Rc)} (ho : w.ownsRow base 22 1 (.slice A n c) n vs) (hb : Below w1.heap.size w1 w) (h : Rows w1 vs NN) : LL 2 cR w A NN := by
  refine ⟨fun i N hi => ?_⟩
  obtain ⟨B, c', h1, h2⟩ := h i N hi
  have hlt := (List.getElem?_eq_some_iff.1 h1).1
  have hlen := ho.1
  rcases ho.2 with ⟨-, hn⟩ | ⟨g, cap, cur, e2, -, hg, -, -, -, ht⟩
  · omega
  · injection e2 with e3 e4 e5
    subst e3
    refine ⟨g, 0, B, c', rfl, (Array.getElem?_eq_some_iff.1 hg).1, ?_, h2.below hb⟩
    rw [← ht, List.getElem?_take] at h1
    split at h1
    · rw [Array.getElem?_toList] at h1
      simp [World.cell?, hg, h1]
    · cases h1
theorem pcs_end {L : List Rc} {j : Nat} (hj : j ≤ (pcs L).length) (h : ¬ 0 < (L.drop (64 * j)).length) : j = (pcs L).length := by
  rw [pcs_len] at *
  simp at h
  omega
theorem pcs_on {L : List Rc} {j : Nat} (h : 0 < (L.drop (64 * j)).length) : j + 1 ≤ (pcs L).length ∧ (pcs L)[j]? = some ((L.drop (64 * j)).take (min 64 (L.drop (64 * j)).length)) := by
  simp at h
  refine ⟨by rw [pcs_len]; omega, ?_⟩
  rw [pcs_get (by omega)]
  congr 1
  by_cases e : (L.drop (64 * j)).length ≤ 64
  · rw [Nat.min_eq_right e, List.take_of_length_le e, List.take_length]
  · rw [Nat.min_eq_left (by omega)]
theorem drop_on (L : List Rc) (j : Nat) : L.drop (64 * (j + 1)) = (L.drop (64 * j)).drop (min 64 (L.drop (64 * j)).length) := by
  by_cases e : (L.drop (64 * j)).length ≤ 64
  · rw [Nat.min_eq_right e, List.drop_length, List.drop_eq_nil_of_le]
    simp at e
    omega
  · rw [Nat.min_eq_left (by omega), List.drop_drop]
    rfl
def lenV : Value → Nat
  | .slice _ n _ => n
  | _ => 0
theorem infoN' : ∃ i, Tryz.prog.info? 22 = some i ∧ i.zero = some (.slice none 0 0) ∧ i.size = 1 ∧ i.bytes = 24 := by
  have h : (Tryz.prog.info? 22).map (fun i => (i.zero, i.size, i.bytes)) = some (some (.slice none 0 0), 1, 24) := by kernel_rfl
  rw [Option.map_eq_some_iff] at h
  obtain ⟨i, hi, he⟩ := h
  simp only [Prod.mk.injEq] at he
  exact ⟨i, hi, he.1, he.2.1, he.2.2⟩
theorem one_slice (B : Option Addr) (n c : Nat) : ∀ v ∈ [Value.slice B n c], v.oneCell' = true := by
  intro v hv
  rw [List.mem_singleton] at hv
  subst hv
  rfl
set_option maxRecDepth 100000 in
set_option maxHeartbeats 2000000 in
theorem pieces_any (A : Option Addr) (c : Nat) (L : List Rc) (mL : L.length ≤ 4096) (w : World) (hL : Lr w A L) :
    Calls Tryz.prog 25 #[.slice A L.length c, .int .i64 64] w fun e W' => ∃ B c', e = .returned (.slice B (pcs L).length c') ∧ LL 2 cR W' B (pcs L) ∧ Below w.heap.size w W' := by
  have CC := Lib.hid (clone_any A c L mL w hL)
  clear hL
  obtain ⟨i0, hi0, hz0, hz1, hz2⟩ := infoN'
  go_enter Tryz.func25, Tryz.ntmps25
  go_wp2_with fail
  refine CC.out.mono ?_
  rintro e w1 ⟨B1, c1, rfl, ho1, b1⟩
  have hroom := ho1.room
  have hmax : c1 ≤ maxLen := by obtain ⟨B, c, e, -, h⟩ := ho1.shape; injection e with _ _ e; rw [e]; exact h
  have HL1 := Lib.hid (ho1.lg cellsR)
  have HB1 := Lib.hid b1
  clear ho1 b1 CC
  go_wp2_with fail
  go_loopw [5, 6] (fun v5 v6 wr => ∃ (j : Nat) (vs : List Value) (V R : Option Addr) (c5 c6 : Nat), j ≤ (pcs L).length ∧ v5 = .slice V j c5 ∧ v6 = .slice R (L.drop (64 * j)).length c6 ∧ (L.drop (64 * j)).length ≤ c6 ∧ vs.length = j ∧ Hid (wr.ownsRow w1.heap.size 22 1 (.slice V j c5) j vs) ∧ Hid (Rows w1 vs ((pcs L).take j)) ∧ Hid (Lr w1 R (L.drop (64 * j))) ∧ Hid (Below w1.heap.size w1 wr)) (fun _ v6 _ => lenV v6)
  case atStart => exact ⟨0, [], none, B1, 0, c1, Nat.zero_le _, rfl, by simp, by simpa using hroom, rfl, Lib.hid (World.ownsRow_nil _ _ _ _), Lib.hid (by intro i N h; simp at h), Lib.hid (by simpa using HL1.out), Lib.hid (Below.refl _ _)⟩
  case round =>
    obtain ⟨j, vs, V, R, c5, c6, hj, rfl, rfl, hc6, hvl, HO, HR, HL, HB⟩ := hrel
    by_cases hp : 0 < (L.drop (64 * j)).length
    · obtain ⟨hj1, hk⟩ := pcs_on hp
      have HD := Lib.hid (drop_on L j)
      have HT := Lib.hid (take_next hk)
      have hl4 : (L.drop (64 * j)).length ≤ 4096 := by simp; omega
      have HMB := HB1
      clear hk
      generalize L.drop (64 * j) = r at *
      obtain ⟨b, off, rfl, hb, -⟩ := at_rc HL.out (k := 0) (p := r[0]) (List.getElem?_eq_getElem hp)
      obtain ⟨k, hk⟩ : ∃ k, k = min 64 r.length := ⟨_, rfl⟩
      rw [← hk] at HD HT
      have hk1 : 1 ≤ k ∧ k ≤ 64 ∧ k ≤ r.length := by omega
      have he : Tryz.prog.elem 22 = 33 := by kernel_rfl
      have hs1 : ∀ w0 : World, (Instr.slice 22 (.slice (some ⟨b, off, none⟩) r.length c6) none (some (.int .i64 (k : Nat))) (some (.int .i64 (k : Nat)))).run Tryz.prog w0 = .ok (.slice (some ⟨b, off, none⟩) k k) w0 := by
        intro w0
        have h0 : (0 : Int) ≤ (k : Nat) := by omega
        rw [run_slice_hm w0 22 (some ⟨b, off, none⟩) r.length c6 Tryz.underlying22 .i64 .i64 (k : Nat) (k : Nat) h0 (Int.le_refl _) (by omega)]
        simp [sliced, Addr.add, he, Tryz.sizeOf33]
      obtain ⟨R', hs2, hR'⟩ : ∃ R', (∀ w0 : World, (Instr.slice 22 (.slice (some ⟨b, off, none⟩) r.length c6) (some (.int .i64 (k : Nat))) none none).run Tryz.prog w0 = .ok (.slice R' (r.length - k) (c6 - k)) w0) ∧ (r.length - k = 0 ∨ R' = some ⟨b, off + k * 2, none⟩) := by
        refine ⟨if c6 = k then some ⟨b, off, none⟩ else some ⟨b, off + k * 2, none⟩, fun w0 => ?_, ?_⟩
        · have h0 : (0 : Int) ≤ (k : Nat) := by omega
          have hk0 : k * 2 ≠ 0 := by omega
          rw [run_slice_l w0 22 (some ⟨b, off, none⟩) r.length c6 Tryz.underlying22 .i64 (k : Nat) h0 (by omega)]
          by_cases e : c6 = k
          · simp [sliced, he, Tryz.sizeOf33, e]
          · simp [sliced, Addr.add, he, Tryz.sizeOf33, e, hk0]
        · by_cases e : c6 = k
          · left; omega
          · right; rw [if_neg e]
      have hmin : (if (r.length : Int) < 64 then (r.length : Int) else 64) = ((k : Nat) : Int) := by
        split <;> omega
      have HP := Lib.hid (Lg.part HL.out 0 k hb)
      rw [Nat.zero_mul, Nat.add_zero, List.drop_zero] at HP
      have hlk : (r.take k).length = k := by rw [List.length_take]; omega
      have HLD : Hid (Lr w1 R' (r.drop k)) := Lib.hid (by
        rcases hR' with h | h
        · rw [List.drop_eq_nil_of_le (by omega)]; exact lg_nil _ _
        · rw [h]
          have := Lg.part HL.out k (r.drop k).length hb
          rwa [List.take_length] at this)
      have HTK : Hid ((Value.slice (some ⟨b, off, none⟩) k k) = .slice (some ⟨b, off, none⟩) (r.take k).length k) := Lib.hid (by rw [hlk])
      have hj64 : j ≤ 64 := by rw [pcs_len] at hj; omega
      clear hk hR' HL hlk he
      go_wp2_with (at_builtin; refine wpList_append_own _ rfl _ _ 25 rfl w1.heap.size 22 i0 (.slice none 0 0) 1 24 Tryz.underlying25 hi0 hz0 hz1 hz2 rfl (by decide) _ j vs rfl (row_below HO.out (fresh0 wr (.cells #[.slice (some ⟨b, off, none⟩) k k] 22))) ⟨wr.heap.size, 0, none⟩ 1 1 [.slice (some ⟨b, off, none⟩) k k] rfl rfl (cell_newG _ _ _) (one_slice _ _ _) (by unfold maxLen; omega) (by omega) (by have := HB.out.size; simp; omega) ?_; intro v' w5 hown' hgrow _; obtain ⟨g', cap', rfl⟩ := OwnG.succ hown'; have HO5 := Lib.hid hown'; have HB5 := Lib.hid ((HB.out.alloc HB.out.size _).grown hgrow (by have := HB.out.size; simp; omega) (fun q e => (HO.out.lt q e).1)); clear hown' hgrow)
      go_roundw
      case rel => exact ⟨j + 1, vs ++ [.slice (some ⟨b, off, none⟩) k k], some ⟨g', 0, none⟩, R', cap', c6 - k, hj1, rfl, by rw [HD.out, List.length_drop], by rw [HD.out, List.length_drop]; omega, by rw [List.length_append, hvl]; rfl, HO5, Lib.hid (by rw [HT.out, HTK.out]; exact rows_more (by rw [List.length_take, hvl]; omega) HR.out HP.out), by rw [HD.out]; exact HLD, HB5⟩
      case measure => simp [lenV]; omega
    · obtain rfl := pcs_end hj hp
      rw [List.take_length] at HR
      generalize hr : L.drop (64 * (pcs L).length) = r at *
      have hr0 : r.length = 0 := by omega
      clear hr
      go_wp2_with fail
      go_ret
      exact ⟨V, c5, rfl, rows_lies HO.out HB.out HR.out, HB1.out.trans (HB.out.mono HB1.out.size)⟩
set_option maxRecDepth 100000 in
theorem cut_any (A : Option Addr) (c : Nat) (L : List Rc) (mL : L.length ≤ 4096) (w : World) (hL : Lr w A L) :
    Calls Tryz.prog 11 #[.slice A L.length c] w fun e W' => ∃ B c', e = .returned (.slice B (pcs L).length c') ∧ LL 2 cR W' B (pcs L) ∧ Below w.heap.size w W' := by
  have CP := Lib.hid (pieces_any A c L mL w hL)
  clear hL
  go_enter Tryz.func11, Tryz.ntmps11
  go_wp2_with fail
  refine CP.out.mono ?_
  rintro e w1 ⟨B, c', rfl, hl, hb⟩
  have H1 := Lib.hid hl
  have H2 := Lib.hid hb
  clear hl hb
  go_wp2_with fail
  go_ret
  exact ⟨B, c', rfl, H1.out, H2.out⟩
end Go.Proofs.YtkfjgmfokpgcbaaGreatDoor.data
