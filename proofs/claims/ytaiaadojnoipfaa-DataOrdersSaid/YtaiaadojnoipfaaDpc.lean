/-
  The contracts of data.pieces and data.Cut.
-/
import Derived.Test.YtaiaadojnoipfaaDo
import Derived.Deep.CutBlock
import Derived.Deep.OwnRows
namespace Go.Proofs.Ytaiaadojnoipfaa.data
open Go.ChangeShapes Go.WideShapes Go.ChangeAt Go.RowKit
open Go.Proofs.Ytaiaadojnoipfaa.opened Go.Proofs.Ytaiaadojnoipfaa.block Go.Proofs.Ytaiaadojnoipfaa.region

/-- Rows that lie, so many of a list of rows. -/
def Rows (w : World) (vs : List Value) (NN : List (List Rc)) : Prop := ∀ (i : Nat) (N : List Rc), NN[i]? = some N → ∃ B c, vs[i]? = some (.slice B N.length c) ∧ Lr w B N
theorem rows_more {w : World} {vs : List Value} {NN : List (List Rc)} {N : List Rc} {B : Option Addr} {c : Nat} (hl : vs.length = NN.length) (h : Rows w vs NN) (hN : Lr w B N) : Rows w (vs ++ [.slice B N.length c]) (NN ++ [N]) := by
  intro i M hi
  by_cases e : i < NN.length
  · rw [List.getElem?_append_left e] at hi
    obtain ⟨B', c', h1, h2⟩ := h i M hi
    exact ⟨B', c', by rw [List.getElem?_append_left (by omega)]; exact h1, h2⟩
  · have hlt := (List.getElem?_eq_some_iff.1 hi).1
    simp at hlt
    have e2 : i = NN.length := by omega
    subst e2
    simp at hi
    subst hi
    exact ⟨B, c, by rw [← hl]; simp, hN⟩
theorem rows_lies {w w1 : World} {base n c : Nat} {A : Option Addr} {vs : List Value} {NN : List (List Rc)} (ho : w.ownsRow base 22 1 (.slice A n c) n vs) (hb : Below w1.heap.size w1 w) (h : Rows w1 vs NN) : LL 2 cR w A NN := by
  refine ⟨fun i N hi => ?_⟩
  obtain ⟨B, c', h1, h2⟩ := h i N hi
  have hlt := (List.getElem?_eq_some_iff.1 h1).1
  have hlen := ho.1
  rcases ho.2 with ⟨-, hn⟩ | ⟨g, cap, cur, e2, -, hg, -, -, -, ht⟩
  · omega
  · injection e2 with e3 e4 e5
    subst e3
    refine ⟨g, 0, B, c', rfl, (Array.getElem?_eq_some_iff.1 hg).1, ?_, h2.below hb⟩
    rw [← ht, List.getElem?_take] at h1
    split at h1
    · rw [Array.getElem?_toList] at h1
      simp [World.cell?, hg, h1]
    · cases h1
theorem pcs_end {L : List Rc} {j : Nat} (hj : j ≤ (pcs L).length) (h : ¬ 0 < (L.drop (64 * j)).length) : j = (pcs L).length := by
  rw [pcs_len] at *
  simp at h
  omega
theorem pcs_on {L : List Rc} {j : Nat} (h : 0 < (L.drop (64 * j)).length) : j + 1 ≤ (pcs L).length ∧ (pcs L)[j]? = some ((L.drop (64 * j)).take (min 64 (L.drop (64 * j)).length)) := by
  simp at h
  refine ⟨by rw [pcs_len]; omega, ?_⟩
  rw [pcs_get (by omega)]
  congr 1
  by_cases e : (L.drop (64 * j)).length ≤ 64
  · rw [Nat.min_eq_right e, List.take_of_length_le e, List.take_length]
  · rw [Nat.min_eq_left (by omega)]
theorem drop_on (L : List Rc) (j : Nat) : L.drop (64 * (j + 1)) = (L.drop (64 * j)).drop (min 64 (L.drop (64 * j)).length) := by
  by_cases e : (L.drop (64 * j)).length ≤ 64
  · rw [Nat.min_eq_right e, List.drop_length, List.drop_eq_nil_of_le]
    simp at e
    omega
  · rw [Nat.min_eq_left (by omega), List.drop_drop]
    rfl
def lenV : Value → Nat
  | .slice _ n _ => n
  | _ => 0
theorem infoN' : ∃ i, Try.prog.info? 22 = some i ∧ i.zero = some (.slice none 0 0) ∧ i.size = 1 ∧ i.bytes = 24 := by
  have h : (Try.prog.info? 22).map (fun i => (i.zero, i.size, i.bytes)) = some (some (.slice none 0 0), 1, 24) := by kernel_rfl
  rw [Option.map_eq_some_iff] at h
  obtain ⟨i, hi, he⟩ := h
  simp only [Prod.mk.injEq] at he
  exact ⟨i, hi, he.1, he.2.1, he.2.2⟩
theorem one_slice (B : Option Addr) (n c : Nat) : ∀ v ∈ [Value.slice B n c], v.oneCell' = true := by
  intro v hv
  rw [List.mem_singleton] at hv
  subst hv
  rfl
set_option maxRecDepth 100000 in
set_option maxHeartbeats 2000000 in
theorem pieces_any (A : Option Addr) (c : Nat) (L : List Rc) (mL : L.length ≤ 4096) (w : World) (hL : Lr w A L) :
    Calls Try.prog 35 #[.slice A L.length c, .int .i64 64] w fun e W' => ∃ B c', e = .returned (.slice B (pcs L).length c') ∧ LL 2 cR W' B (pcs L) ∧ Below w.heap.size w W' := by
  have CC := Lib.hid (clone_any A c L mL w hL)
  clear hL
  obtain ⟨i0, hi0, hz0, hz1, hz2⟩ := infoN'
  go_enter Try.func35, Try.ntmps35
  go_wp2_with fail
  refine CC.out.mono ?_
  rintro e w1 ⟨B1, c1, rfl, ho1, b1⟩
  have hroom := ho1.room
  have hmax : c1 ≤ maxLen := by obtain ⟨B, c, e, -, h⟩ := ho1.shape; injection e with _ _ e; rw [e]; exact h
  have HL1 := Lib.hid (ho1.lg cellsR)
  have HB1 := Lib.hid b1
  clear ho1 b1 CC
  go_wp2_with fail
  go_loopw [5, 6] (fun v5 v6 wr => ∃ (j : Nat) (vs : List Value) (V R : Option Addr) (c5 c6 : Nat), j ≤ (pcs L).length ∧ v5 = .slice V j c5 ∧ v6 = .slice R (L.drop (64 * j)).length c6 ∧ (L.drop (64 * j)).length ≤ c6 ∧ vs.length = j ∧ Hid (wr.ownsRow w1.heap.size 22 1 (.slice V j c5) j vs) ∧ Hid (Rows w1 vs ((pcs L).take j)) ∧ Hid (Lr w1 R (L.drop (64 * j))) ∧ Hid (Below w1.heap.size w1 wr)) (fun _ v6 _ => lenV v6)
  case atStart => exact ⟨0, [], none, B1, 0, c1, Nat.zero_le _, rfl, by simp, by simpa using hroom, rfl, Lib.hid (World.ownsRow_nil _ _ _ _), Lib.hid (by intro i N h; simp at h), Lib.hid (by simpa using HL1.out), Lib.hid (Below.refl _ _)⟩
  case round =>
    obtain ⟨j, vs, V, R, c5, c6, hj, rfl, rfl, hc6, hvl, HO, HR, HL, HB⟩ := hrel
    by_cases hp : 0 < (L.drop (64 * j)).length
    · obtain ⟨hj1, hk⟩ := pcs_on hp
      have HD := Lib.hid (drop_on L j)
      have HT := Lib.hid (take_next hk)
      have hl4 : (L.drop (64 * j)).length ≤ 4096 := by simp; omega
      have HMB := HB1
      clear hk
      generalize L.drop (64 * j) = r at *
      obtain ⟨b, off, rfl, hb, -⟩ := at_rc HL.out (k := 0) (p := r[0]) (List.getElem?_eq_getElem hp)
      obtain ⟨k, hk⟩ : ∃ k, k = min 64 r.length := ⟨_, rfl⟩
      rw [← hk] at HD HT
      have hk1 : 1 ≤ k ∧ k ≤ 64 ∧ k ≤ r.length := by omega
      have he : Try.prog.elem 22 = 59 := by kernel_rfl
      have hs1 : ∀ w0 : World, (Instr.slice 22 (.slice (some ⟨b, off, none⟩) r.length c6) none (some (.int .i64 (k : Nat))) (some (.int .i64 (k : Nat)))).run Try.prog w0 = .ok (.slice (some ⟨b, off, none⟩) k k) w0 := by
        intro w0
        have h0 : (0 : Int) ≤ (k : Nat) := by omega
        rw [run_slice_hm w0 22 (some ⟨b, off, none⟩) r.length c6 Try.underlying22 .i64 .i64 (k : Nat) (k : Nat) h0 (Int.le_refl _) (by omega)]
        simp [sliced, Addr.add, he, Try.sizeOf59]
      obtain ⟨R', hs2, hR'⟩ : ∃ R', (∀ w0 : World, (Instr.slice 22 (.slice (some ⟨b, off, none⟩) r.length c6) (some (.int .i64 (k : Nat))) none none).run Try.prog w0 = .ok (.slice R' (r.length - k) (c6 - k)) w0) ∧ (r.length - k = 0 ∨ R' = some ⟨b, off + k * 2, none⟩) := by
        refine ⟨if c6 = k then some ⟨b, off, none⟩ else some ⟨b, off + k * 2, none⟩, fun w0 => ?_, ?_⟩
        · have h0 : (0 : Int) ≤ (k : Nat) := by omega
          have hk0 : k * 2 ≠ 0 := by omega
          rw [run_slice_l w0 22 (some ⟨b, off, none⟩) r.length c6 Try.underlying22 .i64 (k : Nat) h0 (by omega)]
          by_cases e : c6 = k
          · simp [sliced, he, Try.sizeOf59, e]
          · simp [sliced, Addr.add, he, Try.sizeOf59, e, hk0]
        · by_cases e : c6 = k
          · left; omega
          · right; rw [if_neg e]
      have hmin : (if (r.length : Int) < 64 then (r.length : Int) else 64) = ((k : Nat) : Int) := by
        split <;> omega
      have HP := Lib.hid (Lg.part HL.out 0 k hb)
      rw [Nat.zero_mul, Nat.add_zero, List.drop_zero] at HP
      have hlk : (r.take k).length = k := by rw [List.length_take]; omega
      have HLD : Hid (Lr w1 R' (r.drop k)) := Lib.hid (by
        rcases hR' with h | h
        · rw [List.drop_eq_nil_of_le (by omega)]; exact lg_nil _ _
        · rw [h]
          have := Lg.part HL.out k (r.drop k).length hb
          rwa [List.take_length] at this)
      have HTK : Hid ((Value.slice (some ⟨b, off, none⟩) k k) = .slice (some ⟨b, off, none⟩) (r.take k).length k) := Lib.hid (by rw [hlk])
      have hj64 : j ≤ 64 := by rw [pcs_len] at hj; omega
      clear hk hR' HL hlk he
      go_wp2_with (at_builtin; refine wpList_append_own _ rfl _ _ 24 rfl w1.heap.size 22 i0 (.slice none 0 0) 1 24 Try.underlying24 hi0 hz0 hz1 hz2 rfl (by decide) _ j vs rfl (row_below HO.out (fresh0 wr (.cells #[.slice (some ⟨b, off, none⟩) k k] 22))) ⟨wr.heap.size, 0, none⟩ 1 1 [.slice (some ⟨b, off, none⟩) k k] rfl rfl (cell_newG _ _ _) (one_slice _ _ _) (by unfold maxLen; omega) (by omega) (by have := HB.out.size; simp; omega) ?_; intro v' w5 hown' hgrow _; obtain ⟨g', cap', rfl⟩ := OwnG.succ hown'; have HO5 := Lib.hid hown'; have HB5 := Lib.hid ((HB.out.alloc HB.out.size _).grown hgrow (by have := HB.out.size; simp; omega) (fun q e => (HO.out.lt q e).1)); clear hown' hgrow)
      go_roundw
      case rel => exact ⟨j + 1, vs ++ [.slice (some ⟨b, off, none⟩) k k], some ⟨g', 0, none⟩, R', cap', c6 - k, hj1, rfl, by rw [HD.out, List.length_drop], by rw [HD.out, List.length_drop]; omega, by rw [List.length_append, hvl]; rfl, HO5, Lib.hid (by rw [HT.out, HTK.out]; exact rows_more (by rw [List.length_take, hvl]; omega) HR.out HP.out), by rw [HD.out]; exact HLD, HB5⟩
      case measure => simp [lenV]; omega
    · obtain rfl := pcs_end hj hp
      rw [List.take_length] at HR
      generalize hr : L.drop (64 * (pcs L).length) = r at *
      have hr0 : r.length = 0 := by omega
      clear hr
      go_wp2_with fail
      go_ret
      exact ⟨V, c5, rfl, rows_lies HO.out HB.out HR.out, HB1.out.trans (HB.out.mono HB1.out.size)⟩
set_option maxRecDepth 100000 in
theorem cut_any (A : Option Addr) (c : Nat) (L : List Rc) (mL : L.length ≤ 4096) (w : World) (hL : Lr w A L) :
    Calls Try.prog 14 #[.slice A L.length c] w fun e W' => ∃ B c', e = .returned (.slice B (pcs L).length c') ∧ LL 2 cR W' B (pcs L) ∧ Below w.heap.size w W' := by
  have CP := Lib.hid (pieces_any A c L mL w hL)
  clear hL
  go_enter Try.func14, Try.ntmps14
  go_wp2_with fail
  refine CP.out.mono ?_
  rintro e w1 ⟨B, c', rfl, hl, hb⟩
  have H1 := Lib.hid hl
  have H2 := Lib.hid hb
  clear hl hb
  go_wp2_with fail
  go_ret
  exact ⟨B, c', rfl, H1.out, H2.out⟩
end Go.Proofs.Ytaiaadojnoipfaa.data
