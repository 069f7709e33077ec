/-
  The contract of the document's Order.
-/
import Derived.Test.YtfjfohkdlikpiaaDg
import Derived.Test.YtfjfohkdlikpiaaDc
import Derived.Deep.CutBlock
namespace Go.Proofs.Ytfjfohkdlikpiaa.data
open Go.ChangeShapes Go.WideShapes Go.ChangeAt Go.RowKit
open Go.Proofs.Ytfjfohkdlikpiaa.opened Go.Proofs.Ytfjfohkdlikpiaa.block Go.Proofs.Ytfjfohkdlikpiaa.region

theorem since_callS {P : Program} {f : FuncId} {args : Array Value} {v : Value} {w0 : World} (h : ∀ x : Since w0, Calls P f args x.1 fun e w' => e = .returned v ∧ Below x.1.heap.size x.1 w') (x : Since w0) :
    Calls P f args x.1 fun e w' => e = .returned v ∧ ∃ y : Since w0, w' = y.1 :=
  (h x).mono fun _ w' ⟨he, hb⟩ => ⟨he, ⟨w', then_below x.2 hb⟩, rfl⟩
/-- All from n on are greater than x. -/
def Over (N : List Rc) (x : Rc) (n : Nat) : Prop := n ≤ N.length ∧ ∀ j y, n ≤ j → N[j]? = some y → ltR x y = true
theorem over_down {N : List Rc} {x y : Rc} {n : Nat} (h : Over N x (n + 1)) (hy : N[n]? = some y) (hl : ltR x y = true) : Over N x n := by
  refine ⟨Nat.le_of_succ_le h.1, fun j z hj hz => ?_⟩
  by_cases e : j = n
  · subst e; rw [hy] at hz; rw [← Option.some.inj hz]; exact hl
  · exact h.2 j z (by omega) hz
/-- As the elements behind are moved on: a hole at k. -/
def Hole (N M : List Rc) (k : Nat) : Prop := k ≤ N.length ∧ ∃ z, M = N.take k ++ z :: N.drop k
theorem hole_at {N M : List Rc} {k : Nat} (h : Hole N M (k + 1)) : ∃ y, N[k]? = some y ∧ M[k]? = some y ∧ Hole N (M.set (k + 1) y) k ∧ M.length = N.length + 1 := by
  obtain ⟨hk, z, rfl⟩ := h
  obtain ⟨y, hy, -⟩ := get_ltR (show k < N.length by omega)
  have hl : (N.take (k + 1)).length = k + 1 := by rw [List.length_take]; omega
  refine ⟨y, hy, ?_, ⟨by omega, y, ?_⟩, ?_⟩
  · rw [List.getElem?_append_left (by omega), List.getElem?_take, if_pos (by omega)]
    exact hy
  · rw [List.set_append_right _ _ (by omega), hl, Nat.sub_self, List.set_cons_zero, take_next hy, drop_next hy]
    simp
  · simp
    omega
theorem hole_fill {N M : List Rc} {k : Nat} (x : Rc) (h : Hole N M k) : M.set k x = N.take k ++ x :: N.drop k ∧ M.length = N.length + 1 := by
  obtain ⟨hk, z, rfl⟩ := h
  have hl : (N.take k).length = k := by rw [List.length_take]; omega
  constructor
  · rw [List.set_append_right _ _ (by omega), hl, Nat.sub_self, List.set_cons_zero]
  · simp
    omega
theorem hole_new (N : List Rc) (x : Rc) : Hole N (N ++ [x]) N.length := ⟨Nat.le_refl _, x, by simp⟩
theorem flat_set (M : List Rc) : ∀ (k : Nat) (x : Rc), k < M.length → (M.set k x).flatMap cR = ((M.flatMap cR).set (k * 2) (.int .i64 x.k)).set (k * 2 + 1) (.int .i64 x.v) := by
  induction M with
  | nil => intro k x h; simp at h
  | cons y M ih =>
    intro k x h
    cases k with
    | zero => simp [cR]
    | succ k =>
      rw [List.set_cons_succ, List.flatMap_cons, ih k x (by simpa using h), List.flatMap_cons]
      rw [show (k + 1) * 2 = k * 2 + 2 by omega]
      simp [cR]
/-- A record is stored into a row of one's own. -/
theorem own_stored {w : World} {base g cap : Nat} {M : List Rc} {k : Nat} {x : Rc} (h : OwnR w base (.slice (some ⟨g, 0, none⟩) M.length cap) M) (hk : k < M.length) :
    OwnR ((w.setCell ⟨g, k * 2, none⟩ (.int .i64 x.k)).setCell ⟨g, k * 2 + 1, none⟩ (.int .i64 x.v)) base (.slice (some ⟨g, 0, none⟩) (M.set k x).length cap) (M.set k x) ∧
      w.grownBy ((w.setCell ⟨g, k * 2, none⟩ (.int .i64 x.k)).setCell ⟨g, k * 2 + 1, none⟩ (.int .i64 x.v)) (some g) := by
  have h1 := World.ownsRow.stored h (k * 2) (.int .i64 x.k)
  have h2 := World.ownsRow.stored h1.1 (k * 2 + 1) (.int .i64 x.v)
  unfold OwnR OwnG
  rw [List.length_set, flat_set M k x hk]
  exact ⟨h2.1, h1.2.trans h2.2⟩
set_option maxRecDepth 100000 in
set_option maxHeartbeats 4000000 in
theorem orderR_any (A : Option Addr) (c : Nat) (L : List Rc) (mL : L.length ≤ 4096) (w : World) (hL : Lr w A L) :
    Calls Try.prog 23 #[.slice A L.length c] w fun e W' => ∃ B c', e = .returned (.slice B (srtR L).length c') ∧ Lr W' B (srtR L) ∧ Below w.heap.size w W' := by
  have HLr := Lib.hid hL
  clear hL
  obtain ⟨i0, hi0, hz0, hz1, hz2⟩ := infoR_parts
  go_enter Try.func23, Try.ntmps23
  go_wp2_with fail
  go_loopw [3, 4] (fun v3 s wr => ∃ (i : Nat) (N : List Rc) (D : Option Addr) (c' : Nat), i ≤ L.length ∧ v3 = .slice D N.length c' ∧ s = .int .i64 i ∧ Hid (Srt N ∧ N.Perm (L.take i)) ∧ Hid (OwnR wr w.heap.size (.slice D N.length c') N) ∧ Hid (Below w.heap.size w wr)) (fun _ s _ => L.length - (intOf s).toNat)
  case atStart => exact ⟨0, [], none, 0, Nat.zero_le _, rfl, rfl, Lib.hid ⟨by simp [Srt], by simp⟩, Lib.hid (ownG_nil _ _), Lib.hid (Below.refl _ _)⟩
  case round =>
    obtain ⟨i, N, D, c', hi, rfl, rfl, HS, HO, HB⟩ := hrel
    rename World => w1
    by_cases hlt : i < L.length
    · obtain ⟨x, hx, -⟩ := get_ltR hlt
      obtain ⟨b1, o1, hA, hb1, c0, c1⟩ := at_rc HLr.out hx
      subst hA
      have HC := Lib.hid (⟨fun w2 (h : Below w.heap.size w w2) => (h.cell (p := ⟨b1, o1 + i * 2, none⟩) hb1).trans c0, fun w2 (h : Below w.heap.size w w2) => (h.cell (p := ⟨b1, o1 + i * 2 + 1, none⟩) hb1).trans c1⟩ : (∀ w2, Below w.heap.size w w2 → w2.cell? ⟨b1, o1 + i * 2, none⟩ = some (.int .i64 x.k)) ∧ (∀ w2, Below w.heap.size w w2 → w2.cell? ⟨b1, o1 + i * 2 + 1, none⟩ = some (.int .i64 x.v)))
      have hNl : N.length = i := by have := HS.out.2.length_eq; rw [List.length_take] at this; omega
      have hN4 : N.length ≤ 4096 := by omega
      have HX := Lib.hid hx
      clear hx hNl c0 c1
      go_wp2_with fail
      go_loopw [5] (fun s w2 => ∃ n : Nat, s = .int .i64 n ∧ Hid (Over N x n) ∧ n ≤ N.length ∧ Hid (Below w1.heap.size w1 w2)) (fun s _ => (intOf s).toNat)
      case atStart => exact ⟨N.length, rfl, Lib.hid ⟨Nat.le_refl _, fun j y hj hy => by have := (List.getElem?_eq_some_iff.1 hy).1; omega⟩, Nat.le_refl _, Lib.hid (Below.refl _ _)⟩
      case round =>
        obtain ⟨n, rfl, HV, hn, HB2⟩ := hrel
        rename World => w2
        have HB2w := Lib.hid (HB.out.trans (HB2.out.mono HB.out.size))
        by_cases h0 : n = 0
        · have HST : Hid (∀ y, n ≠ 0 → N[n - 1]? = some y → ltR x y = false) := Lib.hid (fun y h => absurd h0 h)
          have hn0 : ¬ (0 : Int) < (n : Int) := by omega
          go_upto_region 6 with fail
          refine region_since w2 (by kernel_rfl) (by kernel_rfl) (Below.refl _ _) ?_
          repeat (go_big_quiet_step (fail))
          refine wpQuiet_nil ?_
          rintro w3 ⟨xx, hw⟩
          have b3 : Below w2.heap.size w2 w3 := hw ▸ xx.2
          have HB3 := Lib.hid (HB2w.out.trans (b3.mono HB2w.out.size))
          have HB3a := Lib.hid (HB2.out.trans (b3.mono HB2.out.size))
          clear hw xx b3 HB2 HB2w h0 hn0
          have k0 := HC.out.1 _ HB3.out
          have k1 := HC.out.2 _ HB3.out
          have BB := fresh0 w3 (.cells #[.int .i64 x.k, .int .i64 x.v] 25)
          have HO3 := Lib.hid ((HO.out.below HB3a.out).below BB)
          go_wp2_with (at_builtin; refine wpList_append_own _ rfl _ _ 26 rfl w.heap.size 25 i0 (.agg #[.int .i64 0, .int .i64 0]) 2 16 Try.underlying26 hi0 hz0 hz1 hz2 rfl (by decide) _ N.length (N.flatMap cR) rfl HO3.out ⟨w3.heap.size, 0, none⟩ 1 1 (cR x) rfl rfl (cell_newG _ _ _) (cellsR.one x) (by unfold maxLen; omega) (by omega) (by have := HB3.out.size; simp; omega) ?_; intro v' w5 hown' hgrow _; obtain ⟨g, cap', rfl⟩ := OwnG.succ hown'; have HO5 := Lib.hid (own_snoc hown'); have HB5 := Lib.hid ((HB3.out.alloc HB3.out.size (.cells #[.int .i64 x.k, .int .i64 x.v] 25)).grown hgrow (by have := HB3.out.size; simp; omega) (fun q e => (HO.out.lt q e).1)); clear hown' hgrow)
          clear BB HO3 k0 k1
          go_loopw [6] (fun s w6 => ∃ (k : Nat) (M : List Rc), s = .int .i64 k ∧ n ≤ k ∧ k ≤ N.length ∧ Hid (Hole N M k) ∧ Hid (M.length = N.length + 1) ∧ Hid (OwnR w6 w.heap.size (.slice (some ⟨g, 0, none⟩) M.length cap') M) ∧ Hid (Below w.heap.size w w6)) (fun s _ => (intOf s).toNat)
          case atStart => exact ⟨N.length, N ++ [x], by go_num, hn, Nat.le_refl _, Lib.hid (hole_new N x), Lib.hid (by simp), Lib.hid (by have h := HO5.out; rw [List.length_append]; exact h), HB5⟩
          case round =>
            obtain ⟨k, M, rfl, hnk, hkN, HH, HM, HO6, HB6⟩ := hrel
            rename World => w6
            clear HO5 HB5
            have hg6 : w.heap.size ≤ g := (HO6.out.lt g rfl).1
            by_cases hlt2 : n < k
            · obtain ⟨k, rfl⟩ : ∃ k', k = k' + 1 := ⟨k - 1, by omega⟩
              obtain ⟨y, hy, hy2, hh, hml⟩ := hole_at HH.out
              obtain ⟨b2, o2, hA2, hb2, d0, d1⟩ := at_rc (HO6.out.lg cellsR) hy2
              injection (Option.some.inj hA2) with e1 e2
              subst e1 e2
              clear hA2 hb2
              rw [Nat.zero_add] at d0 d1
              have hks : k + 1 < M.length := by omega
              obtain ⟨z, hz, -⟩ := get_ltR hks
              obtain ⟨b3, o3, hA3, hb3, d2, d3⟩ := at_rc (HO6.out.lg cellsR) hz
              injection (Option.some.inj hA3) with e1 e2
              subst e1 e2
              clear hA3 hb3
              rw [Nat.zero_add] at d2 d3
              have f2 := World.ownsRow.frozenAt HO6.out ((k + 1) * 2)
              have f3 := World.ownsRow.frozenAt HO6.out ((k + 1) * 2 + 1)
              obtain ⟨HS1, HS2⟩ := own_stored (x := y) HO6.out hks
              have HS1' := Lib.hid HS1
              have HB7 := Lib.hid (HB6.out.grown HS2 HB6.out.size (fun j e => by cases e; exact hg6))
              have HHn := Lib.hid hh
              have hsub : IntKind.i64.wrap (((k + 1 : Nat) : Int) - 1) = (k : Int) := by rw [IntKind.wrap_i64]; omega
              have HMl := Lib.hid hml
              have hkm : k < M.length := by omega
              clear hy hy2 hh HS1 HS2 hz HH
              go_wp2_with fail
              go_roundw
              case rel => exact ⟨k, M.set (k + 1) y, by go_num, by omega, by omega, HHn, Lib.hid (by rw [List.length_set]; exact HMl.out), HS1', HB7⟩
              case measure => simp [intOf] <;> omega
            · obtain rfl : k = n := by omega
              obtain ⟨hf, hml⟩ := hole_fill x HH.out
              have k0 := HC.out.1 _ HB6.out
              have k1 := HC.out.2 _ HB6.out
              have hks : k < M.length := by omega
              obtain ⟨z, hz, -⟩ := get_ltR hks
              obtain ⟨b3, o3, hA3, hb3, d2, d3⟩ := at_rc (HO6.out.lg cellsR) hz
              injection (Option.some.inj hA3) with e1 e2
              subst e1 e2
              clear hA3 hb3
              rw [Nat.zero_add] at d2 d3
              have f2 := World.ownsRow.frozenAt HO6.out (k * 2)
              have f3 := World.ownsRow.frozenAt HO6.out (k * 2 + 1)
              obtain ⟨HS1, HS2⟩ := own_stored (x := x) HO6.out hks
              have HB7 := Lib.hid (HB6.out.grown HS2 HB6.out.size (fun j e => by cases e; exact hg6))
              obtain ⟨p1, p2⟩ := put_srt HS.out.1 HV.out.1 HV.out.2 HST.out
              rw [← hf] at p1 p2
              have HS1' := Lib.hid HS1
              have HP1 := Lib.hid p1
              have HP2 : Hid ((M.set k x).Perm (L.take (i + 1))) := Lib.hid (by rw [take_next HX.out]; exact p2.trans (HS.out.2.append_right [x]))
              have HML : Hid (M.length = (M.set k x).length) := Lib.hid (by rw [List.length_set])
              clear hf p1 p2 HS1 HS2 hz hml HH
              go_wp2_with fail
              go_roundw
              case rel => exact ⟨i + 1, M.set k x, some ⟨g, 0, none⟩, cap', by omega, by rw [← HML.out, HM.out], by go_num, Lib.hid ⟨HP1.out, HP2.out⟩, HS1', HB7⟩
              case measure => simp [intOf] <;> omega
        · obtain ⟨m, rfl⟩ : ∃ m, n = m + 1 := ⟨n - 1, by omega⟩
          obtain ⟨y, hy, -⟩ := get_ltR (show m < N.length by omega)
          obtain ⟨b2, o2, hD, hb2, d0, d1⟩ := at_rc (HO.out.lg cellsR) hy
          subst hD
          have HY := Lib.hid hy
          have s0 : ∀ q : Since w2, q.1.cell? ⟨b1, o1 + i * 2, none⟩ = some (.int .i64 x.k) := fun q => HC.out.1 _ (HB2w.out.trans (q.2.mono HB2w.out.size))
          have s1 : ∀ q : Since w2, q.1.cell? ⟨b1, o1 + i * 2 + 1, none⟩ = some (.int .i64 x.v) := fun q => HC.out.2 _ (HB2w.out.trans (q.2.mono HB2w.out.size))
          have s2 : ∀ q : Since w2, q.1.cell? ⟨b2, o2 + m * 2, none⟩ = some (.int .i64 y.k) := fun q => ((HB2.out.trans (q.2.mono HB2.out.size)).cell (p := ⟨b2, _, none⟩) hb2).trans d0
          have s3 : ∀ q : Since w2, q.1.cell? ⟨b2, o2 + m * 2 + 1, none⟩ = some (.int .i64 y.v) := fun q => ((HB2.out.trans (q.2.mono HB2.out.size)).cell (p := ⟨b2, _, none⟩) hb2).trans d1
          have LE := Lib.hid (fun w0 => less_any x y w0)
          obtain ⟨z, hz⟩ : ∃ z, ltR x y = z := ⟨_, rfl⟩
          rw [hz] at LE
          have HZ := Lib.hid hz
          have hsub : IntKind.i64.wrap (((m + 1 : Nat) : Int) - 1) = (m : Int) := by rw [IntKind.wrap_i64]; omega
          clear hy d0 d1 hz h0
          go_upto_region 6 with fail
          refine region_since w2 (by kernel_rfl) (by kernel_rfl) (Below.refl _ _) ?_
          repeat (go_big_quiet_step ((go_at_call 30; with_reducible exact since_call LE.out _)))
          refine wpQuiet_nil ?_
          rintro w3 ⟨xx, hw⟩
          have b3 : Below w2.heap.size w2 w3 := hw ▸ xx.2
          have HB3 := Lib.hid (HB2w.out.trans (b3.mono HB2w.out.size))
          have HB3a := Lib.hid (HB2.out.trans (b3.mono HB2.out.size))
          clear hw xx b3 s0 s1 s2 s3 HB2 HB2w LE
          cases z with
          | true =>
            go_wp2_with fail
            go_roundw
            case rel => exact ⟨m, by go_num, Lib.hid (over_down HV.out HY.out HZ.out), by omega, HB3a⟩
            case measure => simp [intOf] <;> omega
          | false =>
            have HST : Hid (∀ y, m + 1 ≠ 0 → N[m + 1 - 1]? = some y → ltR x y = false) := Lib.hid (fun y' _ h => by rw [Nat.add_sub_cancel, HY.out] at h; rw [← Option.some.inj h]; exact HZ.out)
            obtain ⟨n, hnm⟩ : ∃ n, n = m + 1 := ⟨_, rfl⟩
            rw [← hnm] at HST HV hn ⊢
            clear hnm hsub HY HZ
            have k0 := HC.out.1 _ HB3.out
            have k1 := HC.out.2 _ HB3.out
            have BB := fresh0 w3 (.cells #[.int .i64 x.k, .int .i64 x.v] 25)
            have HO3 := Lib.hid ((HO.out.below HB3a.out).below BB)
            go_wp2_with (at_builtin; refine wpList_append_own _ rfl _ _ 26 rfl w.heap.size 25 i0 (.agg #[.int .i64 0, .int .i64 0]) 2 16 Try.underlying26 hi0 hz0 hz1 hz2 rfl (by decide) _ N.length (N.flatMap cR) rfl HO3.out ⟨w3.heap.size, 0, none⟩ 1 1 (cR x) rfl rfl (cell_newG _ _ _) (cellsR.one x) (by unfold maxLen; omega) (by omega) (by have := HB3.out.size; simp; omega) ?_; intro v' w5 hown' hgrow _; obtain ⟨g, cap', rfl⟩ := OwnG.succ hown'; have HO5 := Lib.hid (own_snoc hown'); have HB5 := Lib.hid ((HB3.out.alloc HB3.out.size (.cells #[.int .i64 x.k, .int .i64 x.v] 25)).grown hgrow (by have := HB3.out.size; simp; omega) (fun q e => (HO.out.lt q e).1)); clear hown' hgrow)
            clear BB HO3 k0 k1
            go_loopw [6] (fun s w6 => ∃ (k : Nat) (M : List Rc), s = .int .i64 k ∧ n ≤ k ∧ k ≤ N.length ∧ Hid (Hole N M k) ∧ Hid (M.length = N.length + 1) ∧ Hid (OwnR w6 w.heap.size (.slice (some ⟨g, 0, none⟩) M.length cap') M) ∧ Hid (Below w.heap.size w w6)) (fun s _ => (intOf s).toNat)
            case atStart => exact ⟨N.length, N ++ [x], by go_num, hn, Nat.le_refl _, Lib.hid (hole_new N x), Lib.hid (by simp), Lib.hid (by have h := HO5.out; rw [List.length_append]; exact h), HB5⟩
            case round =>
              obtain ⟨k, M, rfl, hnk, hkN, HH, HM, HO6, HB6⟩ := hrel
              rename World => w6
              clear HO5 HB5
              have hg6 : w.heap.size ≤ g := (HO6.out.lt g rfl).1
              by_cases hlt2 : n < k
              · obtain ⟨k, rfl⟩ : ∃ k', k = k' + 1 := ⟨k - 1, by omega⟩
                obtain ⟨y, hy, hy2, hh, hml⟩ := hole_at HH.out
                obtain ⟨b2, o2, hA2, hb2, d0, d1⟩ := at_rc (HO6.out.lg cellsR) hy2
                injection (Option.some.inj hA2) with e1 e2
                subst e1 e2
                clear hA2 hb2
                rw [Nat.zero_add] at d0 d1
                have hks : k + 1 < M.length := by omega
                obtain ⟨z, hz, -⟩ := get_ltR hks
                obtain ⟨b3, o3, hA3, hb3, d2, d3⟩ := at_rc (HO6.out.lg cellsR) hz
                injection (Option.some.inj hA3) with e1 e2
                subst e1 e2
                clear hA3 hb3
                rw [Nat.zero_add] at d2 d3
                have f2 := World.ownsRow.frozenAt HO6.out ((k + 1) * 2)
                have f3 := World.ownsRow.frozenAt HO6.out ((k + 1) * 2 + 1)
                obtain ⟨HS1, HS2⟩ := own_stored (x := y) HO6.out hks
                have HS1' := Lib.hid HS1
                have HB7 := Lib.hid (HB6.out.grown HS2 HB6.out.size (fun j e => by cases e; exact hg6))
                have HHn := Lib.hid hh
                have hsub : IntKind.i64.wrap (((k + 1 : Nat) : Int) - 1) = (k : Int) := by rw [IntKind.wrap_i64]; omega
                have HMl := Lib.hid hml
                have hkm : k < M.length := by omega
                clear hy hy2 hh HS1 HS2 hz HH
                go_wp2_with fail
                go_roundw
                case rel => exact ⟨k, M.set (k + 1) y, by go_num, by omega, by omega, HHn, Lib.hid (by rw [List.length_set]; exact HMl.out), HS1', HB7⟩
                case measure => simp [intOf] <;> omega
              · obtain rfl : k = n := by omega
                obtain ⟨hf, hml⟩ := hole_fill x HH.out
                have k0 := HC.out.1 _ HB6.out
                have k1 := HC.out.2 _ HB6.out
                have hks : k < M.length := by omega
                obtain ⟨z, hz, -⟩ := get_ltR hks
                obtain ⟨b3, o3, hA3, hb3, d2, d3⟩ := at_rc (HO6.out.lg cellsR) hz
                injection (Option.some.inj hA3) with e1 e2
                subst e1 e2
                clear hA3 hb3
                rw [Nat.zero_add] at d2 d3
                have f2 := World.ownsRow.frozenAt HO6.out (k * 2)
                have f3 := World.ownsRow.frozenAt HO6.out (k * 2 + 1)
                obtain ⟨HS1, HS2⟩ := own_stored (x := x) HO6.out hks
                have HB7 := Lib.hid (HB6.out.grown HS2 HB6.out.size (fun j e => by cases e; exact hg6))
                obtain ⟨p1, p2⟩ := put_srt HS.out.1 HV.out.1 HV.out.2 HST.out
                rw [← hf] at p1 p2
                have HS1' := Lib.hid HS1
                have HP1 := Lib.hid p1
                have HP2 : Hid ((M.set k x).Perm (L.take (i + 1))) := Lib.hid (by rw [take_next HX.out]; exact p2.trans (HS.out.2.append_right [x]))
                have HML : Hid (M.length = (M.set k x).length) := Lib.hid (by rw [List.length_set])
                clear hf p1 p2 HS1 HS2 hz hml HH
                go_wp2_with fail
                go_roundw
                case rel => exact ⟨i + 1, M.set k x, some ⟨g, 0, none⟩, cap', by omega, by rw [← HML.out, HM.out], by go_num, Lib.hid ⟨HP1.out, HP2.out⟩, HS1', HB7⟩
                case measure => simp [intOf] <;> omega
    · obtain rfl : i = L.length := by omega
      rw [List.take_length] at HS
      have HE := Lib.hid (srt_uniq HS.out.2 HS.out.1)
      have HLI := Lib.hid (HO.out.lg cellsR)
      clear HS HO
      go_wp2_with fail
      go_ret
      exact ⟨D, c', by rw [← HE.out]; rfl, by rw [← HE.out]; exact HLI.out, HB.out⟩
end Go.Proofs.Ytfjfohkdlikpiaa.data
