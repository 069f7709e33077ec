/-
  append of a whole row to a row of one's own. It names no number of a program.
  The walk of DataPieces.
-/
import Derived.Test.YtkfjgmfokpgcbaaGreatDoorJOpen
import Derived.Maps.AppendAt
import Derived.Test.YtkfjgmfokpgcbaaGreatDoorJNum
namespace Go.Proofs.YtkfjgmfokpgcbaaGreatDoor.data
open Go.ChangeShapes Go.WideShapes Go.ChangeAt Go.RowKit
open Go.Proofs.YtkfjgmfokpgcbaaGreatDoor.opened Go.Proofs.YtkfjgmfokpgcbaaGreatDoor.block Go.Proofs.YtkfjgmfokpgcbaaGreatDoor.region

section
variable {P : Program} {α : Type} {T : TypeId} {m : Nat} {f : α → List Value}
theorem lg_flat (F : Cells m f) (hm : 0 < m) {w : World} {b off : Nat} {L : List α} (h : Lg m f w (some ⟨b, off, none⟩) L) : ∀ j u, (L.flatMap f)[j]? = some u → w.cell? ((⟨b, off, none⟩ : Addr).add j) = some u := by
  intro j u hj
  have hlt : j < L.length * m := by rw [← flatG_len F]; exact (List.getElem?_eq_some_iff.1 hj).1
  have hd : j / m < L.length := Nat.div_lt_of_lt_mul (by rw [Nat.mul_comm]; exact hlt)
  have hy : L[j / m]? = some (L[j / m]'hd) := List.getElem?_eq_getElem hd
  have e := flatG_at F L (j / m) _ (j % m) hy (Nat.mod_lt _ hm)
  rw [show j / m * m + j % m = j by rw [Nat.mul_comm]; exact Nat.div_add_mod j m, hj] at e
  rcases h with h | ⟨b', o', hA, -, hc⟩
  · have : L = [] := by simpa using h
    subst this
    simp at hd
  · injection (Option.some.inj hA) with e1 e2
    subst e1 e2
    have := (hc (j / m) (f (L[j / m]'hd)) (by rw [List.getElem?_map, hy]; rfl)).2 (j % m) (Nat.mod_lt _ hm)
    rw [show j / m * m + j % m = j by rw [Nat.mul_comm]; exact Nat.div_add_mod j m, ← e] at this
    rw [show (⟨b, off, none⟩ : Addr).add j = ⟨b, off + j, none⟩ by cases j <;> simp [Addr.add]]
    exact this
theorem run_append_zero (w : World) (t ty e : TypeId) (i : TypeInfo) (ht : P.underlying t = some (.slice e)) (hi : P.info? e = some i) (B : Option Addr) (n cap : Nat) (hn : n ≤ cap) (A : Option Addr) (c : Nat) :
    (Builtin.append_ #[t, t] ty #[.slice B n cap, .slice A 0 c]).run P w = .ok (.slice B n cap) w := by
  cases B <;> cases A <;> simp [Builtin.append_, Builtin.lenOf, Builtin.firstCells, run_underlying ht, sizeOf, typeInfo, hi, storeCells, loadCells, loadCellsFrom, go_sem, Result.andThen, hn]
theorem run_append_row (F : Cells m f) (hm : 0 < m) {w : World} {base : Nat} (t ty : TypeId) (i : TypeInfo) (z : Value) (bytes : Nat) (ht : P.underlying t = some (.slice T)) (hi : P.info? T = some i) (hz : i.zero = some z)
    (hsize : i.size = m) (hby : i.bytes = bytes) (hzs : z.cells.size = m) {V A : Option Addr} {cap c : Nat} {N M : List α} (hown : OwnG T m f w base (.slice V N.length cap) N) (hM : Lg m f w A M)
    (h63 : N.length + M.length ≤ maxLen) (hbytes : (N.length + M.length) * bytes ≤ 140737488355328) (hbase : base ≤ w.heap.size) :
    ∃ B' cap' w', (Builtin.append_ #[t, t] ty #[.slice V N.length cap, .slice A M.length c]).run P w = .ok (.slice B' (N ++ M).length cap') w' ∧ OwnG T m f w' base (.slice B' (N ++ M).length cap') (N ++ M) ∧ w.grownBy w' (Value.slice V N.length cap).ownBlock ∧
      ((Value.slice B' (N ++ M).length cap').ownBlock = (Value.slice V N.length cap).ownBlock ∨ (Value.slice B' (N ++ M).length cap').ownBlock = some w.heap.size) := by
  by_cases h0 : M = []
  · subst h0
    refine ⟨V, cap, w, ?_, ?_, World.grownBy.refl w _, ?_⟩
    · rw [List.append_nil]
      exact run_append_zero w t ty T i ht hi V N.length cap hown.room A c
    · rw [List.append_nil]
      exact hown
    · rw [List.append_nil]
      exact .inl rfl
  · obtain ⟨y, hy⟩ : ∃ y, M[0]? = some y := ⟨_, List.getElem?_eq_getElem (List.length_pos_iff.2 h0)⟩
    obtain ⟨b, off, rfl, -⟩ := hM.cells hy
    obtain ⟨v', w', hr, h1, h2, -, h4⟩ := run_append_own_at (P := P) w base t ty T i z m bytes ht hi hz hsize hby hzs hm _ N.length (N.flatMap f) hown ⟨b, off, none⟩ M.length c (M.flatMap f) (flatG_len F M) (lg_flat F hm hM)
      (fun u hu => by obtain ⟨x, -, hx⟩ := List.mem_flatMap.1 hu; exact F.one x u hx) h63 hbytes hbase
    rw [← List.flatMap_append] at h1
    have h5 : OwnG T m f w' base v' (N ++ M) := by
      unfold OwnG
      rw [List.length_append]
      exact h1
    obtain ⟨B', cap', rfl, -⟩ := h5.shape
    exact ⟨B', cap', w', hr, h5, h2, h4⟩
/-- At the operation, for the walk. -/
theorem wpList_append_row (F : Cells m f) (hm : 0 < m) {w : World} {ops : Array Oper} {rest : List Oper} {o : Oper} {a : Act} {Q : Exit → Act → World → Prop} (hgd : o.guard = none) (s x : Operand) (t : TypeId)
    (ho : o.op = .call { callee := .builtin .append, args := #[s, x], argTypes := #[t, t] }) (base : Nat) (i : TypeInfo) (z : Value) (bytes : Nat) (ht : P.underlying t = some (.slice T)) (hi : P.info? T = some i) (hz : i.zero = some z)
    (hsize : i.size = m) (hby : i.bytes = bytes) (hzs : z.cells.size = m) {V A : Option Addr} {cap c : Nat} {N M : List α} (hs : a.eval s = .slice V N.length cap) (hx : a.eval x = .slice A M.length c) (hown : OwnG T m f w base (.slice V N.length cap) N) (hM : Lg m f w A M)
    (h63 : N.length + M.length ≤ maxLen) (hbytes : (N.length + M.length) * bytes ≤ 140737488355328) (hbase : base ≤ w.heap.size)
    (h : ∀ B' cap' w', OwnG T m f w' base (.slice B' (N ++ M).length cap') (N ++ M) → w.grownBy w' (Value.slice V N.length cap).ownBlock → ((Value.slice B' (N ++ M).length cap').ownBlock = (Value.slice V N.length cap).ownBlock ∨ (Value.slice B' (N ++ M).length cap').ownBlock = some w.heap.size) →
      wpList P ops Q rest (a.put o.dst (.slice B' (N ++ M).length cap')) w') : wpList P ops Q (o :: rest) a w := by
  refine wpList_plain hgd fun K hK => ?_
  obtain ⟨B', cap', w', hr, h1, h2, h3⟩ := run_append_row (P := P) F hm t o.type i z bytes ht hi hz hsize hby hzs hown hM h63 hbytes hbase
  unfold Oper.wp execOp
  simp only [ho, resolve, invoke, builtin, Sem.run_bind, Sem.run_pure, Result.andThen_ok, List.map_toArray, List.map_cons, List.map_nil, hs, hx]
  rw [hr]
  exact hK _ _ (h B' cap' w' h1 h2 h3)
/-- In a region that draws its order. -/
theorem yields_append_row (F : Cells m f) (hm : 0 < m) {w : World} {o : Oper} {ρ : Operand → Value} {Q : Value → World → Prop} (s x : Operand) (t : TypeId)
    (ho : o.op = .call { callee := .builtin .append, args := #[s, x], argTypes := #[t, t] }) (base : Nat) (i : TypeInfo) (z : Value) (bytes : Nat) (ht : P.underlying t = some (.slice T)) (hi : P.info? T = some i) (hz : i.zero = some z)
    (hsize : i.size = m) (hby : i.bytes = bytes) (hzs : z.cells.size = m) {V A : Option Addr} {cap c : Nat} {N M : List α} (hs : ρ s = .slice V N.length cap) (hx : ρ x = .slice A M.length c) (hown : OwnG T m f w base (.slice V N.length cap) N) (hM : Lg m f w A M)
    (h63 : N.length + M.length ≤ maxLen) (hbytes : (N.length + M.length) * bytes ≤ 140737488355328) (hbase : base ≤ w.heap.size)
    (h : ∀ B' cap' w', OwnG T m f w' base (.slice B' (N ++ M).length cap') (N ++ M) → w.grownBy w' (Value.slice V N.length cap).ownBlock → ((Value.slice B' (N ++ M).length cap').ownBlock = (Value.slice V N.length cap).ownBlock ∨ (Value.slice B' (N ++ M).length cap').ownBlock = some w.heap.size) →
      Q (.slice B' (N ++ M).length cap') w') : YieldsW P o ρ w Q := by
  obtain ⟨B', cap', w', hr, h1, h2, h3⟩ := run_append_row (P := P) F hm t o.type i z bytes ht hi hz hsize hby hzs hown hM h63 hbytes hbase
  refine .inl ⟨_, w', ?_, h B' cap' w' h1 h2 h3⟩
  unfold execOp
  simp only [ho, resolve, invoke, builtin, Sem.run_bind, Sem.run_pure, Result.andThen_ok, List.map_toArray, List.map_cons, List.map_nil, hs, hx]
  rw [hr]
  rfl
end
end Go.Proofs.YtkfjgmfokpgcbaaGreatDoor.data
namespace Go.Proofs.YtkfjgmfokpgcbaaGreatDoor.data
open Go.ChangeShapes Go.WideShapes Go.ChangeAt Go.RowKit
open Go.Proofs.YtkfjgmfokpgcbaaGreatDoor.tm Go.Proofs.YtkfjgmfokpgcbaaGreatDoor.opened Go.Proofs.YtkfjgmfokpgcbaaGreatDoor.block Go.Proofs.YtkfjgmfokpgcbaaGreatDoor.words Go.Proofs.YtkfjgmfokpgcbaaGreatDoor.region Go.Proofs.YtkfjgmfokpgcbaaGreatDoor.stamp

theorem flat_take {α : Type} {N : List (List α)} {k : Nat} {x : List α} (h : N[k]? = some x) : (N.take (k + 1)).flatten = (N.take k).flatten ++ x := by
  rw [List.take_add_one, h]
  simp
theorem flat_le {α : Type} (N : List (List α)) (k : Nat) : (N.take k).flatten.length ≤ N.flatten.length := by
  conv => rhs; rw [← List.take_append_drop k N, List.flatten_append, List.length_append]
  omega
set_option maxRecDepth 100000 in
set_option maxHeartbeats 4000000 in
theorem walkPieces (L : List Rc) (A : Option Addr) (c : Nat) (w : World) (hE : Env w) (hL : Lr w A L) :
    Calls Tryz.prog 4 #[.slice A L.length c] w fun e w' => e = .returned (.bool true) ∧ Below w.heap.size w w' := by
  have WK := Lib.hid (works_any w hE)
  have HL := Lib.hid hL
  clear hL hE
  by_cases hl : L.length ≤ 300
  rotate_left
  · have hl' : (300 : Int) < (L.length : Int) := by omega
    go_enter Tryz.func4, Tryz.ntmps4
    go_wp2_with (go_at_call 6; refine WK.out.mono ?_; rintro e w1 ⟨rfl, b1⟩; have B1 := Lib.hid b1; clear b1)
    go_ret
    exact ⟨rfl, B1.out⟩
  have hl' : ¬ (300 : Int) < (L.length : Int) := by omega
  have OW := Lib.hid (fun w0 h => own_any A c L (by omega) w0 h)
  have CU := Lib.hid (fun B c0 w0 h => cut_any B c0 L (by omega) w0 h)
  have AL := Lib.hid (fun B c0 w0 h k => alike_any B A c0 c L L (by omega) w0 h k)
  rw [decide_eq_true rfl] at AL
  have PA := Lib.hid (pcs_all L)
  have PS := Lib.hid (fun k N => pcs_sizes (L := L) (k := k) (N := N))
  have PL : Hid ((pcs L).length ≤ 5) := Lib.hid (by rw [pcs_len]; omega)
  have LL3 : Hid (L.length ≤ 300) := Lib.hid hl
  have FL := Lib.hid (fun k => flat_le (pcs L) k)
  rw [PA.out] at FL
  generalize pcs L = N at CU PA PS PL FL
  obtain ⟨i0, hi0, hz0, hz1, hz2⟩ := infoR_parts
  clear hl
  go_enter Tryz.func4, Tryz.ntmps4
  go_upto_region 3 with (go_at_call 6; refine WK.out.mono ?_; rintro e w1 ⟨rfl, b1⟩; have HL1 := Lib.hid (HL.out.below b1); have B1 := Lib.hid b1; clear b1)
  clear WK HL
  go_wp2_with (first
    | (go_at_call 11; refine (CU.out _ _ _ HO.out).mono ?_; rintro e w3 ⟨P, pc, rfl, hp, b3⟩; have HP := Lib.hid hp; have HL3 := Lib.hid (HL2.out.below b3); have B3 := Lib.hid (then_below B2.out b3); clear hp b3)
    | (go_at_call 8; refine (OW.out _ HL1.out).mono ?_; rintro e w2 ⟨B, bc, rfl, ho, b2⟩; have HO := Lib.hid (OwnG.lg cellsR ho); have HL2 := Lib.hid (HL1.out.below b2); have B2 := Lib.hid (then_below B1.out b2); clear ho b2))
  clear OW CU HO HL1 HL2 B1 B2 hl'
  go_loopw [4, 5] (fun v4 s wr => ∃ (k : Nat) (V : Option Addr) (c4 : Nat) (U : List Rc), k ≤ N.length ∧ s = .int .i64 k ∧ v4 = .slice V U.length c4 ∧ Hid (U = (N.take k).flatten) ∧ Hid (OwnR wr w3.heap.size (.slice V U.length c4) U) ∧ Hid (Below w3.heap.size w3 wr)) (fun _ s _ => N.length - (intOf s).toNat)
  case atStart => exact ⟨0, none, 0, [], Nat.zero_le _, rfl, rfl, Lib.hid (by simp), Lib.hid (ownG_nil _ _), Lib.hid (Below.refl _ _)⟩
  case round =>
    obtain ⟨k, V, c4, U, hk, rfl, rfl, HU, HV, HB⟩ := hrel
    have hN5 := PL.out
    by_cases hlt : k < N.length
    · have hx : N[k]? = some N[k] := List.getElem?_eq_getElem hlt
      obtain ⟨s1, s2, s3⟩ := PS.out k _ hx
      obtain ⟨pb, po, Y, yc, rfl, hpb, hyc, hY⟩ := (HP.out.below HB.out).rows k _ hx
      have hft := flat_take hx
      rw [← HU.out] at hft
      have hfl := FL.out (k + 1)
      generalize N[k] = X at *
      obtain ⟨q1, q2⟩ : ((X.length : Int) == 0) = false ∧ ¬ (64 : Int) < (X.length : Int) := ⟨by rw [beq_eq_false_iff_ne]; omega, by omega⟩
      have hsub : IntKind.i64.wrap ((N.length : Int) - 1) = (N.length : Int) - 1 := by rw [IntKind.wrap_i64]; have := PL.out; omega
      have hlt2 : (k : Int) < (N.length : Int) := by omega
      have HX := Lib.hid hft.symm
      have HF : Hid (U.length + X.length ≤ 300) := Lib.hid (by rw [hft, List.length_append] at hfl; have := LL3.out; omega)
      have HSZ := Lib.hid HB.out.size
      have HY := Lib.hid hY
      have HK := Lib.hid s3
      clear hft hfl s1 s2 s3 hY hx HU
      by_cases h64 : k + 1 < N.length
      · have q3 : (k : Int) < (N.length : Int) - 1 := by omega
        have q4 : ((X.length : Int) == 64) = true := by rw [beq_iff_eq]; have := HK.out h64; omega
        go_wp2_with (at_builtin; refine wpList_append_row (T := 33) (f := cR) cellsR (by decide) rfl _ _ 22 rfl w3.heap.size i0 (.agg #[.int .i64 0, .int .i64 0]) 16 Tryz.underlying22 hi0 hz0 hz1 hz2 rfl (N := U) (M := X) rfl rfl HV.out HY.out (by have := HF.out; unfold maxLen; omega) (by have := HF.out; omega) HSZ.out ?_; intro B5 cap5 w5 hown5 hgrow hat; have HX5 := HX; generalize U ++ X = U5 at hown5 HX5 ⊢; have HV5 := Lib.hid hown5; have HB5 := Lib.hid (HB.out.grown hgrow HSZ.out (fun j e => (HV.out.lt j e).1)); clear hown5 hgrow hat)
        go_roundw
        case rel => exact ⟨k + 1, _, _, _, by omega, by go_num, rfl, HX5, HV5, HB5⟩
        case measure => simp [intOf]; omega
      · have q3 : ¬ (k : Int) < (N.length : Int) - 1 := by omega
        go_wp2_with (at_builtin; refine wpList_append_row (T := 33) (f := cR) cellsR (by decide) rfl _ _ 22 rfl w3.heap.size i0 (.agg #[.int .i64 0, .int .i64 0]) 16 Tryz.underlying22 hi0 hz0 hz1 hz2 rfl (N := U) (M := X) rfl rfl HV.out HY.out (by have := HF.out; unfold maxLen; omega) (by have := HF.out; omega) HSZ.out ?_; intro B5 cap5 w5 hown5 hgrow hat; have HX5 := HX; generalize U ++ X = U5 at hown5 HX5 ⊢; have HV5 := Lib.hid hown5; have HB5 := Lib.hid (HB.out.grown hgrow HSZ.out (fun j e => (HV.out.lt j e).1)); clear hown5 hgrow hat)
        go_roundw
        case rel => exact ⟨k + 1, _, _, _, by omega, by go_num, rfl, HX5, HV5, HB5⟩
        case measure => simp [intOf]; omega
    · have HA : Hid (Lr wr V L) := Lib.hid (by have := OwnG.lg cellsR HV.out; rwa [HU.out, List.take_of_length_le (by omega), PA.out] at this)
      have hn : U.length = L.length := by rw [HU.out, List.take_of_length_le (by omega), PA.out]
      rw [hn]
      have HL4 := Lib.hid (HL3.out.below HB.out)
      have B4 := Lib.hid (then_below B3.out HB.out)
      clear HV hn HU
      go_wp2_with (go_at_call 12; refine (AL.out _ _ _ HA.out HL4.out).mono ?_; rintro e w5 ⟨rfl, b5⟩; have B5 := Lib.hid (then_below B4.out b5); clear b5)
      go_ret
      exact ⟨rfl, B5.out⟩
end Go.Proofs.YtkfjgmfokpgcbaaGreatDoor.data
