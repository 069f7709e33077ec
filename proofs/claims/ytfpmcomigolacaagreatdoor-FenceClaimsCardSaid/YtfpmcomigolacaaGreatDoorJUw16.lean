/-
  The contract of numbers.
  The texts of a file, behind the records of a log: the region of take that draws its order.
-/
import Derived.Test.YtfpmcomigolacaaGreatDoorJUw13
import Derived.Test.YtfpmcomigolacaaGreatDoorJKit0
set_option linter.unusedSimpArgs false
set_option linter.unusedVariables false
namespace Go.Proofs.YtfpmcomigolacaaGreatDoor.wal
open Go.ChangeShapes Go.WideShapes Go.ChangeAt Go.RowKit Go.Maps Go.WideMaps Go.Sort
open Go.Proofs.YtfpmcomigolacaaGreatDoor.opened Go.Proofs.YtfpmcomigolacaaGreatDoor.block Go.Proofs.YtfpmcomigolacaaGreatDoor.words Go.Proofs.YtfpmcomigolacaaGreatDoor.disk Go.Proofs.YtfpmcomigolacaaGreatDoor.tailed Go.Proofs.YtfpmcomigolacaaGreatDoor.enc Go.Proofs.YtfpmcomigolacaaGreatDoor.code
def srtI (N : List Int) : List Int := N.mergeSort fun x y => decide (x ≤ y)
theorem srt_perm (N : List Int) : (srtI N).Perm N := List.mergeSort_perm N _
theorem srt_sorted (N : List Int) : (srtI N).Pairwise (· ≤ ·) := by
  have h := List.pairwise_mergeSort (le := fun x y : Int => decide (x ≤ y)) (fun a b c h1 h2 => by simp only [decide_eq_true_eq] at *; omega) (fun a b => by simp only [Bool.or_eq_true, decide_eq_true_eq]; omega) N
  exact h.imp fun {a b} hab => by simpa using hab
theorem cutp_any (s p : Bs) (w : World) : Calls Tryz.prog 54 #[.string ⟨s.toArray⟩, .string ⟨p.toArray⟩] w fun e w' => e = .returned (.tuple #[sV (Lib.trimPrefix s p), .bool (Lib.hasPrefix s p)]) ∧ w = w' :=
  (Any.strings_CutPrefix Tryz.lays103 ⟨s.toArray⟩ ⟨p.toArray⟩ w).mono fun _ _ ⟨he, hw⟩ => ⟨he, hw.symm⟩
/-- A row of numbers of one's own, sorted. -/
theorem sort_ints {w : World} {base : Nat} {A : Option Addr} {c : Nat} {N : List Int} (hl : N.length ≤ 1000000) (h : w.ownsRow base 3 1 (.slice A N.length c) N.length (N.map (Value.int .i64))) :
    Calls Tryz.prog 56 #[.slice A N.length c] w fun e w' => e = .returned (.tuple #[]) ∧ w'.ownsRow base 3 1 (.slice A N.length c) N.length ((srtI N).map (Value.int .i64)) ∧ Below base w w' := by
  rcases h.2 with ⟨hv, hz⟩ | ⟨g, cap, cur, hv, hg, hh, rest⟩
  · have hN : N = [] := List.eq_nil_of_length_eq_zero hz
    subst hN
    exact (AnyM.slices_Sort_int_none Tryz.laysSlM5_f56 A c w).mono fun e w' ⟨h1, h2⟩ => ⟨h1, by rw [h2, show srtI ([] : List Int) = [] from by simp [srtI]]; exact h, by rw [h2]; exact Below.refl _ _⟩
  · injection hv with h1 h2 h3
    subst h1
    have hlt : g < w.heap.size := (Array.getElem?_eq_some_iff.1 hh).1
    obtain ⟨q1, q2, q3⟩ := own_holds h
    refine (AnyM.slices_Sort_int Tryz.laysSlM5_f56 g 0 c N w q1 hlt (by omega)).mono ?_
    rintro e w' ⟨rfl, q, os, rfl⟩
    rw [show (N.mergeSort fun x y => decide (x ≤ y)) = srtI N from rfl]
    have hlen : (srtI N).length = N.length := (srt_perm N).length_eq
    obtain ⟨p1, p2⟩ := own_put h q (srtI N) hlen N.length (Nat.le_refl _)
    rw [← hlen, List.take_length, hlen] at p1
    have hgr : ∀ k, k < w.heap.size → (grow (putRow (Value.int .i64) (Sort.ahead w q) g 0 (srtI N).toArray) os).heap[k]? = (putRow (Value.int .i64) (Sort.ahead w q) g 0 (srtI N).toArray).heap[k]? := fun k hk => by
      show (_ ++ os)[k]? = _
      rw [Array.getElem?_append_left (Nat.lt_of_lt_of_le hk p2.size)]
    refine ⟨rfl, own_same p1 fun k hk => ?_, ⟨p2.os, p2.tape, p2.output, by have := p2.size; simp only [size_grow]; omega, fun k hk => ?_⟩⟩
    · obtain rfl : g = k := by simpa [Value.ownBlock] using hk
      exact hgr g hlt
    · exact (hgr k (by omega)).trans (p2.block k (by omega) (by simp; omega))
theorem nums_step (nm : Bs) (F : List Fl) {k : Nat} {f : Bs} (h : (F.map Fl.n)[k]? = some f) : ((F.map Fl.n).take (k + 1)).filterMap (numOf nm) = ((F.map Fl.n).take k).filterMap (numOf nm) ++ (match numOf nm f with | some x => [x] | none => []) := by
  rw [List.take_add_one, h, List.filterMap_append]
  congr 1
  cases e : numOf nm f with
  | none => simp [e]
  | some x => simp [e]
section
variable {gl gd : Nat} {L : Lg} {A : Option Addr} {c : Nat} {R : Option Addr} {d : Nat} {w : World} {B : Nat} {D : Dk}
set_option maxRecDepth 100000 in
set_option maxHeartbeats 2000000 in
theorem numbers_any (GD : GoodD D) (hF : D.F.length ≤ 1000) (hl : L.nm.length ≤ 8) (hE : EnvB B w) (h : LogE w gl gd L A c R d) (hD : DiskB w B gd D) :
    Calls Tryz.prog 32 #[.pointer (some ⟨gl, 0, none⟩)] w fun e w' => ∃ A' c', e = .returned (.slice A' (srtI (numsU L.nm D.F)).length c') ∧ w'.ownsRow w.heap.size 3 1 (.slice A' (srtI (numsU L.nm D.F)).length c') (srtI (numsU L.nm D.F)).length ((srtI (numsU L.nm D.F)).map (Value.int .i64)) ∧ Below w.heap.size w w' := by
  obtain ⟨i0, hi, hz0, hz1, hz2⟩ := int_parts
  have c0 : w.cell? ⟨gl, 0, none⟩ = some (.pointer (some ⟨gd, 0, none⟩)) := h.cells.read 0
  have f0 : w.frozen? ⟨gl, 0, none⟩ = false := h.cells.soft 0
  have HNm := Lib.hid (namesB GD hF hD)
  have c1 : Hid (∀ w1, Below w.heap.size w w1 → w1.cell? ⟨gl, 1, none⟩ = some (sV L.nm) ∧ w1.frozen? ⟨gl, 1, none⟩ = false) := Lib.hid fun w1 b => ⟨(h.below b).cells.read 1, (h.below b).cells.soft 1⟩
  have HFl : Hid (∀ f ∈ D.F.map Fl.n, f.length ≤ 12) := Lib.hid fun f hf => by
    obtain ⟨x, hx, rfl⟩ := List.mem_map.1 hf
    have := GD.names x hx
    unfold nameB at this
    simp at this
    exact this.1
  have hFl : (D.F.map Fl.n).length ≤ 1000 := by rw [List.length_map]; exact hF
  have HU : Hid (numsU L.nm D.F = (D.F.map Fl.n).filterMap (numOf L.nm)) := Lib.hid rfl
  have HSt := Lib.hid (fun k f => nums_step L.nm D.F (k := k) (f := f))
  have HEn : Hid (∀ w1, Below w.heap.size w w1 → Env w1) := Lib.hid fun w1 b => (hE.below b).env
  have HNO : Hid (∀ f, numOf L.nm f = if Lib.hasPrefix f L.nm = true then (if inE (Lib.trimPrefix f L.nm) 1 999 = 0 then some (inV (Lib.trimPrefix f L.nm) 1 999) else none) else none) := Lib.hid fun f => rfl
  have HTr : Hid (∀ f, (Lib.trimPrefix f L.nm).length ≤ f.length) := Lib.hid fun f => by unfold Lib.trimPrefix; split <;> simp
  clear h hD hE GD hF
  generalize numsU L.nm D.F = NU at HU ⊢
  generalize D.F.map Fl.n = NL at HNm HFl hFl HU HSt
  generalize L.nm = nm at c1 HU HSt HNO HTr hl
  go_enter Tryz.func32, Tryz.ntmps32
  go_wp2_with (go_at_call 42; refine HNm.out.mono ?_; rintro e w1 ⟨NA, nc, rfl, o1, b1⟩; have O1 := Lib.hid o1; have B1 := Lib.hid b1; clear o1 b1)
  clear HNm c0 f0
  go_loopw [3, 16] (fun v i wr => ∃ (k : Nat) (M : List Int) (A2 : Option Addr) (c2 : Nat), k ≤ NL.length ∧ i = .int .i64 (k : Int) ∧ v = .slice A2 M.length c2 ∧ Hid (M = (NL.take k).filterMap (numOf nm)) ∧ M.length ≤ k ∧ Hid (wr.ownsRow w1.heap.size 3 1 (.slice A2 M.length c2) M.length (M.map (Value.int .i64))) ∧ Hid (Below w1.heap.size w1 wr)) (fun _ i _ => NL.length - (intOf i).toNat)
  case atStart => exact ⟨0, [], none, 0, Nat.zero_le _, rfl, rfl, Lib.hid rfl, Nat.le_refl _, Lib.hid (World.ownsRow_nil _ _ _ _), Lib.hid (Below.refl _ _)⟩
  case round =>
    obtain ⟨k, M, A2, c2, hk, rfl, rfl, HM, hMk, HO, HB⟩ := hrel
    have HBw : Hid (Below w.heap.size w wr) := Lib.hid (then_below B1.out HB.out)
    have hsz : w1.heap.size ≤ wr.heap.size := HB.out.size
    by_cases hlt : k < NL.length
    · obtain ⟨f, hf⟩ : ∃ f, NL[k]? = some f := ⟨_, List.getElem?_eq_getElem hlt⟩
      obtain ⟨g1, hA1, -, hcf⟩ := own_at (own_below O1.out HB.out) (k := k) (x := sV f) (by rw [List.getElem?_map, hf]; rfl)
      subst hA1
      obtain ⟨c1a, c1b⟩ := c1.out wr HBw.out
      have hfl := HFl.out f (List.mem_of_getElem? hf)
      have HCp := Lib.hid (cutp_any f nm wr)
      have hno := HNO.out f
      have hst := HSt.out k f hf
      have htl := HTr.out f
      have HIn := Lib.hid (int_any (Lib.trimPrefix f nm) (by omega) 1 999 wr (HEn.out wr HBw.out))
      clear hf hfl htl
      cases hp : Lib.hasPrefix f nm with
      | false =>
        rw [if_neg (by rw [hp]; simp)] at hno
        rw [hno] at hst
        simp only [List.append_nil] at hst
        have HM2 : Hid (M = (NL.take (k + 1)).filterMap (numOf nm)) := Lib.hid (by rw [HM.out]; exact hst.symm)
        rw [hp] at HCp
        clear hno hst hp HIn
        generalize Lib.trimPrefix f nm = t at HCp
        go_wp2_with (go_at_call 54; refine HCp.out.mono ?_; rintro e w4 ⟨rfl, rfl⟩)
        go_roundw
        case rel => exact ⟨k + 1, M, A2, c2, by omega, by go_num, rfl, HM2, by omega, HO, HB⟩
        case measure => simp [intOf]; omega
      | true =>
        rw [if_pos hp] at hno
        rw [hp] at HCp
        clear hp
        generalize Lib.trimPrefix f nm = t at HCp hno HIn
        by_cases hin : inE t 1 999 = 0
        · rw [if_pos hin] at hno
          rw [hno] at hst
          dsimp only at hst
          have HM2 : Hid (M ++ [inV t 1 999] = (NL.take (k + 1)).filterMap (numOf nm)) := Lib.hid (by rw [HM.out]; exact hst.symm)
          rw [hin] at HIn
          clear hno hst hin
          generalize inV t 1 999 = x at HIn HM2
          have hmx : M.length + 1 ≤ maxLen := by unfold maxLen; omega
          have hby : (M.length + 1) * 8 ≤ 140737488355328 := by omega
          have hone : ∀ u ∈ [Value.int .i64 x], u.oneCell' = true := fun u hu => by rw [List.mem_singleton] at hu; subst hu; rfl
          go_wp2_with (first
            | (go_at_call 54; refine HCp.out.mono ?_; rintro e w4 ⟨rfl, rfl⟩)
            | (go_at_call 55; refine HIn.out.mono ?_; rintro e w5 ⟨rfl, b5⟩; have O5 := Lib.hid (own_below HO.out b5); have B5 := Lib.hid (HB.out.trans (b5.mono hsz)); have hs5 := b5.size; clear b5)
            | (at_builtin; refine wpList_append_own _ rfl _ _ 23 rfl w1.heap.size 3 i0 (.int .i64 0) 1 8 Tryz.underlying23 hi hz0 hz1 hz2 rfl (by decide) _ M.length (M.map (Value.int .i64)) rfl (own_below O5.out (fresh1' w5 (.cells #[.int .i64 x] 3))) ⟨w5.heap.size, 0, none⟩ 1 1 [.int .i64 x] rfl rfl (cell_one_new _ _ _) hone hmx hby (by rw [World.size_alloc]; omega) ?_; intro v' w6 hown' hgrow _; obtain ⟨A6, c6, rfl⟩ := own_shape hown'; have O6 := Lib.hid hown'; have B6 : Hid (Below w1.heap.size w1 w6) := Lib.hid ((B5.out.alloc B5.out.size (.cells #[.int .i64 x] 3)).grown hgrow (by rw [World.size_alloc]; omega) (fun j ej => (O5.out.lt j ej).1)); clear hown' hgrow))
          go_roundw
          case rel => exact ⟨k + 1, M ++ [x], A6, c6, by omega, by go_num, by rw [List.length_append]; rfl, HM2, by rw [List.length_append]; simp; omega, Lib.hid (by have := O6.out; rw [List.length_append, List.map_append]; exact this), B6⟩
          case measure => simp [intOf]; omega
        · rw [if_neg hin] at hno
          rw [hno] at hst
          simp only [List.append_nil] at hst
          have HM2 : Hid (M = (NL.take (k + 1)).filterMap (numOf nm)) := Lib.hid (by rw [HM.out]; exact hst.symm)
          have hin2 : (inE t 1 999 == 0) = false := by simpa using hin
          clear hno hst hin
          generalize inE t 1 999 = ie at HIn hin2
          generalize inV t 1 999 = x at HIn
          go_wp2_with (first
            | (go_at_call 54; refine HCp.out.mono ?_; rintro e w4 ⟨rfl, rfl⟩)
            | (go_at_call 55; refine HIn.out.mono ?_; rintro e w5 ⟨rfl, b5⟩; have O5 := Lib.hid (own_below HO.out b5); have B5 := Lib.hid (HB.out.trans (b5.mono hsz)); clear b5))
          go_roundw
          case rel => exact ⟨k + 1, M, A2, c2, by omega, by go_num, rfl, HM2, by omega, O5, B5⟩
          case measure => simp [intOf]; omega
    · have hkk : k = NL.length := by omega
      have HM2 : Hid (M = NU) := Lib.hid (by rw [HM.out, HU.out, hkk, List.take_length])
      have HSo := Lib.hid (sort_ints (by omega) HO.out)
      have hlen : Hid ((srtI M).length = M.length) := Lib.hid (srt_perm M).length_eq
      clear HM hkk
      go_wp2_with (go_at_call 56; refine HSo.out.mono ?_; rintro e w7 ⟨rfl, o7, b7⟩; have O7 := Lib.hid o7; have B7 := Lib.hid (then_below B1.out (HB.out.trans b7)); clear o7 b7)
      go_ret
      obtain rfl : M = NU := HM2.out
      refine ⟨A2, c2, by rw [hlen.out]; rfl, ?_, B7.out⟩
      rw [hlen.out]
      exact own_low O7.out fun j hj => Nat.le_trans B1.out.size (O7.out.lt j hj).1
end
end Go.Proofs.YtfpmcomigolacaaGreatDoor.wal
set_option linter.unusedSimpArgs false
set_option linter.unusedVariables false
namespace Go.Proofs.YtfpmcomigolacaaGreatDoor.wal
open Go.ChangeShapes Go.WideShapes Go.ChangeAt Go.RowKit Go.Maps Go.WideMaps
open Go.Proofs.YtfpmcomigolacaaGreatDoor.opened Go.Proofs.YtfpmcomigolacaaGreatDoor.block Go.Proofs.YtfpmcomigolacaaGreatDoor.words Go.Proofs.YtfpmcomigolacaaGreatDoor.disk Go.Proofs.YtfpmcomigolacaaGreatDoor.tailed Go.Proofs.YtfpmcomigolacaaGreatDoor.enc Go.Proofs.YtfpmcomigolacaaGreatDoor.code Go.Proofs.YtfpmcomigolacaaGreatDoor.region
theorem yieldsW_append {P : Program} {w w' : World} {o : Oper} {ρ : Operand → Value} {T : Value → World → Prop} {sl x : Operand} {t u : TypeId} (ho : o.op = .call { callee := .builtin .append, args := #[sl, x], argTypes := #[t, u] }) {v y v' : Value} (hs : ρ sl = v) (hx : ρ x = y)
    (hr : (Builtin.append_ #[t, u] o.type #[v, y]).run P w = .ok v' w') (h : T v' w') : YieldsW P o ρ w T := by
  refine .inl ⟨v', w', ?_, h⟩
  unfold execOp
  simp only [ho, resolve, invoke, builtin, Sem.run_bind, Sem.run_pure, Result.andThen_ok, List.map_toArray, List.map_cons, List.map_nil, hs, hx, hr]
/-- s[1:] of a row. -/
theorem slice_one (g m c : Nat) (hm : 1 ≤ m) (hc : m ≤ c) (hc2 : c ≤ 9223372036854775807) : ∃ a c', (2 ≤ m → a = ⟨g, 1, none⟩) ∧ ∀ W, (Instr.slice 45 (.slice (some ⟨g, 0, none⟩) m c) (some (.int .i64 1)) none none).run Tryz.prog W = .ok (.slice (some a) (m - 1) c') W := by
  by_cases h1 : c = 1
  · have : m = 1 := by omega
    subst this h1
    refine ⟨⟨g, 0, none⟩, 0, fun h => by omega, fun W => ?_⟩
    go_simp
  · refine ⟨⟨g, 1, none⟩, c - 1, fun _ => rfl, fun W => ?_⟩
    have h2 : ((m : Int) - 1).toNat = m - 1 := by omega
    have h3 : ((c : Int) - 1).toNat = c - 1 := by omega
    go_simp
    intro h
    omega
/-- What does not turn in the region. -/
structure RE (wx : World) (gl : Nat) (R : Option Addr) (C5 : Value → Array Value) (w7 : World) : Prop where
  five : ∀ v, (C5 v)[5]? = some v
  set : ∀ u v, (C5 u).setIfInBounds 5 v = C5 v
  glr : ∀ a, R = some a → a.block ≠ gl
  os : w7.os = wx.os
  tape : w7.tape = wx.tape
  output : w7.output = wx.output
  size : wx.heap.size ≤ w7.heap.size
  glx : gl < wx.heap.size
  rx : ∀ a, R = some a → a.block < wx.heap.size
  old : ∀ k, k < wx.heap.size → k ≠ gl → (∀ a, R = some a → k ≠ a.block) → w7.heap[k]? = wx.heap[k]?
  cells : ∃ v5, Whole w7 gl 67 (C5 v5)
section
variable {wx : World} {gl : Nat} {R : Option Addr} {C5 : Value → Array Value} {w7 w8 : World}
theorem RE.get5 (h : RE wx gl R C5 w7) : ∃ v5, w7.cell? ⟨gl, 5, none⟩ = some v5 := by
  obtain ⟨v5, hv⟩ := h.cells
  exact ⟨v5, (hv.read 5).trans (h.five v5)⟩
theorem RE.soft5 (h : RE wx gl R C5 w7) : w7.frozen? ⟨gl, 5, none⟩ = false := by
  obtain ⟨v5, hv⟩ := h.cells
  exact hv.soft 5
theorem RE.below (h : RE wx gl R C5 w7) (hb : Below w7.heap.size w7 w8) : RE wx gl R C5 w8 :=
  ⟨h.five, h.set, h.glr, hb.os.trans h.os, hb.tape.trans h.tape, hb.output.trans h.output, Nat.le_trans h.size hb.size, h.glx, h.rx, fun k hk h1 h2 => (hb.block k (Nat.lt_of_lt_of_le hk h.size)).trans (h.old k hk h1 h2), by
    obtain ⟨v5, hv⟩ := h.cells
    exact ⟨v5, hv.below hb hv.inside⟩⟩
theorem RE.row (h : RE wx gl R C5 w7) {n c : Nat} (hg : w7.grownBy w8 (Value.slice R n c).ownBlock) : RE wx gl R C5 w8 := by
  have ne : ∀ k, (∀ a, R = some a → k ≠ a.block) → some k ≠ (Value.slice R n c).ownBlock := fun k hk e => by
    obtain ⟨a, ha, e2⟩ := own_blk e.symm
    exact hk a ha e2
  refine ⟨h.five, h.set, h.glr, hg.os.trans h.os, hg.tape.trans h.tape, hg.output.trans h.output, Nat.le_trans h.size hg.size, h.glx, h.rx, fun k hk h1 h2 => (hg.block k (Nat.lt_of_lt_of_le hk h.size) (ne k h2)).trans (h.old k hk h1 h2), ?_⟩
  obtain ⟨v5, hv⟩ := h.cells
  exact ⟨v5, hv.grown hg (ne gl fun a ha e => h.glr a ha e.symm)⟩
theorem RE.store (h : RE wx gl R C5 w7) (v : Value) : RE wx gl R C5 (w7.setCell ⟨gl, 5, none⟩ v) := by
  refine ⟨h.five, h.set, h.glr, h.os, h.tape, h.output, by have := h.size; simpa [World.setCell] using this, h.glx, h.rx, fun k hk h1 h2 => (Below.heap_setCell w7 _ v k (by simpa using h1)).trans (h.old k hk h1 h2), ?_⟩
  obtain ⟨v5, hv⟩ := h.cells
  have := hv.store 5 v
  rw [h.set] at this
  exact ⟨v, this⟩
/-- A slice with the texts behind the records. -/
def AddR (wx : World) (R : Option Addr) (m : Nat) (N : List Bs) : Value → World → Prop := fun u w => ∃ A2 c2, u = .slice A2 m c2 ∧ w.ownsRow 0 9 1 (.slice A2 m c2) m (N.map sV) ∧ ∀ a, A2 = some a → (∃ b, R = some b ∧ a.block = b.block) ∨ wx.heap.size ≤ a.block
theorem keeps_addR (wx : World) (R : Option Addr) (m : Nat) (N : List Bs) : Keeps (AddR wx R m N) := fun _ _ _ hb ⟨A2, c2, h1, h2, h3⟩ => ⟨A2, c2, h1, own_below h2 hb, h3⟩
theorem row_store {w : World} {gl : Nat} {C5 : Value → Array Value} {v5 : Value} {A2 : Option Addr} {m c2 : Nat} {N : List Bs} (hv : Whole w gl 67 (C5 v5)) (h : w.ownsRow 0 9 1 (.slice A2 m c2) m (N.map sV)) (u : Value) : (w.setCell ⟨gl, 5, none⟩ u).ownsRow 0 9 1 (.slice A2 m c2) m (N.map sV) :=
  own_same h fun k hk => Below.heap_setCell w _ _ k fun e => by
    obtain ⟨cs, q⟩ := own_type h hk
    have e' : k = gl := e
    rw [e'] at q
    exact absurd (whole_type q hv) (by decide)
theorem AddR.store {m : Nat} {N : List Bs} {u v : Value} (h : AddR wx R m N u w7) (hw : ∃ v5, Whole w7 gl 67 (C5 v5)) : AddR wx R m N u (w7.setCell ⟨gl, 5, none⟩ v) := by
  obtain ⟨v5, hv⟩ := hw
  obtain ⟨A2, c2, h1, h2, h3⟩ := h
  exact ⟨A2, c2, h1, row_store hv h2 v, h3⟩
def AddF (wx : World) (gl : Nat) (R : Option Addr) (m : Nat) (N : List Bs) (C5 : Value → Array Value) (w : World) : Prop := ∃ A2 c2, Whole w gl 67 (C5 (.slice A2 m c2)) ∧ w.ownsRow 0 9 1 (.slice A2 m c2) m (N.map sV) ∧ ∀ a, A2 = some a → (∃ b, R = some b ∧ a.block = b.block) ∨ wx.heap.size ≤ a.block
theorem AddF.below {m : Nat} {N : List Bs} (h : AddF wx gl R m N C5 w7) (hb : Below w7.heap.size w7 w8) : AddF wx gl R m N C5 w8 := by
  obtain ⟨A2, c2, h1, h2, h3⟩ := h
  exact ⟨A2, c2, h1.below hb h1.inside, own_below h2 hb, h3⟩
theorem AddF.made {m : Nat} {N : List Bs} {A2 : Option Addr} {c2 : Nat} (h : RE wx gl R C5 w7) (ho : w7.ownsRow 0 9 1 (.slice A2 m c2) m (N.map sV)) (hA : ∀ a, A2 = some a → (∃ b, R = some b ∧ a.block = b.block) ∨ wx.heap.size ≤ a.block) : AddF wx gl R m N C5 (w7.setCell ⟨gl, 5, none⟩ (.slice A2 m c2)) := by
  obtain ⟨v5, hv⟩ := h.cells
  refine ⟨A2, c2, ?_, row_store hv ho _, hA⟩
  have := hv.store 5 (.slice A2 m c2)
  rwa [h.set] at this
/-- The append of the texts. -/
theorem add_run {d rl : Nat} {N T2 : List Bs} {a : Addr} {c' : Nat} (h : RE wx gl R C5 w7) (ho : OwnD R d rl N w7) (hrl : rl ≤ 1000000000) (hT : T2.length ≤ 1000000) (hc : ∀ j u, (T2.map sV)[j]? = some u → w7.cell? (a.add j) = some u) :
    ∃ v' w', (Builtin.append_ #[45, 45] 45 #[.slice R rl d, .slice (some a) T2.length c']).run Tryz.prog w7 = .ok v' w' ∧ RE wx gl R C5 w' ∧ AddR wx R (rl + T2.length) (N ++ T2) v' w' ∧ w7.grownBy w' (Value.slice R rl d).ownBlock := by
  obtain ⟨i0, hi, hz0, hz1, hz2⟩ := infoS_parts
  obtain ⟨v', w', hr, ho', hg, hnil, hat⟩ := run_append_own_at (P := Tryz.prog) w7 0 45 45 9 i0 (.string ByteArray.empty) 1 16 Tryz.underlying45 hi hz0 hz1 hz2 rfl (by decide) _ _ _ ho a T2.length c' (T2.map sV) (by simp) hc (fun u hu => by obtain ⟨x, -, rfl⟩ := List.mem_map.1 hu; rfl) (by unfold maxLen; omega) (by omega) (Nat.zero_le _)
  obtain ⟨A2, c2, rfl⟩ := own_shape ho'
  refine ⟨_, w', hr, h.row hg, ⟨A2, c2, rfl, by rw [List.map_append]; exact ho', fun b hb => ?_⟩, hg⟩
  rcases hat with e | e
  · rw [blk_own hb] at e
    obtain ⟨b', e1, e2⟩ := own_blk e.symm
    exact .inl ⟨b', e1, e2⟩
  · rw [blk_own hb] at e
    injection e with e
    exact .inr (by have := h.size; omega)
end
end Go.Proofs.YtfpmcomigolacaaGreatDoor.wal
