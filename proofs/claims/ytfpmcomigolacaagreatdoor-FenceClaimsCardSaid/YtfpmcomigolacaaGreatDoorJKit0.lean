/-
  DERIVED: THE SHELF's CONTRACTS AT THIS DUMP, IN PLAIN WORDS (tools/lay-plain.mjs out of 'TryzShelfX.lean', which tools/lay-shelf.mjs wrote): THE SAME DECLARATIONS UNDER THE SAME NAMES: 'import', 'namespace', 'open', 'def', 'theorem' AND NOTHING ELSE: no command of the shelf's: FOR A HAND-IN. Each laying: the table of numbers ('.._ren') and one theorem, a field a fact of the dump's own or the kernel's comparison; each contract: ONE APPLICATION.
  slices.Sorted of maps.Keys at the files of a disk; the contract of Names.
  The contract of Mend.
-/
import Derived.Shelf.SlIter.Sorted
import Derived.Shelf.SortM.Plain
import Derived.Shelf.SortM.SortNone
import Derived.Shelf.SlIter.Nil
import Derived.Ground.GgzProg
import Derived.Ground.SlgmProg
import Derived.Test.YtfpmcomigolacaaGreatDoorProg
import Derived.Test.YtfpmcomigolacaaGreatDoorJKc
import Derived.Test.YtfpmcomigolacaaGreatDoorJKv
set_option linter.unusedSimpArgs false
set_option linter.unusedVariables false
namespace Go.Proofs
open Go.Shelf
def Tryz.keys73_ren : Go.Shelf.Ren := ⟨fun | 7 => 73 | 10 => 97 | n => n, fun | 23 => 62 | 26 => 9 | 3 => 79 | 28 => 105 | 0 => 0 | 27 => 104 | 33 => 88 | 4 => 4 | n => n, fun | n => n⟩
theorem Tryz.keys73 : Go.Proofs.SlLaysZ.n7 Tryz.prog Tryz.keys73_ren := {
  mixed := by kernel_rfl
  f7 := ⟨Tryz.f73.name, by decide, Tryz.func73.trans (congrArg some (by kernel_rfl))⟩
  f10 := ⟨Tryz.f97.name, by decide, Tryz.func97.trans (congrArg some (by kernel_rfl))⟩
  t0 := Tryz.underlying0
  a0 := Tryz.isAgg0
  z0 := Tryz.sizeOf0
  v0 := Tryz.zeroValue0
  t4 := Tryz.underlying4
  a4 := Tryz.isAgg4
  z4 := Tryz.sizeOf4
  v4 := Tryz.zeroValue4
  t23 := Tryz.underlying62
  a23 := Tryz.isAgg62
  z23 := Tryz.sizeOf62
  v23 := Tryz.zeroValue62
  t26 := Tryz.underlying9
  a26 := Tryz.isAgg9
  z26 := Tryz.sizeOf9
  v26 := Tryz.zeroValue9
  t27 := Tryz.underlying104
  a27 := Tryz.isAgg104
  z27 := Tryz.sizeOf104
  v27 := Tryz.zeroValue104
  t28 := Tryz.underlying105
  a28 := Tryz.isAgg105
  z28 := Tryz.sizeOf105
  v28 := Tryz.zeroValue105
  t33 := Tryz.underlying88
  a33 := Tryz.isAgg88
  z33 := Tryz.sizeOf88
  v33 := Tryz.zeroValue88 }
def Tryz.sorted72_ren : Go.Shelf.Ren := ⟨fun | 6 => 72 | 8 => 95 | 9 => 96 | 11 => 117 | 13 => 87 | 12 => 118 | 23 => 110 | 24 => 111 | 14 => 134 | 15 => 135 | 16 => 136 | 17 => 137 | 18 => 138 | 19 => 139 | 20 => 140 | 21 => 141 | 22 => 142 | 25 => 154 | 26 => 123 | 27 => 124 | 28 => 155 | 29 => 156 | 30 => 157 | 31 => 165 | n => n, fun | 26 => 9 | 28 => 105 | 24 => 45 | 0 => 0 | 3 => 3 | 37 => 118 | 48 => 141 | 50 => 25 | 4 => 4 | 40 => 135 | 39 => 134 | 45 => 81 | 5 => 5 | 9 => 9 | 51 => 154 | 55 => 157 | 57 => 176 | 58 => 177 | 33 => 88 | n => n, fun | n => n⟩
theorem Tryz.sorted72 : Go.Proofs.SlLaysZ.n6 Tryz.prog Tryz.sorted72_ren := {
  mixed := by kernel_rfl
  f6 := ⟨Tryz.f72.name, by decide, Tryz.func72.trans (congrArg some (by kernel_rfl))⟩
  f8 := ⟨Tryz.f95.name, by decide, Tryz.func95.trans (congrArg some (by kernel_rfl))⟩
  f11 := ⟨Tryz.f117.name, by decide, Tryz.func117.trans (congrArg some (by kernel_rfl))⟩
  t0 := Tryz.underlying0
  a0 := Tryz.isAgg0
  z0 := Tryz.sizeOf0
  v0 := Tryz.zeroValue0
  t24 := Tryz.underlying45
  a24 := Tryz.isAgg45
  z24 := Tryz.sizeOf45
  v24 := Tryz.zeroValue45
  t26 := Tryz.underlying9
  a26 := Tryz.isAgg9
  z26 := Tryz.sizeOf9
  v26 := Tryz.zeroValue9
  t28 := Tryz.underlying105
  a28 := Tryz.isAgg105
  z28 := Tryz.sizeOf105
  v28 := Tryz.zeroValue105
  i26 := by kernel_rfl }
def Tryz.sort96_ren : Go.Shelf.Ren := ⟨fun | 6 => 96 | 8 => 87 | 9 => 118 | 19 => 110 | 20 => 111 | 21 => 134 | 22 => 135 | 23 => 136 | 24 => 137 | 25 => 138 | 26 => 139 | 27 => 140 | 28 => 141 | 29 => 142 | 36 => 154 | 31 => 123 | 32 => 124 | 37 => 155 | 38 => 156 | 39 => 157 | 41 => 165 | n => n, fun | 27 => 45 | 29 => 9 | 3 => 3 | 32 => 118 | 26 => 45 | 0 => 0 | 44 => 141 | 46 => 25 | 4 => 4 | 36 => 135 | 35 => 134 | 41 => 81 | 5 => 5 | 9 => 9 | 53 => 154 | 57 => 157 | 63 => 176 | 64 => 177 | n => n, fun | n => n⟩
theorem Tryz.sort96 : Go.Proofs.SlLaysM.n6 Tryz.prog Tryz.sort96_ren := {
  mixed := by kernel_rfl
  f6 := ⟨Tryz.f96.name, by decide, Tryz.func96.trans (congrArg some (by kernel_rfl))⟩
  f8 := Tryz.func87.trans (congrArg some (by kernel_rfl))
  f9 := ⟨Tryz.f118.name, by decide, Tryz.func118.trans (congrArg some (by kernel_rfl))⟩
  f19 := Tryz.func110.trans (congrArg some (by kernel_rfl))
  f20 := Tryz.func111.trans (congrArg some (by kernel_rfl))
  f21 := ⟨Tryz.f134.name, by decide, Tryz.func134.trans (congrArg some (by kernel_rfl))⟩
  f22 := ⟨Tryz.f135.name, by decide, Tryz.func135.trans (congrArg some (by kernel_rfl))⟩
  f23 := ⟨Tryz.f136.name, by decide, Tryz.func136.trans (congrArg some (by kernel_rfl))⟩
  f24 := ⟨Tryz.f137.name, by decide, Tryz.func137.trans (congrArg some (by kernel_rfl))⟩
  f25 := ⟨Tryz.f138.name, by decide, Tryz.func138.trans (congrArg some (by kernel_rfl))⟩
  f26 := ⟨Tryz.f139.name, by decide, Tryz.func139.trans (congrArg some (by kernel_rfl))⟩
  f27 := ⟨Tryz.f140.name, by decide, Tryz.func140.trans (congrArg some (by kernel_rfl))⟩
  f28 := ⟨Tryz.f141.name, by decide, Tryz.func141.trans (congrArg some (by kernel_rfl))⟩
  f29 := ⟨Tryz.f142.name, by decide, Tryz.func142.trans (congrArg some (by kernel_rfl))⟩
  f31 := Tryz.func123.trans (congrArg some (by kernel_rfl))
  f32 := Tryz.func124.trans (congrArg some (by kernel_rfl))
  f36 := ⟨Tryz.f154.name, by decide, Tryz.func154.trans (congrArg some (by kernel_rfl))⟩
  f37 := ⟨Tryz.f155.name, by decide, Tryz.func155.trans (congrArg some (by kernel_rfl))⟩
  f38 := ⟨Tryz.f156.name, by decide, Tryz.func156.trans (congrArg some (by kernel_rfl))⟩
  f39 := ⟨Tryz.f157.name, by decide, Tryz.func157.trans (congrArg some (by kernel_rfl))⟩
  f41 := ⟨Tryz.f165.name, by decide, Tryz.func165.trans (congrArg some (by kernel_rfl))⟩
  t0 := Tryz.underlying0
  a0 := Tryz.isAgg0
  z0 := Tryz.sizeOf0
  v0 := Tryz.zeroValue0
  t3 := Tryz.underlying3
  a3 := Tryz.isAgg3
  z3 := Tryz.sizeOf3
  v3 := Tryz.zeroValue3
  t4 := Tryz.underlying4
  a4 := Tryz.isAgg4
  z4 := Tryz.sizeOf4
  v4 := Tryz.zeroValue4
  t5 := Tryz.underlying5
  a5 := Tryz.isAgg5
  z5 := Tryz.sizeOf5
  v5 := Tryz.zeroValue5
  t9 := Tryz.underlying9
  a9 := Tryz.isAgg9
  z9 := Tryz.sizeOf9
  v9 := Tryz.zeroValue9
  t26 := Tryz.underlying45
  a26 := Tryz.isAgg45
  z26 := Tryz.sizeOf45
  v26 := Tryz.zeroValue45
  t27 := Tryz.underlying45
  a27 := Tryz.isAgg45
  z27 := Tryz.sizeOf45
  v27 := Tryz.zeroValue45
  t29 := Tryz.underlying9
  a29 := Tryz.isAgg9
  z29 := Tryz.sizeOf9
  v29 := Tryz.zeroValue9
  t32 := Tryz.underlying118
  a32 := Tryz.isAgg118
  z32 := Tryz.sizeOf118
  v32 := Tryz.zeroValue118
  t35 := Tryz.underlying134
  a35 := Tryz.isAgg134
  z35 := Tryz.sizeOf134
  v35 := Tryz.zeroValue134
  t36 := Tryz.underlying135
  a36 := Tryz.isAgg135
  z36 := Tryz.sizeOf135
  v36 := Tryz.zeroValue135
  t41 := Tryz.underlying81
  a41 := Tryz.isAgg81
  z41 := Tryz.sizeOf81
  v41 := Tryz.zeroValue81
  t44 := Tryz.underlying141
  a44 := Tryz.isAgg141
  z44 := Tryz.sizeOf141
  v44 := Tryz.zeroValue141
  t46 := Tryz.underlying25
  a46 := Tryz.isAgg25
  z46 := Tryz.sizeOf25
  v46 := Tryz.zeroValue25
  t53 := Tryz.underlying154
  a53 := Tryz.isAgg154
  z53 := Tryz.sizeOf154
  v53 := Tryz.zeroValue154
  t57 := Tryz.underlying157
  a57 := Tryz.isAgg157
  z57 := Tryz.sizeOf157
  v57 := Tryz.zeroValue157
  t63 := Tryz.underlying176
  a63 := Tryz.isAgg176
  z63 := Tryz.sizeOf176
  v63 := Tryz.zeroValue176
  t64 := Tryz.underlying177
  a64 := Tryz.isAgg177
  z64 := Tryz.sizeOf177
  v64 := Tryz.zeroValue177 }
end Go.Proofs
set_option linter.unusedSimpArgs false
set_option linter.unusedVariables false
namespace Go.Proofs.YtfpmcomigolacaaGreatDoor.disk
open Go.ChangeShapes Go.WideShapes Go.ChangeAt Go.RowKit Go.Maps Go.WideMaps Go.Sort Go.Shelf
open Go.Proofs.YtfpmcomigolacaaGreatDoor.words Go.Proofs.YtfpmcomigolacaaGreatDoor.opened Go.Proofs.YtfpmcomigolacaaGreatDoor.block

theorem sorts_names (m : Nat) : AnyZ.SortsIn Tryz.prog Tryz.sorted72_ren Fence.wide m :=
  ⟨fun blk off cap ss W hH hblk hsz => callsIn_wide.2 (AnyM.slices_Sort_string Tryz.sort96 blk off cap ss W hH hblk hsz),
   fun p cap W => callsIn_wide.2 (AnyM.slices_Sort_string_none Tryz.sort96 p cap W)⟩
theorem keys_any (mb : Option Nat) (W : World) : CallsIn Fence.wide 5 Tryz.prog 73 #[.map mb] W fun e w' => e = .returned (.func (.func 97) #[] #[.pointer (some ⟨W.heap.size, 0, none⟩)]) ∧ w' = W.alloc (.cells #[.map mb] 62) :=
  AnyZ.keys_in Tryz.keys73 Fence.wide 5 trivial rfl mb W
set_option maxHeartbeats 1000000 in
theorem sorted_keys {H : Type} (b nn : Nat) (D0 : DataW H) (R : Value → Option (DataW H × List MemPlace)) (w : World) (hown : w.ownsMap Tryz.prog 9 R b nn D0) (hmax : Maps.size D0 ≤ maxLen) (hbytes : Maps.size D0 * 16 ≤ 140737488355328) :
    CallsIn Fence.wide 5 Tryz.prog 72 #[.func (.func 97) #[] #[.pointer (some ⟨w.heap.size, 0, none⟩)]] (w.alloc (.cells #[.map (some b)] 62)) fun e w' => ∃ (v : Value) (ss : List (List UInt8)), e = .returned v ∧ ss.Perm (strKeys D0) ∧
      w'.ownsRow (w.alloc (.cells #[.map (some b)] 62)).heap.size 9 1 v ss.length ((ss.mergeSort (fun x y => decide (x ≤ y))).map encStr) ∧ (v = .slice none 0 0 ↔ ss = []) ∧ Below (w.alloc (.cells #[.map (some b)] 62)).heap.size (w.alloc (.cells #[.map (some b)] 62)) w' := by
  have hbl := hown.lt
  have hseq : SeqGives Fence.wide 2 Tryz.prog 97 #[.pointer (some ⟨w.heap.size, 0, none⟩)] encStr (fun ss => ss.Perm (strKeys D0)) (Maps.size D0) (w.alloc (.cells #[.map (some b)] 62)) :=
    AnyZ.keys_gives (ρ := Tryz.keys73_ren) { Tryz.keys73 with } Fence.wide _ trivial rfl (by omega) w.heap.size b nn D0 _ (by simp) (by simp) (by
      obtain ⟨es, clock, hb, Ft, hs, hD⟩ := hown
      exact ⟨es, clock, (Below.heap_alloc _ _ b hbl).trans hb, Ft, hs, hD⟩)
  exact AnyZ.sorted_in Tryz.sorted72 Fence.wide 5 trivial trivial trivial trivial rfl (by omega) (sorts_names _) (enters_of Tryz.func96 (by kernel_rfl) rfl) 97 #[.pointer (some ⟨w.heap.size, 0, none⟩)] trivial (enters_of Tryz.func97 (by kernel_rfl) rfl) _ _ hmax hbytes _ hseq
theorem sort_perm {l l' : List Bs} (h : l.Perm l') : l.mergeSort (fun x y => decide (x ≤ y)) = l'.mergeSort (fun x y => decide (x ≤ y)) := by
  have tr : ∀ a b c : Bs, decide (a ≤ b) = true → decide (b ≤ c) = true → decide (a ≤ c) = true := fun a b c h1 h2 => by simp only [decide_eq_true_eq] at *; exact List.le_trans h1 h2
  have tot : ∀ a b : Bs, (decide (a ≤ b) || decide (b ≤ a)) = true := fun a b => by simp only [Bool.or_eq_true, decide_eq_true_eq]; exact List.le_total a b
  refine List.Perm.eq_of_pairwise (le := fun a b => decide (a ≤ b) = true) (fun a b _ _ h1 h2 => ?_) (List.pairwise_mergeSort tr tot l) (List.pairwise_mergeSort tr tot l') (((List.mergeSort_perm l _).trans h).trans (List.mergeSort_perm l' _).symm)
  simp only [decide_eq_true_eq] at h1 h2
  exact List.le_antisymm h1 h2
set_option maxHeartbeats 1000000 in
theorem names_any {g mb : Nat} {D : Dk} {E : List Fe} (G : GoodD D) (hF : D.F.length ≤ 1000) (w : World) (h : DiskE w g mb D E) :
    Calls Tryz.prog 42 #[.pointer (some ⟨g, 0, none⟩)] w fun e w' => ∃ A c, e = .returned (.slice A (D.F.map Fl.n).length c) ∧ OwnS w' w.heap.size (.slice A (D.F.map Fl.n).length c) (D.F.map Fl.n) ∧ Below w.heap.size w w' := by
  have c0 : w.cell? ⟨g, 0, none⟩ = some (.map (some mb)) := h.cells.read 0
  have f0 : w.frozen? ⟨g, 0, none⟩ = false := h.cells.soft 0
  have hl := h.len
  obtain ⟨es, hp, ho⟩ := h.own
  have hsz : Maps.size (DataW.map es) = E.length := by
    show es.length = _
    rw [hp.length_eq, List.length_map]
  have hkeys : (strKeys (DataW.map es)).Perm (D.F.map Fl.n) := by
    show (es.map fun p => strOf p.1).Perm _
    refine (hp.map _).trans (List.Perm.of_eq ?_)
    rw [List.map_map, ← h.fs, List.map_map]
    rfl
  have hsrt := Lib.hid (names_sorted G.srt)
  have hK := Lib.hid hkeys
  have C := Lib.hid (sorted_keys mb E.length (DataW.map es) fileR w ho (by rw [hsz]; unfold maxLen; omega) (by rw [hsz]; omega))
  clear h hp ho hsz hkeys hl
  generalize D.F.map Fl.n = N at hsrt hK ⊢
  refine (callsIn_wide (n := 6)).1 ?_
  have hfK : Fence.wide.fn 73 := trivial
  have hfS : Fence.wide.fn 72 := trivial
  refine callsIn_of_wp Tryz.func42 rfl trivial ?_ rfl
  simp only [Tryz.ntmps42, List.size_toArray, List.length_cons, List.length_nil, Nat.reduceAdd, Nat.reduceSub, Array.replicate_succ, Array.replicate_zero, List.push_toArray, List.append_toArray, List.nil_append, List.cons_append]
  gi_wp2_with (first
    | (gi_at_call 73; refine (keys_any _ _).mono ?_; rintro e w' ⟨rfl, rfl⟩)
    | (gi_at_call 72; refine C.out.mono ?_; rintro e w' ⟨v, ss, rfl, hS, hrow, hnil, hb⟩))
  go_ret
  have e1 : ss.mergeSort (fun x y => decide (x ≤ y)) = N := (sort_perm (hS.trans hK.out)).trans hsrt.out
  have e2 : ss.length = N.length := (hS.trans hK.out).length_eq
  rw [e1, e2] at hrow
  have hrow' : OwnS w' w.heap.size v N := ownsRow_base_a hrow (by simp)
  obtain ⟨A, c, hv⟩ : ∃ A c, v = .slice A N.length c := by
    rcases hrow'.2 with ⟨hv, hn⟩ | ⟨g, cap, cur, hv, -⟩
    · exact ⟨none, 0, by rw [hv, hn]⟩
    · exact ⟨_, _, hv⟩
  subst hv
  exact ⟨A, c, rfl, hrow', ((Below.refl _ w).alloc (Nat.le_refl _) _).trans (hb.mono (by simp))⟩
end Go.Proofs.YtfpmcomigolacaaGreatDoor.disk
set_option linter.unusedSimpArgs false
set_option linter.unusedVariables false
namespace Go.Proofs.YtfpmcomigolacaaGreatDoor.disk
open Go.ChangeShapes Go.WideShapes Go.ChangeAt Go.RowKit Go.Maps Go.WideMaps
open Go.Proofs.YtfpmcomigolacaaGreatDoor.words Go.Proofs.YtfpmcomigolacaaGreatDoor.opened Go.Proofs.YtfpmcomigolacaaGreatDoor.block

theorem slice_to (A : Option Addr) (len c n : Nat) (hn : n ≤ c) (W : World) : (Instr.slice 77 (.slice A len c) none (some (.int .i64 (n : Int))) none).run Tryz.prog W = .ok (.slice A n c) W := by
  go_simp
theorem midL_len (keep : List Int) (k : Nat) (F : List Fl) : (midL keep k F).length ≤ F.length := by
  unfold midL
  have h1 : (mendL keep 0 (F.take k)).length ≤ (F.take k).length := by
    have := (mend_names keep (F.take k) 0).length_le
    simpa using this
  rw [List.length_append, List.length_drop]
  rw [List.length_take] at h1
  omega
theorem lies_turn {w w' : World} {A : Option Addr} {xs : List Value} {S : Nat → Prop} (h : Lies w A xs) (ht : Turn w w' S) (hs : ∀ a, A = some a → ¬ S a.block) : Lies w' A xs := by
  rcases h with h | ⟨b, off, hA, hb, hc⟩
  · exact .inl h
  · have hbb := ht.block b hb (hs _ hA)
    exact .inr ⟨b, off, hA, Nat.lt_of_lt_of_le hb ht.size, fun i x hx => (World.cell?_of_block (w := w) (w' := w') (a := ⟨b, off + i, none⟩) hbb).trans (hc i x hx)⟩
theorem lies_at {w : World} {A : Option Addr} {xs : List Value} (h : Lies w A xs) {k : Nat} {x : Value} (hk : xs[k]? = some x) : ∃ b off, A = some ⟨b, off, none⟩ ∧ b < w.heap.size ∧ w.cell? ⟨b, off + k, none⟩ = some x := by
  rcases h with h | ⟨b, off, hA, hb, hc⟩
  · rw [h] at hk
    simp at hk
  · exact ⟨b, off, hA, hb, hc k x hk⟩
theorem mend_round {wr : World} {S : Nat → Prop} {g : Nat} {D : Dk} (G : GoodD D) (hF : D.F.length ≤ 1000) {keep : List Int} {k : Nat} {f : Fl} (hf : D.F[k]? = some f) (h : DiskP wr S g ⟨midL keep k D.F, D.off, D.left⟩) :
    ∃ (mb : Nat) (A : Option Addr) (c : Nat), f.b.length ≤ c ∧ (∀ w1, Below wr.heap.size wr w1 → w1.cell? ⟨g, 0, none⟩ = some (.map (some mb)) ∧ w1.frozen? ⟨g, 0, none⟩ = false ∧ (Instr.lookup 62 (.map (some mb)) (sV f.n) false).run Tryz.prog w1 = .ok (.agg #[.slice A f.b.length c, .int .i64 (f.l : Int)]) w1) ∧
      (leftN keep k f = 0 → ∀ w1, Below wr.heap.size wr w1 → ∃ w2, (Builtin.delete_ #[62, 9] 0 #[.map (some mb), sV f.n]).run Tryz.prog w1 = .ok (.tuple #[]) w2 ∧ Hid (DiskP w2 S g ⟨midL keep (k + 1) D.F, D.off, D.left⟩ ∧ Turn wr w2 S)) ∧
      (leftN keep k f ≠ 0 → ∀ w1, Below wr.heap.size wr w1 → ∃ w2, (Instr.mapUpdate 62 (.map (some mb)) (sV f.n) (.agg #[.slice A (leftN keep k f) c, .int .i64 (leftN keep k f : Int)])).run Tryz.prog w1 = .ok () w2 ∧ Hid (DiskP w2 S g ⟨midL keep (k + 1) D.F, D.off, D.left⟩ ∧ Turn wr w2 S)) := by
  obtain ⟨mb, E, hE, hS⟩ := h
  have hn : f.n.length ≤ 100000 := by
    have := G.names f (List.mem_of_getElem? hf)
    unfold nameB at this
    simp at this
    omega
  have hlk := mid_lk (keep := keep) G.srt hf
  have hob : oldB (midL keep k D.F) f.n = f.b := by unfold oldB; rw [hlk]; rfl
  have hol : oldL (midL keep k D.F) f.n = f.l := by unfold oldL; rw [hlk]; rfl
  have hef : (lookE E f.n).f = f := by rw [look_f, hE.fs]; show (⟨f.n, oldB (midL keep k D.F) f.n, oldL (midL keep k D.F) f.n⟩ : Fl) = f; rw [hob, hol]
  have hlen : E.length ≤ 1000 := by
    rw [hE.len]
    exact Nat.le_trans (midL_len keep k D.F) hF
  have hrow := hE.look_row f.n
  have hcap := hrow.cap
  rw [hef] at hcap
  have hfl := G.lasts f (List.mem_of_getElem? hf)
  refine ⟨mb, (lookE E f.n).A, (lookE E f.n).c, hcap.1, fun w1 b => ?_, fun h0 w1 b => ?_, fun h0 w1 b => ?_⟩
  · have h1 := hE.below b
    refine ⟨h1.cells.read 0, h1.cells.soft 0, ?_⟩
    have := look_run h1.own h1.ok hn
    rw [this]
    show Result.ok (Value.agg #[.slice (lookE E f.n).A (lookE E f.n).f.b.length (lookE E f.n).c, .int .i64 ((lookE E f.n).f.l : Int)]) w1 = _
    rw [hef]
  · have h1 := hE.below b
    obtain ⟨w2, hrun, ho, hg, -⟩ := del_run h1.own hn 0
    refine ⟨w2, hrun, Lib.hid ⟨⟨mb, delE f.n E, ?_, fun k hk => hS k (blk_del hk)⟩, (turn_below b S).trans (turn_grown hg (S := S) fun k e => by cases e; exact hS mb (.inr (.inl rfl))) fun j hj => .inl hj⟩⟩
    have := h1.del ho hg
    have e : del f.n (midL keep k D.F) = midL keep (k + 1) D.F := mid_del G.srt hf h0
    rw [← e]
    exact this
  · have h1 := hE.below b
    have hle := leftN_hi keep k hfl
    have hv : (mendF keep k f).b.length = leftN keep k f := by unfold mendF; simp; omega
    obtain ⟨w2, hrun, ho, hg, -⟩ := put_run h1.own (by omega) (e := ⟨mendF keep k f, (lookE E f.n).A, (lookE E f.n).c⟩) (look_ok h1.ok f.n) hn
    have hrun' : (Instr.mapUpdate 62 (.map (some mb)) (sV f.n) (.agg #[.slice (lookE E f.n).A (mendF keep k f).b.length (lookE E f.n).c, .int .i64 ((mendF keep k f).l : Int)])).run Tryz.prog w1 = .ok () w2 := hrun
    rw [hv] at hrun'
    refine ⟨w2, hrun', Lib.hid ?_⟩
    have hr2 : RowE wr ⟨mendF keep k f, (lookE E f.n).A, (lookE E f.n).c⟩ := by
      unfold RowE Fe.row at hrow ⊢
      rw [hef] at hrow
      dsimp only at hrow ⊢
      refine ⟨⟨by rw [bsC_len, Nat.mul_one], ?_⟩, fun e0 => absurd (by rw [e0] at hv; exact hv.symm) h0⟩
      rcases hrow.1.2 with ⟨hv1, hn1⟩ | ⟨g', cap, cur, hv1, hb1, hh, h3, h4, h5, h6⟩
      · injection hv1 with e1 e2 e3
        have e0 : leftN keep k f = 0 := by omega
        exact absurd e0 h0
      · injection hv1 with e1 e2 e3
        refine .inr ⟨g', cap, cur, by rw [e1, e3], hb1, hh, by rw [hv]; omega, h4, h5, ?_⟩
        rw [hv]
        have h7 : cur.toList.take (leftN keep k f * 1) = (cur.toList.take (f.b.length * 1)).take (leftN keep k f) := by rw [Nat.mul_one, Nat.mul_one, List.take_take, Nat.min_eq_left (by omega)]
        rw [h7, h6]
        unfold bsC mendF
        rw [List.map_take]
    obtain ⟨p1, p2⟩ := put_back hE hS b hr2 (hE.look_apart f.n) (hE.look_far f.n) ho hg
    refine ⟨?_, p2⟩
    have e : put (mendF keep k f) (midL keep k D.F) = midL keep (k + 1) D.F := mid_put G.srt hf h0
    rw [← e]
    exact p1
set_option maxRecDepth 100000 in
set_option maxHeartbeats 4000000 in
theorem mend_any {S : Nat → Prop} {g : Nat} {D : Dk} (G : GoodD D) (hF : D.F.length ≤ 1000) (K : Option Addr) (kc : Nat) (keep : List Int) (hk : ∀ x ∈ keep, x ≤ 9223372036854775807) (hkl : keep.length ≤ 100000) (w : World) (h : DiskP w S g D) (hK : Lies w K (keep.map (Value.int .i64))) (hKS : ∀ a, K = some a → ¬ S a.block) :
    Calls Tryz.prog 15 #[.pointer (some ⟨g, 0, none⟩), .slice K keep.length kc] w fun e w' => e = .returned (.tuple #[]) ∧ DiskP w' (More w S) g (mendV D keep) ∧ Turn w w' S := by
  -- the disk's blocks lie in S, and below the new ones
  have h0 : DiskP w (fun k => S k ∧ k < w.heap.size) g D := by
    obtain ⟨mb, E, h1, h2⟩ := h
    exact ⟨mb, E, h1, fun k hk => ⟨h2 k hk, h1.inside hk⟩⟩
  have HN0 : Hid (Calls Tryz.prog 42 #[.pointer (some ⟨g, 0, none⟩)] w fun e w' => ∃ A c, e = .returned (.slice A (D.F.map Fl.n).length c) ∧ OwnS w' w.heap.size (.slice A (D.F.map Fl.n).length c) (D.F.map Fl.n) ∧ Below w.heap.size w w') := Lib.hid (by
    obtain ⟨mb, E, h1, -⟩ := h
    exact names_any G hF w h1)
  have KS := Lib.hid hKS
  have HK := Lib.hid hK
  have HP := Lib.hid h0
  have hKK : ∀ k, keepK keep k ≤ 9223372036854775807 := fun k => by
    unfold keepK
    cases hx : keep[k]? with
    | none => simp
    | some x => exact hk x (List.mem_of_getElem? hx)
  have hlF : (D.F.map Fl.n).length = D.F.length := List.length_map ..
  have HEND : Hid (∀ wr : World, DiskP wr (fun k => S k ∧ k < w.heap.size) g ⟨mendL keep 0 D.F, D.off, D.left⟩ → Turn w wr (fun k => S k ∧ k < w.heap.size) → wr.cell? ⟨g, 1, none⟩ = some (.bool D.off) ∧ wr.frozen? ⟨g, 1, none⟩ = false ∧ wr.cell? ⟨g, 2, none⟩ = some (.int .i64 D.left) ∧ wr.frozen? ⟨g, 2, none⟩ = false ∧
      Hid (DiskP ((wr.setCell ⟨g, 1, none⟩ (.bool false)).setCell ⟨g, 2, none⟩ (.int .i64 (-1))) (More w S) g (mendV D keep) ∧ Turn w ((wr.setCell ⟨g, 1, none⟩ (.bool false)).setCell ⟨g, 2, none⟩ (.int .i64 (-1))) S)) := Lib.hid (fun wr ⟨mb, E, e1, e2⟩ ht => by
    refine ⟨e1.cells.read 1, e1.cells.soft 1, e1.cells.read 2, e1.cells.soft 2, Lib.hid ?_⟩
    have hg0 : wr.grownBy wr (some g) := ⟨rfl, rfl, rfl, Nat.le_refl _, fun _ _ _ => rfl⟩
    have hg1 := only_store (i := 1) hg0 (.bool false)
    have hg2 := only_store (i := 2) hg1 (.int .i64 (-1))
    have hc := (e1.cells.store 1 (.bool false)).store 2 (.int .i64 (-1))
    refine ⟨⟨mb, E, e1.write ⟨mendL keep 0 D.F, false, -1⟩ rfl (by simpa using hc) hg2, fun k hk => .inl (e2 k hk).1⟩, ?_⟩
    exact (ht.wide (Q := S) fun k hk => hk.1).trans (turn_grown hg2 (S := S) fun k e => by cases e; exact (e2 g (.inl rfl)).1) fun j hj => .inl hj)
  clear hk hK hKS h h0
  obtain ⟨N, hN⟩ : ∃ N, N = D.F.length := ⟨_, rfl⟩
  rw [hlF, ← hN] at HN0
  have hNl : N ≤ 1000 := by omega
  have HNN := Lib.hid hN
  clear hN hlF
  go_enter Tryz.func15, Tryz.ntmps15
  go_wp2_with (go_at_call 42; refine HN0.out.mono ?_; rintro e w1 ⟨NA, nc, rfl, o1, b1⟩; have O1 := Lib.hid o1; have B1 := Lib.hid b1; clear o1 b1)
  have NS : Hid (∀ a, NA = some a → ¬ (S a.block ∧ a.block < w.heap.size)) := Lib.hid (fun a ha hh => by
    have := World.ownsRow.lt O1.out a.block (by rw [ha]; rfl)
    omega)
  have L1 : Hid (Lies w1 NA ((D.F.map Fl.n).map sV)) := Lib.hid (OwnS.lies O1.out)
  have P1 := Lib.hid (HP.out.below B1.out)
  have T1 := Lib.hid (turn_below B1.out (fun k => S k ∧ k < w.heap.size))
  clear O1
  go_loopw [4, 5, 6, 7, 8, 12] (fun _ _ _ _ _ i wr => ∃ k : Nat, k ≤ N ∧ i = .int .i64 (k : Int) ∧ Hid (DiskP wr (fun k => S k ∧ k < w.heap.size) g ⟨midL keep k D.F, D.off, D.left⟩) ∧ Hid (Turn w wr (fun k => S k ∧ k < w.heap.size)) ∧ Hid (Lies wr NA ((D.F.map Fl.n).map sV))) (fun _ _ _ _ _ i _ => N - (intOf i).toNat)
  case atStart => exact ⟨0, Nat.zero_le _, rfl, by rw [mid_zero]; exact P1, T1, L1⟩
  case round =>
    obtain ⟨k, hkN, rfl, HD, HT, HN⟩ := hrel
    by_cases hlt : k < N
    · obtain ⟨f, hf⟩ : ∃ f, D.F[k]? = some f := ⟨_, List.getElem?_eq_getElem (by have := HNN.out; omega)⟩
      obtain ⟨nb, no, hNA, hnb, ncell⟩ := lies_at HN.out (k := k) (x := sV f.n) (by rw [List.getElem?_map, List.getElem?_map, hf]; rfl)
      subst hNA
      have hfm := List.mem_of_getElem? hf
      have hfl := G.lasts f hfm
      have hfb := G.len hfm
      obtain ⟨mb, A, c, hcl, H1, H2, H3⟩ := mend_round G hF hf HD.out
      have h1 := Lib.hid H1
      have h2 := Lib.hid H2
      have h3 := Lib.hid H3
      obtain ⟨k0, k1, hlk⟩ := H1 wr (Below.refl _ _)
      clear H1 H2 H3
      have hS1 := Lib.hid (fun W => survives_any keep k f A c hfl hfb (hKK k) W)
      have B2 := Lib.hid (fresh1' wr (.cells #[.slice A f.b.length c, .int .i64 (f.l : Int)] 79))
      have OZ := Lib.hid (Whole.fresh wr 79 #[.slice A f.b.length c, .int .i64 (f.l : Int)])
      have HLN := Lib.hid (leftN_hi keep k hfl)
      by_cases hkk : k < keep.length
      · obtain ⟨x, hx⟩ : ∃ x, keep[k]? = some x := ⟨_, List.getElem?_eq_getElem hkk⟩
        have hxk : keepK keep k = x := by unfold keepK; rw [hx]; rfl
        obtain ⟨kb, ko, hKA, hkb, kcell⟩ := lies_at (lies_turn HK.out HT.out (fun a ha hh => KS.out a ha hh.1)) (k := k) (x := .int .i64 x) (by rw [List.getElem?_map, hx]; rfl)
        subst hKA
        rw [hxk] at hS1
        clear hx hxk hf hfm
        generalize hln : leftN keep k f = ln at h2 h3 hS1 HLN
        clear hln
        go_upto_region 7 with fail
        change Code.wp _ _ _ _ (wr.alloc (.cells #[.slice A f.b.length c, .int .i64 (f.l : Int)] 79))
        clear k0 k1 hlk
        generalize wr.alloc (.cells #[.slice A f.b.length c, .int .i64 (f.l : Int)] 79) = W2 at B2 OZ ⊢
        generalize wr.heap.size = gz at OZ ⊢
        have hln0 := HLN.out
        by_cases hz : ln = 0
        · subst hz
          go_upto_region 9 with (first | (refine get rfl 79 (.tmp 7) rfl rfl OZ.out Tryz.underlying79 rfl info59 ?_) | (go_at_call 43; refine (hS1.out _).mono ?_; rintro e w3 ⟨rfl, b3⟩; have B3 := Lib.hid (then_below B2.out b3); have OZ3 := Lib.hid (OZ.out.below b3 OZ.out.inside); clear b3))
          obtain ⟨k0, k1, -⟩ := h1.out w3 B3.out
          obtain ⟨w4, hdel, HD4⟩ := h2.out (by trivial) w3 B3.out
          go_wp2_with fail
          go_roundw
          case rel => exact ⟨k + 1, by omega, by go_num, Lib.hid HD4.out.1, Lib.hid (HT.out.trans HD4.out.2 fun j hj => .inl hj), Lib.hid (lies_turn HN.out HD4.out.2 NS.out)⟩
          case measure => simp [intOf]; omega
        · have hz' : ((ln : Int) == 0) = false := by simpa using hz
          have hsl := fun W => slice_to A f.b.length c ln (by omega) W
          go_upto_region 10 with (first | (refine get rfl 79 (.tmp 7) rfl rfl OZ.out Tryz.underlying79 rfl info59 ?_) | (go_at_call 43; refine (hS1.out _).mono ?_; rintro e w3 ⟨rfl, b3⟩; have B3 := Lib.hid (then_below B2.out b3); have OZ3 := Lib.hid (OZ.out.below b3 OZ.out.inside); clear b3))
          obtain ⟨k0, k1, -⟩ := h1.out w3.drew B3.out.drew
          obtain ⟨w4, hput, HD4⟩ := h3.out hz w3.drew B3.out.drew
          have z0 : w3.drew.cell? ⟨gz, 0, none⟩ = some (.slice A f.b.length c) := OZ3.out.read 0
          clear hz
          go_region
          go_wp2_with fail
          go_roundw
          case rel => exact ⟨k + 1, by omega, by go_num, Lib.hid HD4.out.1, Lib.hid (HT.out.trans HD4.out.2 fun j hj => .inl hj), Lib.hid (lies_turn HN.out HD4.out.2 NS.out)⟩
          case measure => simp [intOf]; omega
      · have hxk : keepK keep k = 0 := by unfold keepK; rw [List.getElem?_eq_none (by omega)]; rfl
        rw [hxk] at hS1
        clear hxk hf hfm
        generalize hln : leftN keep k f = ln at h2 h3 hS1 HLN
        clear hln
        go_upto_region 7 with fail
        change Code.wp _ _ _ _ (wr.alloc (.cells #[.slice A f.b.length c, .int .i64 (f.l : Int)] 79))
        clear k0 k1 hlk
        generalize wr.alloc (.cells #[.slice A f.b.length c, .int .i64 (f.l : Int)] 79) = W2 at B2 OZ ⊢
        generalize wr.heap.size = gz at OZ ⊢
        have hln0 := HLN.out
        by_cases hz : ln = 0
        · subst hz
          go_upto_region 9 with (first | (refine get rfl 79 (.tmp 7) rfl rfl OZ.out Tryz.underlying79 rfl info59 ?_) | (go_at_call 43; refine (hS1.out _).mono ?_; rintro e w3 ⟨rfl, b3⟩; have B3 := Lib.hid (then_below B2.out b3); have OZ3 := Lib.hid (OZ.out.below b3 OZ.out.inside); clear b3))
          obtain ⟨k0, k1, -⟩ := h1.out w3 B3.out
          obtain ⟨w4, hdel, HD4⟩ := h2.out (by trivial) w3 B3.out
          go_wp2_with fail
          go_roundw
          case rel => exact ⟨k + 1, by omega, by go_num, Lib.hid HD4.out.1, Lib.hid (HT.out.trans HD4.out.2 fun j hj => .inl hj), Lib.hid (lies_turn HN.out HD4.out.2 NS.out)⟩
          case measure => simp [intOf]; omega
        · have hz' : ((ln : Int) == 0) = false := by simpa using hz
          have hsl := fun W => slice_to A f.b.length c ln (by omega) W
          go_upto_region 10 with (first | (refine get rfl 79 (.tmp 7) rfl rfl OZ.out Tryz.underlying79 rfl info59 ?_) | (go_at_call 43; refine (hS1.out _).mono ?_; rintro e w3 ⟨rfl, b3⟩; have B3 := Lib.hid (then_below B2.out b3); have OZ3 := Lib.hid (OZ.out.below b3 OZ.out.inside); clear b3))
          obtain ⟨k0, k1, -⟩ := h1.out w3.drew B3.out.drew
          obtain ⟨w4, hput, HD4⟩ := h3.out hz w3.drew B3.out.drew
          have z0 : w3.drew.cell? ⟨gz, 0, none⟩ = some (.slice A f.b.length c) := OZ3.out.read 0
          clear hz
          go_region
          go_wp2_with fail
          go_roundw
          case rel => exact ⟨k + 1, by omega, by go_num, Lib.hid HD4.out.1, Lib.hid (HT.out.trans HD4.out.2 fun j hj => .inl hj), Lib.hid (lies_turn HN.out HD4.out.2 NS.out)⟩
          case measure => simp [intOf]; omega
    · obtain rfl : k = N := by omega
      have HM : Hid (DiskP wr (fun k => S k ∧ k < w.heap.size) g ⟨mendL keep 0 D.F, D.off, D.left⟩) := Lib.hid (by
        have := HD.out
        rw [HNN.out, mid_all] at this
        exact this)
      obtain ⟨c1, f1, c2, f2, HX⟩ := HEND.out wr HM.out HT.out
      clear HEND HM HD HN HK HP HN0 L1 P1 T1 hKK
      generalize D.off = o at c1
      generalize D.left = lf at c2
      go_wp2_with fail
      go_end0
      exact ⟨rfl, HX.out⟩
end Go.Proofs.YtfpmcomigolacaaGreatDoor.disk
