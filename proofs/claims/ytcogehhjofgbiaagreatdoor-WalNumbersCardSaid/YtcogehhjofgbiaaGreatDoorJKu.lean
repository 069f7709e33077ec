/-
  A range over the files of a disk; the contract of used.
  slices.Sorted of maps.Keys at the files of a disk; the contract of Names.
-/
import Derived.Test.YtcogehhjofgbiaaGreatDoorJRt3
import Derived.Deep.DeepCutAuto
import Derived.Test.YtcogehhjofgbiaaGreatDoorJKit0
set_option linter.unusedSimpArgs false
set_option linter.unusedVariables false
namespace Go.Proofs.YtcogehhjofgbiaaGreatDoor.disk
open Go.ChangeShapes Go.WideShapes Go.ChangeAt Go.RowKit Go.Maps Go.WideMaps
open Go.Proofs.YtcogehhjofgbiaaGreatDoor.words Go.Proofs.YtcogehhjofgbiaaGreatDoor.opened Go.Proofs.YtcogehhjofgbiaaGreatDoor.block

theorem key_file {es : List (Lit × DataW Nat)} {E : List Fe} (hp : es.Perm (E.map pE)) {kl : Lit} (h : Maps.has (.map es) kl = true) : ∃ e ∈ E, kl = kN e.f.n := by
  rw [has_eq] at h
  obtain ⟨q, hq, hs⟩ := List.any_eq_true.1 h
  obtain ⟨e, he, h2⟩ := List.mem_map.1 (hp.mem_iff.1 hq)
  refine ⟨e, he, ?_⟩
  rw [← WideAt.sameKey_eq hs, ← h2]
  rfl
theorem look_mem {E : List Fe} (h : E.Pairwise fun x y => x.f.n ≠ y.f.n) {e : Fe} (he : e ∈ E) : lookE E e.f.n = e := by
  unfold lookE
  have : lkE E e.f.n = some e := by
    unfold lkE
    induction E with
    | nil => cases he
    | cons x r ih =>
      obtain ⟨h1, h2⟩ := List.pairwise_cons.1 h
      rw [List.find?_cons]
      rcases List.mem_cons.1 he with rfl | he
      · rw [decide_eq_true rfl]
      · rw [decide_eq_false (h1 e he)]
        exact ih h2 he
  rw [this]
  rfl
/-- The step over the files: nothing is left, or a file that has not come yet. -/
theorem next_files {w : World} {ops : Array Oper} {rest : List Oper} {o : Oper} {a : Act} {Q : Exit → Act → World → Prop} (hg : o.guard = none) (it : Operand) (hop : o.op = Op.next it false)
    (b r n : Nat) {es : List (Lit × DataW Nat)} {E : List Fe} (hp : es.Perm (E.map pE)) (ha : es.Pairwise (fun p q => p.1 ≠ q.1)) (hk : ∀ e ∈ E, e.Ok) (left : Lit → Bool) (cnt : Nat)
    (hit : a.eval it = .pointer (some ⟨r, 0, none⟩)) (h : w.ranges Tryz.prog 9 fileR b r n (.map es) left cnt)
    (hDone : cnt = 0 → (∀ kl, left kl = false) → wpList Tryz.prog ops Q rest (a.put o.dst (.tuple #[.bool false])) w)
    (hMore : ∀ (e : Fe), e ∈ E → left (kN e.f.n) = true → ∀ (w' : World) (cnt' : Nat), w'.ranges Tryz.prog 9 fileR b r n (.map es) (fun z => left z && !z.sameKey (kN e.f.n)) cnt' → cnt' < cnt →
      w.grownBy w' (some r) → w'.heap.size = w.heap.size → (Instr.entry (.pointer (some ⟨r, 0, none⟩))).run Tryz.prog w' = .ok (.tuple #[sV e.f.n, e.val]) w' → wpList Tryz.prog ops Q rest (a.put o.dst (.tuple #[.bool true, sV e.f.n, e.val])) w') :
    wpList Tryz.prog ops Q (o :: rest) a w := by
  refine wpList_plain hg fun K' hK' => ?_
  unfold Oper.wp
  rcases h.next keyS o.type with ⟨h0, hl, hrun⟩ | ⟨key, v, kl, y, w', cnt', hkey, hlk, hv, hat, hrun, hrg, hlt, hgr, hsz, hen⟩
  · simp [execOp, hop, hit, hrun, Result.andThen]
    exact hK' _ _ (hDone h0 hl)
  · obtain ⟨e, he, rfl⟩ := key_file hp (Maps.has_true_of_atKey hat)
    obtain ⟨s, rfl, hs, -⟩ := string_of_keyOf Tryz.underlying9 hkey
    obtain rfl : s = ⟨e.f.n.toArray⟩ := by
      have := kN_inj (n := s.data.toList) hs
      rw [this]
    have ed : y.1 = dE e := by
      have := atF hp ha e.f.n
      rw [hat, look_mem (names_apart hp ha) he] at this
      exact this
    have ev : v = e.val := fileR_inv (ps := y.2) (hk e he) (by rw [hv, ← ed])
    subst ev
    simp [execOp, hop, hit, hrun, Result.andThen]
    exact hK' _ _ (hMore e he hlk w' cnt' hrg hlt hgr hsz hen)

/-- How many bytes the files have that are still to come. -/
def restU (E : List Fe) (left : Lit → Bool) : Nat := used ((E.filter fun e => left (kN e.f.n)).map Fe.f)
theorem rest_end {E : List Fe} {left : Lit → Bool} (h : ∀ kl, left kl = false) : restU E left = 0 := by
  unfold restU
  rw [List.filter_eq_nil_iff.2 fun x _ => by rw [h]; simp]
  rfl
theorem rest_start {es : List (Lit × DataW Nat)} {E : List Fe} (hp : es.Perm (E.map pE)) : restU E (Maps.has (.map es)) = used (E.map Fe.f) := by
  unfold restU
  rw [List.filter_eq_self.2 fun x hx => ?_]
  rw [has_eq]
  exact List.any_eq_true.2 ⟨pE x, hp.mem_iff.2 (List.mem_map.2 ⟨x, hx, rfl⟩), WideAt.sameKey_self (isKN _)⟩
theorem strike_other {m n : Bs} (h : m ≠ n) (left : Lit → Bool) : (left (kN m) && !(kN m).sameKey (kN n)) = left (kN m) := by
  rw [Maps.sameKey_ne (fun e => h (kN_inj e))]
  simp
theorem strike_same (n : Bs) (left : Lit → Bool) : (left (kN n) && !(kN n).sameKey (kN n)) = false := by
  rw [WideAt.sameKey_self (isKN n)]
  simp
theorem filter_step : ∀ {E : List Fe} {e : Fe} {left : Lit → Bool}, E.Pairwise (fun x y => x.f.n ≠ y.f.n) → e ∈ E → left (kN e.f.n) = true →
    (E.filter fun x => left (kN x.f.n)).Perm (e :: E.filter fun x => left (kN x.f.n) && !(kN x.f.n).sameKey (kN e.f.n))
  | x :: r, e, left, h, he, hl => by
    obtain ⟨h1, h2⟩ := List.pairwise_cons.1 h
    rcases List.mem_cons.1 he with rfl | he
    · rw [List.filter_cons, List.filter_cons, strike_same, hl]
      simp only [if_true, Bool.false_eq_true, if_false]
      refine List.Perm.cons _ (List.Perm.of_eq (List.filter_congr fun y hy => ?_))
      rw [strike_other (h1 y hy).symm]
    · have ih := filter_step h2 he hl
      have hne := h1 e he
      rw [List.filter_cons, List.filter_cons, strike_other hne]
      by_cases hx : left (kN x.f.n) = true
      · rw [hx]
        simp only [if_true]
        exact (ih.cons x).trans (List.Perm.swap _ _ _)
      · have hx' : left (kN x.f.n) = false := by simpa using hx
        rw [hx']
        simp only [Bool.false_eq_true, if_false]
        exact ih
theorem rest_step {E : List Fe} {e : Fe} {left : Lit → Bool} (h : E.Pairwise (fun x y => x.f.n ≠ y.f.n)) (he : e ∈ E) (hl : left (kN e.f.n) = true) : restU E left = e.f.b.length + restU E (fun z => left z && !z.sameKey (kN e.f.n)) := by
  unfold restU
  rw [used_perm ((filter_step h he hl).map Fe.f)]
  rfl
theorem fresh1' (w : World) (o : Obj) : Below w.heap.size w (w.alloc o) := (Below.refl _ _).alloc (Nat.le_refl _) _
set_option maxRecDepth 100000 in
theorem used_any {g mb : Nat} {D : Dk} {E : List Fe} (hu : used D.F ≤ 262144) (w : World) (h : DiskE w g mb D E) :
    Calls Tryz.prog 94 #[.pointer (some ⟨g, 0, none⟩)] w fun e w' => e = .returned (.int .i64 (used D.F : Int)) ∧ Below w.heap.size w w' := by
  obtain ⟨es, hp, ho⟩ := h.own
  have hok := Lib.hid h.ok
  have ha := Lib.hid (keysF_apart ho)
  have hP := Lib.hid hp
  have hAp := Lib.hid (names_apart hp (keysF_apart ho))
  have hst : Hid (restU E (Maps.has (.map es)) = used D.F) := Lib.hid (by rw [rest_start hp, h.fs])
  have c0 : w.cell? ⟨g, 0, none⟩ = some (.map (some mb)) := h.cells.read 0
  have f0 : w.frozen? ⟨g, 0, none⟩ = false := h.cells.soft 0
  have hU := hu
  generalize used D.F = U at hst hU hu ⊢
  clear h hp
  go_enter Tryz.func94, Tryz.ntmps94
  go_wp2_with (first | (at_range; refine wpList_range_own _ rfl _ 63 rfl 9 80 keyS Tryz.underlying63 _ mb E.length _ rfl ho ?_; intro w0 hrg0 hg0 hs0) | go_in)
  go_frame
  clear c0 f0 ho
  go_loopw [3, 5] (fun v _ wr => ∃ (t : Nat) (left : Lit → Bool) (cnt : Nat), v = .int .i64 (t : Int) ∧ wr.ranges Tryz.prog 9 fileR mb w.heap.size E.length (.map es) left cnt ∧ Hid (t + restU E left = U) ∧ Below w.heap.size w wr ∧ w.heap.size + 1 ≤ wr.heap.size) (fun _ _ wr => wr.rangeLeft mb w.heap.size)
  case atStart => exact ⟨0, _, _, rfl, hrg0, Lib.hid (by rw [hst.out]; omega), ⟨hg0.os, hg0.tape, hg0.output, hg0.size, fun k hk => hg0.block k hk (by simp)⟩, by omega⟩
  case round =>
    obtain ⟨t, left, cnt, rfl, hrg, HN, hb, hsz⟩ := hrel
    go_wp2_with (first | (at_next; refine next_files rfl _ rfl mb w.heap.size E.length hP.out ha.out hok.out left cnt rfl hrg ?_ ?_) | go_in)
    · intro _ hl0
      have HK : Hid (t = U) := Lib.hid (by have := HN.out; rw [rest_end hl0] at this; omega)
      clear hrg HN hst
      obtain rfl : t = U := HK.out
      go_wp2_with fail
      go_ret
      exact ⟨rfl, hb⟩
    · intro e hem hlk w1 cnt1 hrg1 hlt hg1 hs1 hen
      have HS := Lib.hid (rest_step hAp.out hem hlk)
      have hr1 := Lib.hid hrg1
      have hm1 : Hid (wr.rangeLeft mb w.heap.size = cnt) := Lib.hid hrg.left_eq
      have hb1 : Below w.heap.size w w1 := hb.grown hg1 hb.size (fun k e => by cases e; exact Nat.le_refl _)
      have hsz1 : w.heap.size + 1 ≤ w1.heap.size := by omega
      have hr2 := Lib.hid (hr1.out.alloc (.cells #[.slice e.A e.f.b.length e.c, .int .i64 (e.f.l : Int)] 80))
      have hb2 := Lib.hid (hb1.alloc hb1.size (.cells #[.slice e.A e.f.b.length e.c, .int .i64 (e.f.l : Int)] 80))
      have hle : t + e.f.b.length ≤ 262144 := by have := HN.out; have := HS.out; omega
      have HT : Hid (t + e.f.b.length + restU E (fun z => left z && !z.sameKey (kN e.f.n)) = U) := Lib.hid (by have := HN.out; have := HS.out; omega)
      clear hrg hrg1 hb hst hs1 hlk hem HN HS hg1 hb1
      go_upto_region 5 with fail
      change Code.wp _ _ _ _ (w1.alloc (.cells #[.slice e.A e.f.b.length e.c, .int .i64 (e.f.l : Int)] 80))
      have hsz2 : w.heap.size + 1 ≤ (w1.alloc (.cells #[.slice e.A e.f.b.length e.c, .int .i64 (e.f.l : Int)] 80)).heap.size := by simp; omega
      have OZ := Whole.fresh w1 80 #[.slice e.A e.f.b.length e.c, .int .i64 (e.f.l : Int)]
      generalize w1.alloc (.cells #[.slice e.A e.f.b.length e.c, .int .i64 (e.f.l : Int)] 80) = W6 at hr2 hb2 OZ hsz2 ⊢
      generalize w1.heap.size = gz at OZ ⊢
      have z0 : W6.cell? ⟨gz, 0, none⟩ = some (.slice e.A e.f.b.length e.c) := OZ.read 0
      have y0 : W6.frozen? ⟨gz, 0, none⟩ = false := OZ.soft 0
      clear OZ hen
      go_wp2_with fail
      go_roundw
      case rel => exact ⟨t + e.f.b.length, _, cnt1, by go_num, hr2.out, HT, hb2.out, hsz2⟩
      case measure => rw [hr2.out.left_eq, hm1.out]; exact hlt
end Go.Proofs.YtcogehhjofgbiaaGreatDoor.disk
set_option linter.unusedSimpArgs false
set_option linter.unusedVariables false
namespace Go.Proofs.YtcogehhjofgbiaaGreatDoor.disk
open Go.ChangeShapes Go.WideShapes Go.ChangeAt Go.RowKit Go.Maps Go.WideMaps Go.Sort Go.Shelf
open Go.Proofs.YtcogehhjofgbiaaGreatDoor.words Go.Proofs.YtcogehhjofgbiaaGreatDoor.opened Go.Proofs.YtcogehhjofgbiaaGreatDoor.block

theorem sorts_names (m : Nat) : AnyZ.SortsIn Tryz.prog Tryz.sorted73_ren Fence.wide m :=
  ⟨fun blk off cap ss W hH hblk hsz => callsIn_wide.2 (AnyM.slices_Sort_string Tryz.sort97 blk off cap ss W hH hblk hsz),
   fun p cap W => callsIn_wide.2 (AnyM.slices_Sort_string_none Tryz.sort97 p cap W)⟩
theorem keys_any (mb : Option Nat) (W : World) : CallsIn Fence.wide 5 Tryz.prog 74 #[.map mb] W fun e w' => e = .returned (.func (.func 98) #[] #[.pointer (some ⟨W.heap.size, 0, none⟩)]) ∧ w' = W.alloc (.cells #[.map mb] 63) :=
  AnyZ.keys_in Tryz.keys74 Fence.wide 5 trivial rfl mb W
set_option maxHeartbeats 1000000 in
theorem sorted_keys {H : Type} (b nn : Nat) (D0 : DataW H) (R : Value → Option (DataW H × List MemPlace)) (w : World) (hown : w.ownsMap Tryz.prog 9 R b nn D0) (hmax : Maps.size D0 ≤ maxLen) (hbytes : Maps.size D0 * 16 ≤ 140737488355328) :
    CallsIn Fence.wide 5 Tryz.prog 73 #[.func (.func 98) #[] #[.pointer (some ⟨w.heap.size, 0, none⟩)]] (w.alloc (.cells #[.map (some b)] 63)) fun e w' => ∃ (v : Value) (ss : List (List UInt8)), e = .returned v ∧ ss.Perm (strKeys D0) ∧
      w'.ownsRow (w.alloc (.cells #[.map (some b)] 63)).heap.size 9 1 v ss.length ((ss.mergeSort (fun x y => decide (x ≤ y))).map encStr) ∧ (v = .slice none 0 0 ↔ ss = []) ∧ Below (w.alloc (.cells #[.map (some b)] 63)).heap.size (w.alloc (.cells #[.map (some b)] 63)) w' := by
  have hbl := hown.lt
  have hseq : SeqGives Fence.wide 2 Tryz.prog 98 #[.pointer (some ⟨w.heap.size, 0, none⟩)] encStr (fun ss => ss.Perm (strKeys D0)) (Maps.size D0) (w.alloc (.cells #[.map (some b)] 63)) :=
    AnyZ.keys_gives (ρ := Tryz.keys74_ren) { Tryz.keys74 with } Fence.wide _ trivial rfl (by omega) w.heap.size b nn D0 _ (by simp) (by simp) (by
      obtain ⟨es, clock, hb, Ft, hs, hD⟩ := hown
      exact ⟨es, clock, (Below.heap_alloc _ _ b hbl).trans hb, Ft, hs, hD⟩)
  exact AnyZ.sorted_in Tryz.sorted73 Fence.wide 5 trivial trivial trivial trivial rfl (by omega) (sorts_names _) (enters_of Tryz.func97 (by kernel_rfl) rfl) 98 #[.pointer (some ⟨w.heap.size, 0, none⟩)] trivial (enters_of Tryz.func98 (by kernel_rfl) rfl) _ _ hmax hbytes _ hseq
theorem sort_perm {l l' : List Bs} (h : l.Perm l') : l.mergeSort (fun x y => decide (x ≤ y)) = l'.mergeSort (fun x y => decide (x ≤ y)) := by
  have tr : ∀ a b c : Bs, decide (a ≤ b) = true → decide (b ≤ c) = true → decide (a ≤ c) = true := fun a b c h1 h2 => by simp only [decide_eq_true_eq] at *; exact List.le_trans h1 h2
  have tot : ∀ a b : Bs, (decide (a ≤ b) || decide (b ≤ a)) = true := fun a b => by simp only [Bool.or_eq_true, decide_eq_true_eq]; exact List.le_total a b
  refine List.Perm.eq_of_pairwise (le := fun a b => decide (a ≤ b) = true) (fun a b _ _ h1 h2 => ?_) (List.pairwise_mergeSort tr tot l) (List.pairwise_mergeSort tr tot l') (((List.mergeSort_perm l _).trans h).trans (List.mergeSort_perm l' _).symm)
  simp only [decide_eq_true_eq] at h1 h2
  exact List.le_antisymm h1 h2
set_option maxHeartbeats 1000000 in
theorem names_any {g mb : Nat} {D : Dk} {E : List Fe} (G : GoodD D) (hF : D.F.length ≤ 1000) (w : World) (h : DiskE w g mb D E) :
    Calls Tryz.prog 43 #[.pointer (some ⟨g, 0, none⟩)] w fun e w' => ∃ A c, e = .returned (.slice A (D.F.map Fl.n).length c) ∧ OwnS w' w.heap.size (.slice A (D.F.map Fl.n).length c) (D.F.map Fl.n) ∧ Below w.heap.size w w' := by
  have c0 : w.cell? ⟨g, 0, none⟩ = some (.map (some mb)) := h.cells.read 0
  have f0 : w.frozen? ⟨g, 0, none⟩ = false := h.cells.soft 0
  have hl := h.len
  obtain ⟨es, hp, ho⟩ := h.own
  have hsz : Maps.size (DataW.map es) = E.length := by
    show es.length = _
    rw [hp.length_eq, List.length_map]
  have hkeys : (strKeys (DataW.map es)).Perm (D.F.map Fl.n) := by
    show (es.map fun p => strOf p.1).Perm _
    refine (hp.map _).trans (List.Perm.of_eq ?_)
    rw [List.map_map, ← h.fs, List.map_map]
    rfl
  have hsrt := Lib.hid (names_sorted G.srt)
  have hK := Lib.hid hkeys
  have C := Lib.hid (sorted_keys mb E.length (DataW.map es) fileR w ho (by rw [hsz]; unfold maxLen; omega) (by rw [hsz]; omega))
  clear h hp ho hsz hkeys hl
  generalize D.F.map Fl.n = N at hsrt hK ⊢
  refine (callsIn_wide (n := 6)).1 ?_
  have hfK : Fence.wide.fn 74 := trivial
  have hfS : Fence.wide.fn 73 := trivial
  refine callsIn_of_wp Tryz.func43 rfl trivial ?_ rfl
  simp only [Tryz.ntmps43, List.size_toArray, List.length_cons, List.length_nil, Nat.reduceAdd, Nat.reduceSub, Array.replicate_succ, Array.replicate_zero, List.push_toArray, List.append_toArray, List.nil_append, List.cons_append]
  gi_wp2_with (first
    | (gi_at_call 74; refine (keys_any _ _).mono ?_; rintro e w' ⟨rfl, rfl⟩)
    | (gi_at_call 73; refine C.out.mono ?_; rintro e w' ⟨v, ss, rfl, hS, hrow, hnil, hb⟩))
  go_ret
  have e1 : ss.mergeSort (fun x y => decide (x ≤ y)) = N := (sort_perm (hS.trans hK.out)).trans hsrt.out
  have e2 : ss.length = N.length := (hS.trans hK.out).length_eq
  rw [e1, e2] at hrow
  have hrow' : OwnS w' w.heap.size v N := ownsRow_base_a hrow (by simp)
  obtain ⟨A, c, hv⟩ : ∃ A c, v = .slice A N.length c := by
    rcases hrow'.2 with ⟨hv, hn⟩ | ⟨g, cap, cur, hv, -⟩
    · exact ⟨none, 0, by rw [hv, hn]⟩
    · exact ⟨_, _, hv⟩
  subst hv
  exact ⟨A, c, rfl, hrow', ((Below.refl _ w).alloc (Nat.le_refl _) _).trans (hb.mono (by simp))⟩
end Go.Proofs.YtcogehhjofgbiaaGreatDoor.disk
