/-
  The contracts of what a disk's small functions do: check, step, used, stepOn, New, Arm, Down.
  A range over the files of a disk; the contract of used.
-/
import Derived.Test.YtfpmcomigolacaaGreatDoorJKw
import Derived.Test.YtfpmcomigolacaaGreatDoorJWc
import Derived.Test.YtfpmcomigolacaaGreatDoorJRt2
import Derived.Deep.QuietTactic
import Derived.BigQuiet
import Derived.Deep.DeepCutAuto
set_option linter.unusedSimpArgs false
set_option linter.unusedVariables false
namespace Go.Proofs.YtfpmcomigolacaaGreatDoor.disk
open Go.ChangeShapes Go.WideShapes Go.ChangeAt Go.RowKit Go.Maps Go.WideMaps
open Go.Proofs.YtfpmcomigolacaaGreatDoor.words Go.Proofs.YtfpmcomigolacaaGreatDoor.opened Go.Proofs.YtfpmcomigolacaaGreatDoor.block

theorem check_any {g mb : Nat} {D : Dk} {E : List Fe} (n : Bs) (hn : n.length ≤ 100000) (w : World) (h : DiskE w g mb D E) :
    Calls Tryz.prog 90 #[.pointer (some ⟨g, 0, none⟩), sV n] w fun e w' => e = .returned (.int .i64 (chk D n)) ∧ Below w.heap.size w w' := by
  have c1 : w.cell? ⟨g, 1, none⟩ = some (.bool D.off) := h.cells.read 1
  have f1 : w.frozen? ⟨g, 1, none⟩ = false := h.cells.soft 1
  have HN := Lib.hid (name_any n hn w)
  have HC : Hid (chk D n = if D.off = true then 14 else if nameB n = true then 0 else 6) := Lib.hid rfl
  clear h
  generalize chk D n = k at HC ⊢
  generalize nameB n = q at HN HC
  generalize D.off = o at c1 HC
  cases o
  · cases q
    · have e : k = 6 := HC.out
      subst e
      go_enter Tryz.func90, Tryz.ntmps90
      go_wp2_with (go_at_call 52; refine HN.out.mono ?_; rintro e w1 ⟨rfl, b1⟩; have B1 := Lib.hid b1; clear b1)
      go_ret
      exact ⟨rfl, B1.out⟩
    · have e : k = 0 := HC.out
      subst e
      go_enter Tryz.func90, Tryz.ntmps90
      go_wp2_with (go_at_call 52; refine HN.out.mono ?_; rintro e w1 ⟨rfl, b1⟩; have B1 := Lib.hid b1; clear b1)
      go_ret
      exact ⟨rfl, B1.out⟩
  · have e : k = 14 := HC.out
    subst e
    go_enter Tryz.func90, Tryz.ntmps90
    go_wp2_with fail
    go_ret
    exact ⟨rfl, Below.refl _ _⟩
theorem step_any {g mb : Nat} {D : Dk} {E : List Fe} (h1 : D.left ≤ 9223372036854775807) (w : World) (h : DiskE w g mb D E) :
    Calls Tryz.prog 91 #[.pointer (some ⟨g, 0, none⟩)] w fun e w' => e = .returned (.int .i64 (stpE D)) ∧ DiskE w' g mb (stpV D) E ∧ w.grownBy w' (some g) ∧ w'.heap.size = w.heap.size := by
  have c1 : w.cell? ⟨g, 1, none⟩ = some (.bool D.off) := h.cells.read 1
  have f1 : w.frozen? ⟨g, 1, none⟩ = false := h.cells.soft 1
  have c2 : w.cell? ⟨g, 2, none⟩ = some (.int .i64 D.left) := h.cells.read 2
  have f2 : w.frozen? ⟨g, 2, none⟩ = false := h.cells.soft 2
  have hs1 := h.cells.store 1 (.bool true)
  have hs2 := h.cells.store 2 (.int .i64 (D.left - 1))
  have hg0 : w.grownBy w (some g) := ⟨rfl, rfl, rfl, Nat.le_refl _, fun _ _ _ => rfl⟩
  by_cases z : D.left = 0
  · have HV : Hid (DiskE (w.setCell ⟨g, 1, none⟩ (.bool true)) g mb (stpV D) E) := Lib.hid (by
      unfold stpV
      rw [if_pos z]
      exact h.write { D with off := true } rfl (by simpa using hs1) (only_store hg0 _))
    have HG : Hid (w.grownBy (w.setCell ⟨g, 1, none⟩ (.bool true)) (some g)) := Lib.hid (only_store hg0 _)
    have HE : Hid (stpE D = 14) := Lib.hid (by unfold stpE; rw [if_pos z])
    rw [z] at c2
    generalize stpE D = k at HE ⊢
    generalize stpV D = D' at HV ⊢
    obtain rfl : k = 14 := HE.out
    clear h hs1 hs2 z h1 hg0 HE
    go_enter Tryz.func91, Tryz.ntmps91
    go_wp2_with fail
    go_ret
    exact ⟨rfl, HV.out, HG.out, by simp [World.setCell]⟩
  · by_cases p : 0 < D.left
    · have HV : Hid (DiskE (w.setCell ⟨g, 2, none⟩ (.int .i64 (D.left - 1))) g mb (stpV D) E) := Lib.hid (by
        unfold stpV
        rw [if_neg z, if_pos p]
        exact h.write { D with left := D.left - 1 } rfl (by simpa using hs2) (only_store hg0 _))
      have HG : Hid (w.grownBy (w.setCell ⟨g, 2, none⟩ (.int .i64 (D.left - 1))) (some g)) := Lib.hid (only_store hg0 _)
      have HE : Hid (stpE D = 0) := Lib.hid (by unfold stpE; rw [if_neg z])
      generalize stpE D = k at HE ⊢
      generalize stpV D = D' at HV ⊢
      obtain rfl : k = 0 := HE.out
      clear h hs1 hs2 z hg0 HE
      generalize D.left = lf at c2 p h1 HV HG
      have hz : (lf == 0) = false := by simp; omega
      have hw : wrap64 (lf - 1) = lf - 1 := by unfold wrap64; omega
      go_enter Tryz.func91, Tryz.ntmps91
      go_wp2_with fail
      go_ret
      exact ⟨rfl, HV.out, HG.out, by simp [World.setCell]⟩
    · have HV : Hid (DiskE w g mb (stpV D) E) := Lib.hid (by
        unfold stpV
        rw [if_neg z, if_neg p]
        exact h)
      have HE : Hid (stpE D = 0) := Lib.hid (by unfold stpE; rw [if_neg z])
      have HG := Lib.hid hg0
      generalize stpE D = k at HE ⊢
      generalize stpV D = D' at HV ⊢
      obtain rfl : k = 0 := HE.out
      clear h hs1 hs2 hg0 HE h1
      generalize D.left = lf at c2 p z
      have hz : (lf == 0) = false := by simp; omega
      clear z
      go_enter Tryz.func91, Tryz.ntmps91
      go_wp2_with fail
      go_ret
      exact ⟨rfl, HV.out, HG.out, rfl⟩
theorem down_any {g mb : Nat} {D : Dk} {E : List Fe} (w : World) (h : DiskE w g mb D E) :
    Calls Tryz.prog 51 #[.pointer (some ⟨g, 0, none⟩)] w fun e w' => e = .returned (.bool D.off) ∧ w = w' := by
  have c1 : w.cell? ⟨g, 1, none⟩ = some (.bool D.off) := h.cells.read 1
  have f1 : w.frozen? ⟨g, 1, none⟩ = false := h.cells.soft 1
  clear h
  generalize D.off = o at c1 ⊢
  go_enter Tryz.func51, Tryz.ntmps51
  go_wp2_with fail
  go_ret
  exact ⟨rfl, rfl⟩
theorem arm_any {g mb : Nat} {D : Dk} {E : List Fe} (n : Int) (w : World) (h : DiskE w g mb D E) :
    Calls Tryz.prog 14 #[.pointer (some ⟨g, 0, none⟩), .int .i64 n] w fun e w' => e = .returned (.tuple #[]) ∧ DiskE w' g mb (armV D n) E ∧ w.grownBy w' (some g) ∧ w'.heap.size = w.heap.size := by
  have c2 : w.cell? ⟨g, 2, none⟩ = some (.int .i64 D.left) := h.cells.read 2
  have f2 : w.frozen? ⟨g, 2, none⟩ = false := h.cells.soft 2
  have hg0 : w.grownBy w (some g) := ⟨rfl, rfl, rfl, Nat.le_refl _, fun _ _ _ => rfl⟩
  have HV : Hid (DiskE (w.setCell ⟨g, 2, none⟩ (.int .i64 n)) g mb (armV D n) E) := Lib.hid (h.write (armV D n) rfl (by simpa [armV] using h.cells.store 2 (.int .i64 n)) (only_store hg0 _))
  have HG : Hid (w.grownBy (w.setCell ⟨g, 2, none⟩ (.int .i64 n)) (some g)) := Lib.hid (only_store hg0 _)
  clear h hg0
  generalize armV D n = D' at HV ⊢
  generalize D.left = lf at c2
  go_enter Tryz.func14, Tryz.ntmps14
  go_wp2_with fail
  go_end0
  exact ⟨rfl, HV.out, HG.out, by simp [World.setCell]⟩
theorem diskE_made (w : World) : DiskE ((w.alloc (.map #[] 0)).alloc (.cells #[.map (some w.heap.size), .bool false, .int .i64 (-1)] 64)) (w.heap.size + 1) w.heap.size ⟨[], false, -1⟩ [] := by
  have W := Whole.fresh (w.alloc (.map #[] 0)) 64 #[.map (some w.heap.size), .bool false, .int .i64 (-1)]
  have hz : (w.alloc (.map #[] 0)).heap.size = w.heap.size + 1 := by simp
  rw [hz] at W
  refine ⟨rfl, W, (ownF_made w).same ((Below.heap_alloc _ _ _ (by rw [hz]; omega))), fun _ h => (nomatch h), List.Pairwise.nil, by omega, fun _ h => (nomatch h)⟩
theorem new_any (w : World) : Calls Tryz.prog 8 #[] w fun e w' => e = .returned (.pointer (some ⟨w.heap.size + 1, 0, none⟩)) ∧ DiskE w' (w.heap.size + 1) w.heap.size ⟨[], false, -1⟩ [] ∧ Below w.heap.size w w' := by
  have hmm := @run_makeMap Tryz.prog
  have HV := Lib.hid (diskE_made w)
  go_enter Tryz.func8, Tryz.ntmps8
  go_wp2_with fail
  go_ret
  exact ⟨rfl, HV.out, ((Below.refl _ _).alloc (Nat.le_refl _) _).alloc (by simp) _⟩
end Go.Proofs.YtfpmcomigolacaaGreatDoor.disk
set_option linter.unusedSimpArgs false
set_option linter.unusedVariables false
namespace Go.Proofs.YtfpmcomigolacaaGreatDoor.disk
open Go.ChangeShapes Go.WideShapes Go.ChangeAt Go.RowKit Go.Maps Go.WideMaps
open Go.Proofs.YtfpmcomigolacaaGreatDoor.words Go.Proofs.YtfpmcomigolacaaGreatDoor.opened Go.Proofs.YtfpmcomigolacaaGreatDoor.block

theorem key_file {es : List (Lit × DataW Nat)} {E : List Fe} (hp : es.Perm (E.map pE)) {kl : Lit} (h : Maps.has (.map es) kl = true) : ∃ e ∈ E, kl = kN e.f.n := by
  rw [has_eq] at h
  obtain ⟨q, hq, hs⟩ := List.any_eq_true.1 h
  obtain ⟨e, he, h2⟩ := List.mem_map.1 (hp.mem_iff.1 hq)
  refine ⟨e, he, ?_⟩
  rw [← WideAt.sameKey_eq hs, ← h2]
  rfl
theorem look_mem {E : List Fe} (h : E.Pairwise fun x y => x.f.n ≠ y.f.n) {e : Fe} (he : e ∈ E) : lookE E e.f.n = e := by
  unfold lookE
  have : lkE E e.f.n = some e := by
    unfold lkE
    induction E with
    | nil => cases he
    | cons x r ih =>
      obtain ⟨h1, h2⟩ := List.pairwise_cons.1 h
      rw [List.find?_cons]
      rcases List.mem_cons.1 he with rfl | he
      · rw [decide_eq_true rfl]
      · rw [decide_eq_false (h1 e he)]
        exact ih h2 he
  rw [this]
  rfl
/-- The step over the files: nothing is left, or a file that has not come yet. -/
theorem next_files {w : World} {ops : Array Oper} {rest : List Oper} {o : Oper} {a : Act} {Q : Exit → Act → World → Prop} (hg : o.guard = none) (it : Operand) (hop : o.op = Op.next it false)
    (b r n : Nat) {es : List (Lit × DataW Nat)} {E : List Fe} (hp : es.Perm (E.map pE)) (ha : es.Pairwise (fun p q => p.1 ≠ q.1)) (hk : ∀ e ∈ E, e.Ok) (left : Lit → Bool) (cnt : Nat)
    (hit : a.eval it = .pointer (some ⟨r, 0, none⟩)) (h : w.ranges Tryz.prog 9 fileR b r n (.map es) left cnt)
    (hDone : cnt = 0 → (∀ kl, left kl = false) → wpList Tryz.prog ops Q rest (a.put o.dst (.tuple #[.bool false])) w)
    (hMore : ∀ (e : Fe), e ∈ E → left (kN e.f.n) = true → ∀ (w' : World) (cnt' : Nat), w'.ranges Tryz.prog 9 fileR b r n (.map es) (fun z => left z && !z.sameKey (kN e.f.n)) cnt' → cnt' < cnt →
      w.grownBy w' (some r) → w'.heap.size = w.heap.size → (Instr.entry (.pointer (some ⟨r, 0, none⟩))).run Tryz.prog w' = .ok (.tuple #[sV e.f.n, e.val]) w' → wpList Tryz.prog ops Q rest (a.put o.dst (.tuple #[.bool true, sV e.f.n, e.val])) w') :
    wpList Tryz.prog ops Q (o :: rest) a w := by
  refine wpList_plain hg fun K' hK' => ?_
  unfold Oper.wp
  rcases h.next keyS o.type with ⟨h0, hl, hrun⟩ | ⟨key, v, kl, y, w', cnt', hkey, hlk, hv, hat, hrun, hrg, hlt, hgr, hsz, hen⟩
  · simp [execOp, hop, hit, hrun, Result.andThen]
    exact hK' _ _ (hDone h0 hl)
  · obtain ⟨e, he, rfl⟩ := key_file hp (Maps.has_true_of_atKey hat)
    obtain ⟨s, rfl, hs, -⟩ := string_of_keyOf Tryz.underlying9 hkey
    obtain rfl : s = ⟨e.f.n.toArray⟩ := by
      have := kN_inj (n := s.data.toList) hs
      rw [this]
    have ed : y.1 = dE e := by
      have := atF hp ha e.f.n
      rw [hat, look_mem (names_apart hp ha) he] at this
      exact this
    have ev : v = e.val := fileR_inv (ps := y.2) (hk e he) (by rw [hv, ← ed])
    subst ev
    simp [execOp, hop, hit, hrun, Result.andThen]
    exact hK' _ _ (hMore e he hlk w' cnt' hrg hlt hgr hsz hen)

/-- How many bytes the files have that are still to come. -/
def restU (E : List Fe) (left : Lit → Bool) : Nat := used ((E.filter fun e => left (kN e.f.n)).map Fe.f)
theorem rest_end {E : List Fe} {left : Lit → Bool} (h : ∀ kl, left kl = false) : restU E left = 0 := by
  unfold restU
  rw [List.filter_eq_nil_iff.2 fun x _ => by rw [h]; simp]
  rfl
theorem rest_start {es : List (Lit × DataW Nat)} {E : List Fe} (hp : es.Perm (E.map pE)) : restU E (Maps.has (.map es)) = used (E.map Fe.f) := by
  unfold restU
  rw [List.filter_eq_self.2 fun x hx => ?_]
  rw [has_eq]
  exact List.any_eq_true.2 ⟨pE x, hp.mem_iff.2 (List.mem_map.2 ⟨x, hx, rfl⟩), WideAt.sameKey_self (isKN _)⟩
theorem strike_other {m n : Bs} (h : m ≠ n) (left : Lit → Bool) : (left (kN m) && !(kN m).sameKey (kN n)) = left (kN m) := by
  rw [Maps.sameKey_ne (fun e => h (kN_inj e))]
  simp
theorem strike_same (n : Bs) (left : Lit → Bool) : (left (kN n) && !(kN n).sameKey (kN n)) = false := by
  rw [WideAt.sameKey_self (isKN n)]
  simp
theorem filter_step : ∀ {E : List Fe} {e : Fe} {left : Lit → Bool}, E.Pairwise (fun x y => x.f.n ≠ y.f.n) → e ∈ E → left (kN e.f.n) = true →
    (E.filter fun x => left (kN x.f.n)).Perm (e :: E.filter fun x => left (kN x.f.n) && !(kN x.f.n).sameKey (kN e.f.n))
  | x :: r, e, left, h, he, hl => by
    obtain ⟨h1, h2⟩ := List.pairwise_cons.1 h
    rcases List.mem_cons.1 he with rfl | he
    · rw [List.filter_cons, List.filter_cons, strike_same, hl]
      simp only [if_true, Bool.false_eq_true, if_false]
      refine List.Perm.cons _ (List.Perm.of_eq (List.filter_congr fun y hy => ?_))
      rw [strike_other (h1 y hy).symm]
    · have ih := filter_step h2 he hl
      have hne := h1 e he
      rw [List.filter_cons, List.filter_cons, strike_other hne]
      by_cases hx : left (kN x.f.n) = true
      · rw [hx]
        simp only [if_true]
        exact (ih.cons x).trans (List.Perm.swap _ _ _)
      · have hx' : left (kN x.f.n) = false := by simpa using hx
        rw [hx']
        simp only [Bool.false_eq_true, if_false]
        exact ih
theorem rest_step {E : List Fe} {e : Fe} {left : Lit → Bool} (h : E.Pairwise (fun x y => x.f.n ≠ y.f.n)) (he : e ∈ E) (hl : left (kN e.f.n) = true) : restU E left = e.f.b.length + restU E (fun z => left z && !z.sameKey (kN e.f.n)) := by
  unfold restU
  rw [used_perm ((filter_step h he hl).map Fe.f)]
  rfl
theorem fresh1' (w : World) (o : Obj) : Below w.heap.size w (w.alloc o) := (Below.refl _ _).alloc (Nat.le_refl _) _
set_option maxRecDepth 100000 in
theorem used_any {g mb : Nat} {D : Dk} {E : List Fe} (hu : used D.F ≤ 262144) (w : World) (h : DiskE w g mb D E) :
    Calls Tryz.prog 93 #[.pointer (some ⟨g, 0, none⟩)] w fun e w' => e = .returned (.int .i64 (used D.F : Int)) ∧ Below w.heap.size w w' := by
  obtain ⟨es, hp, ho⟩ := h.own
  have hok := Lib.hid h.ok
  have ha := Lib.hid (keysF_apart ho)
  have hP := Lib.hid hp
  have hAp := Lib.hid (names_apart hp (keysF_apart ho))
  have hst : Hid (restU E (Maps.has (.map es)) = used D.F) := Lib.hid (by rw [rest_start hp, h.fs])
  have c0 : w.cell? ⟨g, 0, none⟩ = some (.map (some mb)) := h.cells.read 0
  have f0 : w.frozen? ⟨g, 0, none⟩ = false := h.cells.soft 0
  have hU := hu
  generalize used D.F = U at hst hU hu ⊢
  clear h hp
  go_enter Tryz.func93, Tryz.ntmps93
  go_wp2_with (first | (at_range; refine wpList_range_own _ rfl _ 62 rfl 9 79 keyS Tryz.underlying62 _ mb E.length _ rfl ho ?_; intro w0 hrg0 hg0 hs0) | go_in)
  go_frame
  clear c0 f0 ho
  go_loopw [3, 5] (fun v _ wr => ∃ (t : Nat) (left : Lit → Bool) (cnt : Nat), v = .int .i64 (t : Int) ∧ wr.ranges Tryz.prog 9 fileR mb w.heap.size E.length (.map es) left cnt ∧ Hid (t + restU E left = U) ∧ Below w.heap.size w wr ∧ w.heap.size + 1 ≤ wr.heap.size) (fun _ _ wr => wr.rangeLeft mb w.heap.size)
  case atStart => exact ⟨0, _, _, rfl, hrg0, Lib.hid (by rw [hst.out]; omega), ⟨hg0.os, hg0.tape, hg0.output, hg0.size, fun k hk => hg0.block k hk (by simp)⟩, by omega⟩
  case round =>
    obtain ⟨t, left, cnt, rfl, hrg, HN, hb, hsz⟩ := hrel
    go_wp2_with (first | (at_next; refine next_files rfl _ rfl mb w.heap.size E.length hP.out ha.out hok.out left cnt rfl hrg ?_ ?_) | go_in)
    · intro _ hl0
      have HK : Hid (t = U) := Lib.hid (by have := HN.out; rw [rest_end hl0] at this; omega)
      clear hrg HN hst
      obtain rfl : t = U := HK.out
      go_wp2_with fail
      go_ret
      exact ⟨rfl, hb⟩
    · intro e hem hlk w1 cnt1 hrg1 hlt hg1 hs1 hen
      have HS := Lib.hid (rest_step hAp.out hem hlk)
      have hr1 := Lib.hid hrg1
      have hm1 : Hid (wr.rangeLeft mb w.heap.size = cnt) := Lib.hid hrg.left_eq
      have hb1 : Below w.heap.size w w1 := hb.grown hg1 hb.size (fun k e => by cases e; exact Nat.le_refl _)
      have hsz1 : w.heap.size + 1 ≤ w1.heap.size := by omega
      have hr2 := Lib.hid (hr1.out.alloc (.cells #[.slice e.A e.f.b.length e.c, .int .i64 (e.f.l : Int)] 79))
      have hb2 := Lib.hid (hb1.alloc hb1.size (.cells #[.slice e.A e.f.b.length e.c, .int .i64 (e.f.l : Int)] 79))
      have hle : t + e.f.b.length ≤ 262144 := by have := HN.out; have := HS.out; omega
      have HT : Hid (t + e.f.b.length + restU E (fun z => left z && !z.sameKey (kN e.f.n)) = U) := Lib.hid (by have := HN.out; have := HS.out; omega)
      clear hrg hrg1 hb hst hs1 hlk hem HN HS hg1 hb1
      go_upto_region 5 with fail
      change Code.wp _ _ _ _ (w1.alloc (.cells #[.slice e.A e.f.b.length e.c, .int .i64 (e.f.l : Int)] 79))
      have hsz2 : w.heap.size + 1 ≤ (w1.alloc (.cells #[.slice e.A e.f.b.length e.c, .int .i64 (e.f.l : Int)] 79)).heap.size := by simp; omega
      have OZ := Whole.fresh w1 79 #[.slice e.A e.f.b.length e.c, .int .i64 (e.f.l : Int)]
      generalize w1.alloc (.cells #[.slice e.A e.f.b.length e.c, .int .i64 (e.f.l : Int)] 79) = W6 at hr2 hb2 OZ hsz2 ⊢
      generalize w1.heap.size = gz at OZ ⊢
      have z0 : W6.cell? ⟨gz, 0, none⟩ = some (.slice e.A e.f.b.length e.c) := OZ.read 0
      have y0 : W6.frozen? ⟨gz, 0, none⟩ = false := OZ.soft 0
      clear OZ hen
      go_wp2_with fail
      go_roundw
      case rel => exact ⟨t + e.f.b.length, _, cnt1, by go_num, hr2.out, HT, hb2.out, hsz2⟩
      case measure => rw [hr2.out.left_eq, hm1.out]; exact hlt
end Go.Proofs.YtfpmcomigolacaaGreatDoor.disk
