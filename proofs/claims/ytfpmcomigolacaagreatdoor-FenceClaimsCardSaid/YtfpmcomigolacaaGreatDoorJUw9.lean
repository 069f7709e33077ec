/-
  The contracts of write and Append.
  The contract of Append.
-/
import Derived.Test.YtfpmcomigolacaaGreatDoorJUw7
set_option linter.unusedSimpArgs false
set_option linter.unusedVariables false
namespace Go.Proofs.YtfpmcomigolacaaGreatDoor.wal
open Go.ChangeShapes Go.WideShapes Go.ChangeAt Go.RowKit Go.Maps Go.WideMaps
open Go.Proofs.YtfpmcomigolacaaGreatDoor.opened Go.Proofs.YtfpmcomigolacaaGreatDoor.block Go.Proofs.YtfpmcomigolacaaGreatDoor.words Go.Proofs.YtfpmcomigolacaaGreatDoor.disk Go.Proofs.YtfpmcomigolacaaGreatDoor.tailed Go.Proofs.YtfpmcomigolacaaGreatDoor.enc Go.Proofs.YtfpmcomigolacaaGreatDoor.code
section
variable {gl gd : Nat} {L : Lg} {A : Option Addr} {c : Nat} {R : Option Addr} {d : Nat} {w : World} {B : Nat} {D : Dk}
set_option maxRecDepth 100000 in
set_option maxHeartbeats 2000000 in
theorem write_any (G : GoodL L) (hp : 1 ≤ L.per ∧ L.per ≤ 64) (hn : nextN L ≤ 1125899906842624) (GD : GoodD D) (hF : D.F.length ≤ 998) (hE : EnvB B w) (h : LogE w gl gd L A c R d) (hD : DiskB w B gd D) (hlb : ∀ k, lblk gl A R k → B ≤ k) (s : Bs) (hs : s.length ≤ 4096) :
    Calls Tryz.prog 37 #[.pointer (some ⟨gl, 0, none⟩), sV s] w fun e w' => e = .returned (.int .i64 (wrE L D s)) ∧ LTurn B gl gd A R (wrL L D s) (wrD L D s) w w' := by
  have hB := hE.le
  have n0 := G.lo
  have n1 := G.hi
  have HC := Lib.hid (closed_any G hp hn h)
  have HBg : Hid (∀ w1, Below w.heap.size w w1 → Calls Tryz.prog 65 #[.pointer (some ⟨gl, 0, none⟩), sV s] w1 fun e w' => e = .returned (.int .i64 (bgE L D s)) ∧ LTurn B gl gd A R (bgL L D s) (bgD L D s) w w') := Lib.hid fun w1 b =>
    (begin_any G hn GD hF (hE.below b) (h.below b) (hD.below b) hlb s hs).mono fun e w' ⟨e1, e2⟩ => ⟨e1, LTurn.pre b hB e2⟩
  have HE : Hid (wrE L D s = if closedB L = true then bgE L D s else appE D (lastF L) (frameL s)) := Lib.hid rfl
  have HDD : Hid (wrD L D s = if closedB L = true then bgD L D s else appV D (lastF L) (frameL s)) := Lib.hid rfl
  have HM : Hid (wrL L D s = if closedB L = true then bgL L D s else L) := Lib.hid rfl
  have hne : closedB L = false → L.heads ≠ [] := fun hc e => by unfold closedB at hc; rw [e] at hc; simp at hc
  have hk : L.heads ≠ [] → 0 ≤ nextF L - 1 := fun _ => by unfold nextF; omega
  have HNF : Hid (∀ w1, Below w.heap.size w w1 → Calls Tryz.prog 57 #[.pointer (some ⟨gl, 0, none⟩)] w1 fun e w' => e = .returned (.int .i64 (nextF L)) ∧ Below w1.heap.size w1 w') := Lib.hid fun w1 b => nextFile_any G (h.below b)
  have HFi : Hid (L.heads ≠ [] → ∀ w1, Below w.heap.size w w1 → Calls Tryz.prog 36 #[.pointer (some ⟨gl, 0, none⟩), .int .i64 (nextF L - 1)] w1 fun e w' => e = .returned (sV (lastF L)) ∧ Below w1.heap.size w1 w') := Lib.hid fun hq w1 b => file_any G.len (nextF L - 1) (hk hq) (by omega) (h.below b) (hE.below b).env
  have HFs : Hid (∀ w1, Calls Tryz.prog 67 #[sV s] w1 fun e w' => e = .returned (sV (frameL s)) ∧ Below w1.heap.size w1 w') := Lib.hid fun w1 => frame_any s (by omega) w1
  have hl2 : (frameL s).length ≤ 4110 := frame_le s hs
  have HAp : Hid (L.heads ≠ [] → ∀ w1, Below w.heap.size w w1 → Calls Tryz.prog 66 #[.pointer (some ⟨gd, 0, none⟩), sV (lastF L), sV (frameL s)] w1 fun e w' => e = .returned (.int .i64 (appE D (lastF L) (frameL s))) ∧ LTurn B gl gd A R L (appV D (lastF L) (frameL s)) w w') := Lib.hid fun hq w1 b =>
    (appW GD (by omega) _ _ (by unfold lastF; have := fn_len (nm := L.nm) (hk hq) (by omega); have := G.len; omega) (by omega) (Nat.le_trans hB b.size) (hD.below b)).mono fun e w' ⟨e1, e2, e3, e4⟩ => ⟨e1, LTurn.pre b hB (LTurn.disk_call (lturn_of (h.below b) (hD.below b) (WT.refl _ _) (Below.refl _ _)) ⟨e2, e3, e4⟩)⟩
  have c0 : Hid (∀ w1, Below w.heap.size w w1 → w1.cell? ⟨gl, 0, none⟩ = some (.pointer (some ⟨gd, 0, none⟩)) ∧ w1.frozen? ⟨gl, 0, none⟩ = false) := Lib.hid fun w1 b => ⟨(h.below b).cells.read 0, (h.below b).cells.soft 0⟩
  have hnf0 : 0 ≤ nextF L := by unfold nextF; omega
  have hnf1 := n1
  clear h hD hE G GD hF hs n0 n1 hlb hp hn hk
  generalize wrE L D s = we at HE ⊢
  generalize wrD L D s = wd at HDD ⊢
  generalize wrL L D s = wl at HM ⊢
  generalize lastF L = N at HE HDD HFi HAp
  generalize frameL s = Q at HE HDD HFs hl2 HAp
  generalize nextF L = nf at HNF HFi hnf0 hnf1
  cases hc : closedB L with
  | true =>
    have r1 := HE.out
    have r2 := HDD.out
    have r3 := HM.out
    rw [if_pos hc] at r1 r2 r3
    subst r1 r2 r3
    rw [hc] at HC
    clear HE HDD HM HFi HFs HAp HNF c0 hne hc
    generalize bgE L D s = be at HBg ⊢
    go_enter Tryz.func37, Tryz.ntmps37
    go_wp2_with (first
      | (go_at_call 64; refine HC.out.mono ?_; rintro e w1 ⟨rfl, b1⟩; have B1 := Lib.hid b1; clear b1)
      | (go_at_call 65; refine (HBg.out _ B1.out).mono ?_; rintro e w2 ⟨rfl, t2⟩; have T2 := Lib.hid t2; clear t2))
    go_ret
    exact ⟨rfl, T2.out⟩
  | false =>
    have r1 := HE.out
    have r2 := HDD.out
    have r3 := HM.out
    rw [if_neg (by rw [hc]; simp)] at r1 r2 r3
    subst r1 r2 r3
    have hq := hne hc
    rw [hc] at HC
    replace HFi := Lib.hid (HFi.out hq)
    replace HAp := Lib.hid (HAp.out hq)
    clear HE HDD HM HBg hne hc hq
    generalize appE D N Q = ae at HAp ⊢
    generalize appV D N Q = av at HAp ⊢
    go_enter Tryz.func37, Tryz.ntmps37
    go_upto_region 3 with (go_at_call 64; refine HC.out.mono ?_; rintro e w1 ⟨rfl, b1⟩; have B1 := Lib.hid b1; clear b1)
    have c0x : ∀ x : Since w, x.1.cell? ⟨gl, 0, none⟩ = some (.pointer (some ⟨gd, 0, none⟩)) := fun x => (c0.out _ x.2).1
    have f0x : ∀ x : Since w, x.1.frozen? ⟨gl, 0, none⟩ = false := fun x => (c0.out _ x.2).2
    have hw : wrap64 (nf - 1) = nf - 1 := by unfold wrap64; omega
    refine region_since_tail w 11 (by kernel_rfl) (by kernel_rfl) B1.out ?_
    simp only [List.take_succ_cons, List.take_zero, List.drop_succ_cons, List.drop_zero]
    repeat (go_big_quiet_step ((first
      | (go_at_call 57; with_reducible exact since_callW HNF.out _)
      | (go_at_call 36; with_reducible exact since_callW HFi.out _)
      | (go_at_call 67; with_reducible exact since_call HFs.out _))))
    refine wpQuiet_nil ?_
    rintro w4 ⟨z, rfl⟩
    have hz := z.2
    clear c0x f0x
    go_wp2_with (go_at_call 66; refine (HAp.out _ hz).mono ?_; rintro e w6 ⟨rfl, t6⟩; have T6 := Lib.hid t6; clear t6)
    go_ret
    exact ⟨rfl, T6.out⟩
end
end Go.Proofs.YtfpmcomigolacaaGreatDoor.wal
set_option linter.unusedSimpArgs false
set_option linter.unusedVariables false
namespace Go.Proofs.YtfpmcomigolacaaGreatDoor.wal
open Go.ChangeShapes Go.WideShapes Go.ChangeAt Go.RowKit Go.Maps Go.WideMaps
open Go.Proofs.YtfpmcomigolacaaGreatDoor.opened Go.Proofs.YtfpmcomigolacaaGreatDoor.block Go.Proofs.YtfpmcomigolacaaGreatDoor.words Go.Proofs.YtfpmcomigolacaaGreatDoor.disk Go.Proofs.YtfpmcomigolacaaGreatDoor.tailed Go.Proofs.YtfpmcomigolacaaGreatDoor.enc Go.Proofs.YtfpmcomigolacaaGreatDoor.code
theorem bg_fields (L : Lg) (D : Dk) (s : Bs) : (bgL L D s).nm = L.nm ∧ (bgL L D s).per = L.per ∧ (bgL L D s).least = L.least ∧ (bgL L D s).recs = L.recs := by
  obtain ⟨s1, s2, s3, s4, s5, s6⟩ := sy_fields L D
  unfold bgL
  split
  · exact ⟨rfl, rfl, rfl, rfl⟩
  split
  · exact ⟨s1, s2, s3, s5⟩
  split
  · exact ⟨s1, s2, s3, s5⟩
  · exact ⟨s1, s2, s3, s5⟩
theorem wr_fields (L : Lg) (D : Dk) (s : Bs) : (wrL L D s).nm = L.nm ∧ (wrL L D s).per = L.per ∧ (wrL L D s).least = L.least ∧ (wrL L D s).recs = L.recs := by
  unfold wrL
  split
  · exact bg_fields L D s
  · exact ⟨rfl, rfl, rfl, rfl⟩
section
variable {gl gd : Nat} {L : Lg} {A : Option Addr} {c : Nat} {R : Option Addr} {d : Nat} {w : World} {B : Nat} {D : Dk}
/-- A step of the log's own block behind what was done before. -/
theorem LTurn.own_set {M M' : Lg} {D1 : Dk} {w1 w2 : World} {A' : Option Addr} {c' : Nat} {R' : Option Addr} {d' : Nat} (h : LTurn B gl gd A R M D1 w w1) (hB : B ≤ w.heap.size) (hgl : B ≤ gl) (hi : ∀ k, lblk gl A' R' k → lblk gl A R k ∨ w.heap.size ≤ k) (k1 : LogE w1 gl gd M A' c' R' d') (k2 : LogE w2 gl gd M' A' c' R' d') (hg : w1.grownBy w2 (some gl)) : LTurn B gl gd A R M' D1 w w2 :=
  ⟨⟨A', c', R', d', k2, hi⟩, DiskB.own h.disk hg (fun j e _ => by cases e; exact ⟨_, _, k1.cells, by decide, by decide⟩), h.wt.trans (wt_grown hg (Q := fun k => k = gl) fun j e => by cases e; rfl) fun j e => .inl (.inl e), h.below.grown hg (Nat.le_trans hB h.wt.size) fun j e => by cases e; exact hgl⟩
/-- One call behind another one. -/
theorem LTurn.then_ {M M' : Lg} {D1 D2 : Dk} {w1 w2 : World} {A' R' : Option Addr} (h : LTurn B gl gd A R M D1 w w1) (hi : ∀ k, lblk gl A' R' k → lblk gl A R k ∨ w.heap.size ≤ k) (k : LTurn B gl gd A' R' M' D2 w1 w2) : LTurn B gl gd A R M' D2 w w2 := by
  have hs := h.wt.size
  refine ⟨?_, k.disk, h.wt.trans k.wt hi, h.below.trans k.below⟩
  obtain ⟨A2, c2, R2, d2, k1, k2⟩ := k.log
  refine ⟨A2, c2, R2, d2, k1, fun j hj => ?_⟩
  rcases k2 j hj with q | q
  · exact hi j q
  · exact .inr (by omega)
theorem lb_of {A' R' : Option Addr} (hlb : ∀ k, lblk gl A R k → B ≤ k) (hB : B ≤ w.heap.size) (hi : ∀ k, lblk gl A' R' k → lblk gl A R k ∨ w.heap.size ≤ k) : ∀ k, lblk gl A' R' k → B ≤ k := fun k hk => by
  rcases hi k hk with q | q
  · exact hlb k q
  · omega
set_option maxRecDepth 100000 in
set_option maxHeartbeats 2000000 in
theorem append_log (G : GoodL L) (hp : 1 ≤ L.per ∧ L.per ≤ 64) (hn : nextN L ≤ 1125899906842624) (hr : L.recs.length ≤ 1000000000) (GD : GoodD D) (hF : D.F.length ≤ 998) (hE : EnvB B w) (h : LogE w gl gd L A c R d) (hD : DiskB w B gd D) (hlb : ∀ k, lblk gl A R k → B ≤ k) (s : Bs) (hs : s.length ≤ 100000) :
    Calls Tryz.prog 11 #[.pointer (some ⟨gl, 0, none⟩), sV s] w fun e w' => e = .returned (.tuple #[.int .i64 (apN L D s), .int .i64 (apE L D s)]) ∧ LTurn B gl gd A R (apL L D s) (apD L D s) w w' := by
  have hB := hE.le
  have c8 : w.cell? ⟨gl, 8, none⟩ = some (.bool L.fail) := h.cells.read 8
  have f8 : w.frozen? ⟨gl, 8, none⟩ = false := h.cells.soft 8
  have HNx := Lib.hid (next_any G hn h)
  have HW : Hid (s.length ≤ 4096 → ∀ w1, Below w.heap.size w w1 → Calls Tryz.prog 37 #[.pointer (some ⟨gl, 0, none⟩), sV s] w1 fun e w' => e = .returned (.int .i64 (wrE L D s)) ∧ LTurn B gl gd A R (wrL L D s) (wrD L D s) w w') := Lib.hid fun h4 w1 b =>
    (write_any G hp hn GD hF (hE.below b) (h.below b) (hD.below b) hlb s h4).mono fun e w' ⟨e1, e2⟩ => ⟨e1, LTurn.pre b hB e2⟩
  have HT0 : Hid (LTurn B gl gd A R L D w w) := Lib.hid (lturn_of h hD (WT.refl _ _) (Below.refl _ _))
  have HE : Hid (apE L D s = if L.fail = true then 14 else if 4096 < s.length then 7 else wrE L D s) := Lib.hid rfl
  have HNN : Hid (apN L D s = if apE L D s = 0 then nextN L else 0) := Lib.hid rfl
  have HDD : Hid (apD L D s = if L.fail = true then D else if 4096 < s.length then D else wrD L D s) := Lib.hid rfl
  have HM : Hid (apL L D s = if L.fail = true then L else if 4096 < s.length then L else if wrE L D s ≠ 0 then noteL (wrL L D s) (wrE L D s) else { wrL L D s with recs := L.recs ++ [s] }) := Lib.hid rfl
  have hgl := hlb gl (.inl rfl)
  have HNo : Hid (∀ w1, LTurn B gl gd A R (wrL L D s) (wrD L D s) w w1 → Calls Tryz.prog 38 #[.pointer (some ⟨gl, 0, none⟩), .int .i64 (wrE L D s)] w1 fun x w' => x = .returned (.int .i64 (wrE L D s)) ∧ LTurn B gl gd A R (noteL (wrL L D s) (wrE L D s)) (wrD L D s) w w') := Lib.hid fun w1 t => by
    obtain ⟨A', c', R', d', k1, k2⟩ := t.log
    exact (note_any (wrE L D s) k1).mono fun e w' ⟨e1, e2, e3⟩ => ⟨e1, t.own_set hB hgl k2 k1 e2 e3⟩
  have HPu : Hid (∀ w1, LTurn B gl gd A R (wrL L D s) (wrD L D s) w w1 → ∃ R' d' A2 c2 w', w1.cell? ⟨gl, 5, none⟩ = some (.slice R' L.recs.length d') ∧ w1.frozen? ⟨gl, 5, none⟩ = false ∧ (Builtin.append_ #[45, 45] 45 #[.slice R' L.recs.length d', .slice (some ⟨w1.heap.size, 0, none⟩) 1 1]).run Tryz.prog (w1.alloc (.cells #[sV s] 9)) = .ok (.slice A2 (L.recs.length + 1) c2) w' ∧
      w'.cell? ⟨gl, 5, none⟩ = some (.slice R' L.recs.length d') ∧ w'.frozen? ⟨gl, 5, none⟩ = false ∧ LTurn B gl gd A R { wrL L D s with recs := L.recs ++ [s] } (wrD L D s) w (w'.setCell ⟨gl, 5, none⟩ (.slice A2 (L.recs.length + 1) c2))) := Lib.hid fun w1 t => by
    obtain ⟨-, -, -, r4⟩ := wr_fields L D s
    obtain ⟨A', c', R', d', k1, k2⟩ := t.log
    obtain ⟨A2, c2, w', p1, p2, p3, p4⟩ := push_recs k1 t.disk (Nat.le_trans hB t.wt.size) (lb_of hlb hB k2) s (by rw [r4]; exact hr)
    have q := k1.cells.read 5
    rw [r4] at p1 p2 p4
    refine ⟨R', d', A2, c2, w', by rw [q]; show some (Value.slice R' (wrL L D s).recs.length d') = _; rw [r4], k1.cells.soft 5, p1, p2, p3, t.then_ k2 p4⟩
  clear h hD hE G GD hF hlb hp hr
  generalize apE L D s = ae at HE HNN ⊢
  generalize apN L D s = an at HNN ⊢
  generalize apD L D s = ad at HDD ⊢
  generalize apL L D s = al at HM ⊢
  generalize ({ wrL L D s with recs := L.recs ++ [s] } : Lg) = M1 at HM HPu
  generalize noteL (wrL L D s) (wrE L D s) = M2 at HM HNo
  generalize L.recs.length = rl at HPu
  generalize L.fail = fl at c8 HE HDD HM
  cases fl
  case true =>
    obtain rfl : ae = 14 := HE.out
    obtain rfl : ad = D := HDD.out
    obtain rfl : al = L := HM.out
    obtain rfl : an = 0 := HNN.out
    clear HE HDD HM HNN HPu HNo HW HNx
    go_enter Tryz.func11, Tryz.ntmps11
    go_wp2_with fail
    go_ret2
    exact ⟨rfl, HT0.out⟩
  have e1 := HE.out
  have e2 := HDD.out
  have e3 := HM.out
  rw [if_neg (by simp)] at e1 e2 e3
  clear HE HDD HM
  by_cases hl : 4096 < s.length
  · rw [if_pos hl] at e1 e2 e3
    subst e1 e2 e3
    obtain rfl : an = 0 := HNN.out
    clear HNN HPu HNo HW HNx
    have hl' : (4096 : Int) < s.length := by omega
    clear hl
    go_enter Tryz.func11, Tryz.ntmps11
    go_wp2_with fail
    go_ret2
    exact ⟨rfl, HT0.out⟩
  rw [if_neg hl] at e1 e2 e3
  subst e1 e2
  replace HW := Lib.hid (HW.out (by omega))
  have hl' : ¬ (4096 : Int) < s.length := by omega
  clear hl HT0
  generalize wrD L D s = wd at HW HNo HPu ⊢
  generalize wrL L D s = wl at HW HNo HPu
  by_cases q : wrE L D s = 0
  case neg =>
    rw [if_pos q] at e3
    subst e3
    have q2 : (wrE L D s != 0) = true := by simpa using q
    obtain rfl : an = 0 := by have := HNN.out; rw [if_neg q] at this; exact this
    clear HNN q HPu
    generalize wrE L D s = we at HW HNo q2 ⊢
    generalize nextN L = nx at HNx
    go_enter Tryz.func11, Tryz.ntmps11
    go_wp2_with (first
      | (go_at_call 16; refine HNx.out.mono ?_; rintro e w1 ⟨rfl, b1⟩; have B1 := Lib.hid b1; clear b1)
      | (go_at_call 37; refine (HW.out _ B1.out).mono ?_; rintro e w2 ⟨rfl, t2⟩; have T2 := Lib.hid t2; clear t2)
      | (go_at_call 38; refine (HNo.out _ T2.out).mono ?_; rintro e w3 ⟨rfl, t3⟩; have T3 := Lib.hid t3; clear t3))
    go_ret2
    exact ⟨rfl, T3.out⟩
  rw [if_neg (by simpa using q)] at e3
  subst e3
  obtain rfl : an = nextN L := by have := HNN.out; rw [if_pos q] at this; exact this
  rw [q] at HW ⊢
  clear HNN q HNo
  generalize nextN L = nx at HNx ⊢
  go_enter Tryz.func11, Tryz.ntmps11
  go_upto_region 9 with (first
      | (go_at_call 16; refine HNx.out.mono ?_; rintro e w1 ⟨rfl, b1⟩; have B1 := Lib.hid b1; clear b1)
      | (go_at_call 37; refine (HW.out _ B1.out).mono ?_; rintro e w2 ⟨rfl, t2⟩; have T2 := Lib.hid t2; clear t2))
  obtain ⟨R', d', A2, c2, w3, c5, f5, hap, c5x, f5x, t3⟩ := HPu.out w2 T2.out
  have T3 := Lib.hid t3
  clear t3
  go_wp2_with (at_builtin; refine wpList_append_run rfl _ _ 45 45 rfl rfl rfl hap ?_)
  go_ret2
  exact ⟨rfl, T3.out⟩
end
end Go.Proofs.YtfpmcomigolacaaGreatDoor.wal
