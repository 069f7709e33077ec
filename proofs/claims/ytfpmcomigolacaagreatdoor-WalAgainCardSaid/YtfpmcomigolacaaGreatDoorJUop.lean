/-
  Acts of law watershedlaw14 that came in, as the walk wants them.
  What calls of a log do to its measures, and to files that are none of its own.
-/
import Derived.Test.YtfpmcomigolacaaGreatDoorJUx3
set_option linter.unusedSimpArgs false
set_option linter.unusedVariables false
namespace Go.Proofs.YtfpmcomigolacaaGreatDoor.wal
open Go.ChangeShapes Go.WideShapes Go.ChangeAt Go.RowKit Go.Maps Go.WideMaps
open Go.Proofs.YtfpmcomigolacaaGreatDoor.words Go.Proofs.YtfpmcomigolacaaGreatDoor.opened Go.Proofs.YtfpmcomigolacaaGreatDoor.block Go.Proofs.YtfpmcomigolacaaGreatDoor.disk

structure Ow where
  k : Int
  s : Bs
  m : Int
  n : Bs
  keep : List Int
  K : Option Addr
  kc : Nat
def Ow.cells (o : Ow) : List Value := [.int .i64 o.k, sV o.s, .int .i64 o.m, sV o.n, .slice o.K o.keep.length o.kc]
def IntIn (n : Int) : Prop := -9223372036854775808 ≤ n ∧ n ≤ 9223372036854775807
structure Ow.In (o : Ow) : Prop where
  k : IntIn o.k
  s : o.s.length ≤ 140737488351232
  m : IntIn o.m
  n : o.n.length ≤ 140737488351232
  keep : ∀ x ∈ o.keep, IntIn x
  len : o.keep.length ≤ 140737488351232
/-- A row of acts that came in. -/
def Actw (w : World) (A : Option Addr) (L : List Ow) : Prop := LiesN w A 5 (L.map Ow.cells) ∧ ∀ o ∈ L, o.In ∧ Lies w o.K (o.keep.map (Value.int .i64))
theorem wf_bd {n : Int} (h : (Lit.int .i64 n).wf = true) : IntIn n := by
  have u := bounds_i64 h
  exact ⟨u.1, by omega⟩
theorem opens_ints : Opens Tryz.prog 23 (sliceR 1 8 (intR .i64)) := opens_slice Tryz.underlying23 (m := 1) (bytes := 8) (by kernel_rfl) (by kernel_rfl) (opens_int Tryz.underlying3)
theorem ints_of {w : World} {cs : List Value} {r : Row Int} (h : sliceR 1 8 (intR .i64) w cs r) : cs = [.slice r.ptr r.elems.length r.cap] ∧ (∀ x ∈ r.elems, IntIn x) ∧ r.elems.length ≤ 140737488351232 ∧ Lies w r.ptr (r.elems.map (Value.int .i64)) := by
  refine ⟨by rw [← row_val h]; exact h.1, fun x hx => ?_, ?_, lies_of (f := Value.int .i64) (fun _ _ _ ha => ha.1) h⟩
  · obtain ⟨cs', hcs⟩ := elem_of h x hx
    exact wf_bd hcs.2
  · have h1 := h.2.1
    have h2 := h.2.2.1
    have h3 := h.2.2.2.2.1
    omega
set_option maxRecDepth 100000 in
theorem top_ints {w : World} {r : Reach} {b : Nat} {v : Value} {q : Row Int} (hv : Value.okWide Tryz.prog w r b 23 v) (h : sliceR 1 8 (intR .i64) w v.cells.toList q) :
    ∃ (A : Option Addr) (c : Nat) (L : List Int), v = .slice A L.length c ∧ (∀ x ∈ L, IntIn x) ∧ L.length ≤ 140737488351232 ∧ Lies w A (L.map (Value.int .i64)) := by
  obtain ⟨-, h2, h3, h4⟩ := ints_of h
  exact ⟨q.ptr, q.cap, q.elems, by rw [top_slice Tryz.underlying23 hv h, row_val h], h2, h3, h4⟩
theorem lies_below {w w' : World} {A : Option Addr} {xs : List Value} (h : Lies w A xs) (hb : Below w.heap.size w w') : Lies w' A xs := lies_turn h (turn_below hb (fun _ => False)) fun _ _ hf => hf
def actwR : Reader (Int × ByteArray × Int × ByteArray × Row Int × Unit) := consR 1 (intR .i64) (consR 1 (strR) (consR 1 (intR .i64) (consR 1 (strR) (consR 1 (sliceR 1 8 (intR .i64)) nilR))))
set_option maxRecDepth 100000 in
theorem opens_actw : Opens Tryz.prog 33 actwR :=
  opens_struct Tryz.underlying33 (by kernel_rfl) (by kernel_rfl) (opensFs_cons (opens_int Tryz.underlying3) (m := 1) (by kernel_rfl) (opensFs_cons (opens_str Tryz.underlying9) (m := 1) (by kernel_rfl) (opensFs_cons (opens_int Tryz.underlying3) (m := 1) (by kernel_rfl) (opensFs_cons (opens_str Tryz.underlying9) (m := 1) (by kernel_rfl) (opensFs_cons opens_ints (m := 1) (by kernel_rfl) opensFs_nil)))))
set_option maxRecDepth 100000 in
theorem opens_actsw : Opens Tryz.prog 22 (sliceR 5 72 actwR) := opens_slice Tryz.underlying22 (m := 5) (bytes := 72) (by kernel_rfl) (by kernel_rfl) opens_actw
def actwOf (p : Int × ByteArray × Int × ByteArray × Row Int × Unit) : Ow := ⟨p.1, p.2.1.data.toList, p.2.2.1, p.2.2.2.1.data.toList, p.2.2.2.2.1.elems, p.2.2.2.2.1.ptr, p.2.2.2.2.1.cap⟩
theorem actw_of {w : World} {cs : List Value} {p : Int × ByteArray × Int × ByteArray × Row Int × Unit} (h : actwR w cs p) : (actwOf p).In ∧ cs = (actwOf p).cells ∧ Lies w (actwOf p).K ((actwOf p).keep.map (Value.int .i64)) := by
  obtain ⟨⟨h0, w0⟩, ⟨h1, w1⟩, ⟨h2, w2⟩, ⟨h3, w3⟩, h4, hz⟩ := h
  obtain ⟨e4, x4, l4, y4⟩ := ints_of h4
  refine ⟨⟨wf_bd w0, ?_, wf_bd w2, ?_, x4, l4⟩, ?_, y4⟩
  · show p.2.1.data.toList.length ≤ _
    rw [Array.length_toList]
    exact w1
  · show p.2.2.2.1.data.toList.length ≤ _
    rw [Array.length_toList]
    exact w3
  · unfold nilR at hz
    match cs, h0, h1, h2, h3, e4, hz with
    | [c0, c1, c2, c3, c4], h0, h1, h2, h3, e4, _ =>
      simp at h0 h1 h2 h3 e4
      subst h0 h1 h2 h3 e4
      simp [Ow.cells, actwOf, sV]
theorem row_actsw {w : World} {cs : List Value} {q : Row (Int × ByteArray × Int × ByteArray × Row Int × Unit)} (h : sliceR 5 72 actwR w cs q) : Actw w q.ptr (q.elems.map actwOf) ∧ q.val = .slice q.ptr (q.elems.map actwOf).length q.cap ∧ (q.elems.map actwOf).length ≤ 4611686018427387903 := by
  refine ⟨⟨?_, fun x hx => ?_⟩, by rw [row_val h, List.length_map], ?_⟩
  · have := liesN_of (f := fun a => (actwOf a).cells) (fun w cs a ha => (actw_of ha).2.1) (by omega) h
    rw [List.map_map]
    exact this
  · obtain ⟨a, ha, rfl⟩ := List.mem_map.1 hx
    obtain ⟨cs', hcs⟩ := elem_of h a ha
    exact ⟨(actw_of hcs).1, (actw_of hcs).2.2⟩
  · have h1 := h.2.1
    have h2 := h.2.2.1
    have h3 := h.2.2.2.2.1
    rw [List.length_map]
    omega
set_option maxRecDepth 100000 in
theorem top_actsw {w : World} {r : Reach} {b : Nat} {v : Value} {q : Row (Int × ByteArray × Int × ByteArray × Row Int × Unit)} (hv : Value.okWide Tryz.prog w r b 22 v) (h : sliceR 5 72 actwR w v.cells.toList q) :
    ∃ (A : Option Addr) (c : Nat) (L : List Ow), v = .slice A L.length c ∧ Actw w A L ∧ L.length ≤ 4611686018427387903 := by
  obtain ⟨h1, h2, h3⟩ := row_actsw h
  exact ⟨q.ptr, q.cap, _, by rw [top_slice Tryz.underlying22 hv h, h2], h1, h3⟩
/-- What came in stays where it is. -/
theorem Actw.below {w w' : World} {A : Option Addr} {L : List Ow} (h : Actw w A L) (hb : Below w.heap.size w w') : Actw w' A L := by
  refine ⟨?_, fun o ho => ⟨(h.2 o ho).1, lies_below (h.2 o ho).2 hb⟩⟩
  rcases h.1 with h0 | ⟨b, off, hp, hl, hc⟩
  · exact .inl h0
  · exact .inr ⟨b, off, hp, Nat.lt_of_lt_of_le hl hb.size, fun i x hx => ⟨(hc i x hx).1, fun j hj => (hb.cell (p := ⟨b, off + (i * 5 + j), none⟩) hl).trans ((hc i x hx).2 j hj)⟩⟩
theorem Actw.at {w : World} {A : Option Addr} {L : List Ow} (h : Actw w A L) {i : Nat} {o : Ow} (ho : L[i]? = some o) : ∃ b off, A = some ⟨b, off, none⟩ ∧ b < w.heap.size ∧
    w.cell? ⟨b, off + i * 5, none⟩ = some (.int .i64 o.k) ∧ w.cell? ⟨b, off + i * 5 + 1, none⟩ = some (sV o.s) ∧ w.cell? ⟨b, off + i * 5 + 2, none⟩ = some (.int .i64 o.m) ∧ w.cell? ⟨b, off + i * 5 + 3, none⟩ = some (sV o.n) ∧ w.cell? ⟨b, off + i * 5 + 4, none⟩ = some (.slice o.K o.keep.length o.kc) := by
  rcases h.1 with h0 | ⟨b, off, hp, hb, hc⟩
  · have : L = [] := by simpa using h0
    subst this
    simp at ho
  · have := (hc i o.cells (by rw [List.getElem?_map, ho]; rfl)).2
    exact ⟨b, off, hp, hb, this 0 (by omega), this 1 (by omega), this 2 (by omega), this 3 (by omega), this 4 (by omega)⟩
theorem Actw.keep {w : World} {A : Option Addr} {L : List Ow} (h : Actw w A L) {i : Nat} {o : Ow} (ho : L[i]? = some o) : o.In ∧ Lies w o.K (o.keep.map (Value.int .i64)) := h.2 o (List.mem_of_getElem? ho)

/-! ### great -/
def greatwB (o : Ow) : Bool := decide (5000 < o.s.length) || (decide (1000 < o.n.length) || (decide (100 < o.keep.length)))
abbrev Ow.val (o : Ow) : Value := .agg #[.int .i64 o.k, sV o.s, .int .i64 o.m, sV o.n, .slice o.K o.keep.length o.kc]
theorem greatw_any (o : Ow) (h : o.In) (w : World) : Calls Tryz.prog 10 #[o.val] w fun e w' => e = .returned (.bool (greatwB o)) ∧ Below w.heap.size w w' := by
  have hk := h.len
  have h_s := h.s
  have h_n := h.n
  clear h
  unfold greatwB
  have HB := Lib.hid (fresh1' w (.cells #[.int .i64 o.k, sV o.s, .int .i64 o.m, sV o.n, .slice o.K o.keep.length o.kc] 33))
  by_cases h0 : 5000 < o.s.length
  · rw [decide_eq_true h0, Bool.true_or]
    have h0i : (5000 : Int) < (o.s.length : Int) := by omega
    clear h0 
    go_enter Tryz.func10, Tryz.ntmps10
    go_wp2_with fail
    go_ret
    exact ⟨rfl, HB.out⟩
  · rw [decide_eq_false h0, Bool.false_or]
    have h0i : ¬ (5000 : Int) < (o.s.length : Int) := by omega
    by_cases h1 : 1000 < o.n.length
    · rw [decide_eq_true h1, Bool.true_or]
      have h1i : (1000 : Int) < (o.n.length : Int) := by omega
      clear h1 h0
      go_enter Tryz.func10, Tryz.ntmps10
      go_wp2_with fail
      go_ret
      exact ⟨rfl, HB.out⟩
    · rw [decide_eq_false h1, Bool.false_or]
      have h1i : ¬ (1000 : Int) < (o.n.length : Int) := by omega
      by_cases h2 : 100 < o.keep.length
      · rw [decide_eq_true h2]
        have h2i : (100 : Int) < (o.keep.length : Int) := by omega
        clear h2 h0 h1
        go_enter Tryz.func10, Tryz.ntmps10
        go_wp2_with fail
        go_ret
        exact ⟨rfl, HB.out⟩
      · rw [decide_eq_false h2]
        have h2i : ¬ (100 : Int) < (o.keep.length : Int) := by omega
        clear h0 h1 h2
        go_enter Tryz.func10, Tryz.ntmps10
        go_wp2_with fail
        go_ret
        exact ⟨rfl, HB.out⟩
theorem greatw_no {o : Ow} (h : greatwB o = false) : o.s.length ≤ 5000 ∧ o.n.length ≤ 1000 ∧ o.keep.length ≤ 100 := by
  unfold greatwB at h
  simp only [Bool.or_eq_false_iff, decide_eq_false_iff_not] at h
  omega
end Go.Proofs.YtfpmcomigolacaaGreatDoor.wal
set_option linter.unusedSimpArgs false
set_option linter.unusedVariables false
namespace Go.Proofs.YtfpmcomigolacaaGreatDoor.wal
open Go.Proofs.YtfpmcomigolacaaGreatDoor.enc Go.Proofs.YtfpmcomigolacaaGreatDoor.code Go.Proofs.YtfpmcomigolacaaGreatDoor.crcm Go.Proofs.YtfpmcomigolacaaGreatDoor.words Go.Proofs.YtfpmcomigolacaaGreatDoor.disk

/-! ### The disk -/
theorem app_used {D : Dk} (G : GoodD D) (n s : Bs) : used (appV D n s).F ≤ used D.F + s.length ∧ (appV D n s).F.length ≤ D.F.length + 1 := by
  unfold appV
  split
  · constructor
    · show used (put _ D.F) ≤ _
      rw [old_len G.srt]
      exact Nat.le_refl _
    · show (put _ D.F).length ≤ _
      rw [(put_perm _ D.F).length_eq, List.length_cons]
      exact Nat.succ_le_succ (List.length_filter_le _ _)
  · split
    · rw [stpV_F]
      omega
    · omega
theorem syn_used {D : Dk} (G : GoodD D) (n : Bs) : used (synV D n).F = used D.F := by
  unfold synV
  split
  · show used (put _ D.F) = _
    have := old_len G.srt n [] (oldB D.F n).length
    rw [List.append_nil] at this
    simpa using this
  · unfold onV
    split
    · rw [stpV_F]
    · rfl
theorem rem_used {D : Dk} (n : Bs) : used (remV D n).F ≤ used D.F := by
  unfold remV
  split
  · exact used_filter _ _
  · unfold onV
    split
    · rw [stpV_F]
      exact Nat.le_refl _
    · exact Nat.le_refl _
theorem sl_used {D : Dk} (G : GoodD D) (L : Lg) : used (slD L D).F = used D.F := by
  unfold slD
  split
  · rfl
  split
  · rfl
  split
  · rfl
  split
  · rfl
  · exact syn_used G _
theorem sy_used {D : Dk} (G : GoodD D) (L : Lg) : used (syD L D).F = used D.F := by
  unfold syD
  split
  · rfl
  · exact sl_used G L
theorem quiet_stp {D : Dk} (Q : Quiet D) : stpV D = D := by
  unfold stpV
  rw [Q.2, if_neg (by decide), if_neg (by decide)]
theorem quiet_app {D : Dk} (Q : Quiet D) (n s : Bs) : Quiet (appV D n s) := by
  unfold appV
  rw [quiet_stp Q]
  split
  · exact Q
  · split <;> exact Q
theorem quiet_on {D : Dk} (Q : Quiet D) (n : Bs) : Quiet (onV D n) := by
  unfold onV
  rw [quiet_stp Q]
  split <;> exact Q
theorem quiet_syn {D : Dk} (Q : Quiet D) (n : Bs) : Quiet (synV D n) := by
  have := quiet_on Q n
  unfold synV
  rw [quiet_stp Q]
  split
  · exact Q
  · exact this
theorem quiet_rem {D : Dk} (Q : Quiet D) (n : Bs) : Quiet (remV D n) := by
  have := quiet_on Q n
  unfold remV
  rw [quiet_stp Q]
  split
  · exact Q
  · exact this
theorem quiet_sy {D : Dk} (Q : Quiet D) (L : Lg) : Quiet (syD L D) := by
  unfold syD slD
  split
  · exact Q
  split
  · exact Q
  split
  · exact Q
  split
  · exact Q
  split
  · exact Q
  · exact quiet_syn Q _
theorem quiet_ap {D : Dk} (Q : Quiet D) (L : Lg) (s : Bs) : Quiet (apD L D s) := by
  unfold apD wrD bgD
  split
  · exact Q
  split
  · exact Q
  split
  · split
    · exact Q
    split
    · exact quiet_sy Q L
    · exact quiet_app (quiet_sy Q L) _ _
  · exact quiet_app Q _ _
theorem quiet_drF : ∀ (k : Nat) (L : Lg) (D : Dk) (n : Int), Quiet D → Quiet (drF k L D n).2.2
  | 0, _, _, _, Q => Q
  | k + 1, L, D, n, Q => by
    unfold drF
    split
    · split
      · exact quiet_rem Q _
      · exact quiet_drF k _ _ n (quiet_rem Q _)
    · exact Q
theorem quiet_dr {D : Dk} (Q : Quiet D) (L : Lg) (n : Int) : Quiet (drV L D n).2.2 := by
  unfold drV
  split
  · exact Q
  split
  · exact Q
  split
  · exact quiet_sy Q L
  · exact quiet_drF _ _ _ n (quiet_sy Q L)

/-! ### A log -/
/-- Its name, so many records a file, its measures. -/
structure Kp (nm : Bs) (per : Int) (i : Nat) (L : Lg) : Prop where
  good : GoodL L
  bare : Bare L
  nm : L.nm = nm
  per : L.per = per
  next : nextN L ≤ (i : Int)
  files : nextF L ≤ 1 + (i : Int)
structure Sz (i : Nat) (D : Dk) : Prop where
  gd : GoodD D
  used : used D.F ≤ i * 4134
  len : D.F.length ≤ 2 * i
theorem Kp.recs {nm : Bs} {per : Int} {i : Nat} {L : Lg} (h : Kp nm per i L) : L.recs.length ≤ i := by
  have h1 := h.next
  have h2 := h.good.base
  unfold nextN at h1
  omega
theorem Kp.more {nm : Bs} {per : Int} {i j : Nat} {L : Lg} (h : Kp nm per i L) (hij : i ≤ j) : Kp nm per j L := ⟨h.good, h.bare, h.nm, h.per, by have := h.next; omega, by have := h.files; omega⟩
set_option maxRecDepth 100000 in
theorem Sz.more {i j : Nat} {D : Dk} (h : Sz i D) (hij : i ≤ j) : Sz j D := ⟨h.gd, by have := h.used; have := Nat.mul_le_mul_right 4134 hij; omega, by have := h.len; omega⟩
theorem ap_fields (L : Lg) (D : Dk) (s : Bs) : (apL L D s).nm = L.nm ∧ (apL L D s).per = L.per ∧ (apL L D s).least = L.least ∧ ((apL L D s).heads = L.heads ∨ (apL L D s).heads = L.heads ++ [nextN L]) ∧ (apL L D s).recs = (if apE L D s = 0 then L.recs ++ [s] else L.recs) := by
  obtain ⟨s1, s2, s3, s4, s5, s6⟩ := sy_fields L D
  have hw : (wrL L D s).nm = L.nm ∧ (wrL L D s).per = L.per ∧ (wrL L D s).least = L.least ∧ ((wrL L D s).heads = L.heads ∨ (wrL L D s).heads = L.heads ++ [nextN L]) ∧ (wrL L D s).recs = L.recs := by
    unfold wrL bgL
    split
    · split
      · exact ⟨rfl, rfl, rfl, .inl rfl, rfl⟩
      split
      · exact ⟨s1, s2, s3, .inl s4, s5⟩
      split
      · exact ⟨s1, s2, s3, .inl s4, s5⟩
      · exact ⟨s1, s2, s3, .inr rfl, s5⟩
    · exact ⟨rfl, rfl, rfl, .inl rfl, rfl⟩
  obtain ⟨w1, w2, w3, w4, w5⟩ := hw
  unfold apL apE
  by_cases hf : L.fail = true
  · rw [if_pos hf, if_pos hf, if_neg (by decide)]
    exact ⟨rfl, rfl, rfl, .inl rfl, rfl⟩
  rw [if_neg hf, if_neg hf]
  by_cases hl : 4096 < s.length
  · rw [if_pos hl, if_pos hl, if_neg (by decide)]
    exact ⟨rfl, rfl, rfl, .inl rfl, rfl⟩
  rw [if_neg hl, if_neg hl]
  by_cases hw : wrE L D s ≠ 0
  · obtain ⟨q1, q2, q3, q4, q5, q6, q7⟩ := note_fields (wrL L D s) (wrE L D s)
    rw [if_pos hw, if_neg hw]
    exact ⟨q1.trans w1, q2.trans w2, q3.trans w3, by rw [q4]; exact w4, q5.trans w5⟩
  · rw [if_neg hw, if_pos (by simpa using hw)]
    exact ⟨w1, w2, w3, w4, rfl⟩
theorem ap_next {L : Lg} {D : Dk} (hb : Bare L) (s : Bs) : baseN (apL L D s) = baseN L ∧ nextN (apL L D s) = nextN L + (if apE L D s = 0 then 1 else 0) ∧ nextF (apL L D s) ≤ nextF L + 1 ∧ nextF L ≤ nextF (apL L D s) := by
  obtain ⟨f1, f2, f3, f4, f5⟩ := ap_fields L D s
  have hbase : baseN (apL L D s) = baseN L := by
    rcases f4 with f4 | f4
    · unfold baseN
      rw [f4]
    · unfold baseN
      rw [f4]
      cases e : L.heads with
      | nil =>
        have : L.recs = [] := hb e
        unfold nextN baseN
        rw [e, this]
        rfl
      | cons a r => rfl
  refine ⟨hbase, ?_, ?_, ?_⟩
  · unfold nextN
    rw [hbase, f5]
    split
    · rw [List.length_append, List.length_singleton]
      push_cast
      omega
    · omega
  · unfold nextF
    rw [f3]
    rcases f4 with f4 | f4
    · rw [f4]
      omega
    · rw [f4, List.length_append, List.length_singleton]
      push_cast
      omega
  · unfold nextF
    rw [f3]
    rcases f4 with f4 | f4
    · rw [f4]
      omega
    · rw [f4, List.length_append, List.length_singleton]
      push_cast
      omega
set_option maxRecDepth 100000 in
theorem ap_sz {L : Lg} {D : Dk} {i : Nat} (h : Sz i D) (s : Bs) : Sz (i + 1) (apD L D s) := by
  have h1 := h.used
  have h2 := h.len
  have hu := sy_used h.gd L
  obtain ⟨g1, g2⟩ := good_syD h.gd L
  refine ⟨good_apD h.gd L s, ?_, ?_⟩
  · unfold apD wrD bgD
    split
    · omega
    split
    · omega
    rename_i hs
    obtain ⟨n1, n2⟩ := newB_len L s (by omega)
    split
    · split
      · omega
      split
      · omega
      · have := (app_used g1 (fn L.nm (nextF L)) (newB L s)).1
        omega
    · have := (app_used h.gd (lastF L) (frameL s)).1
      omega
  · unfold apD wrD bgD
    split
    · omega
    split
    · omega
    split
    · split
      · omega
      split
      · omega
      · have := (app_used g1 (fn L.nm (nextF L)) (newB L s)).2
        omega
    · have := (app_used h.gd (lastF L) (frameL s)).2
      omega
theorem Kp.app {nm : Bs} {per : Int} {i : Nat} {L : Lg} (h : Kp nm per i L) (D : Dk) (s : Bs) : Kp nm per (i + 1) (apL L D s) := by
  obtain ⟨f1, f2, f3, f4, f5⟩ := ap_fields L D s
  obtain ⟨n1, n2, n3, n4⟩ := ap_next (D := D) h.bare s
  have h1 := h.next
  have h2 := h.files
  exact ⟨good_apL h.good h.bare, bare_apL h.bare, f1.trans h.nm, f2.trans h.per, by rw [n2]; split <;> (push_cast; omega), by push_cast; omega⟩
set_option maxRecDepth 100000 in
theorem sy_sz {L : Lg} {D : Dk} {i : Nat} (h : Sz i D) : Sz (i + 1) (syD L D) := by
  have h1 := h.used
  have h2 := h.len
  have hu := sy_used h.gd L
  obtain ⟨g1, g2⟩ := good_syD h.gd L
  exact ⟨g1, by omega, by omega⟩
theorem Kp.sync {nm : Bs} {per : Int} {i : Nat} {L : Lg} (h : Kp nm per i L) (D : Dk) : Kp nm per i (syL L D) := by
  obtain ⟨s1, s2, s3, s4, s5, s6⟩ := sy_fields L D
  obtain ⟨n1, n2, n3⟩ := sy_next L D
  exact ⟨good_sy h.good D, bare_sy h.bare D, s1.trans h.nm, s2.trans h.per, by rw [n1]; exact h.next, by rw [n2]; exact h.files⟩
theorem drF_fields : ∀ (k : Nat) (L : Lg) (D : Dk) (n : Int), (drF k L D n).2.1.nm = L.nm ∧ (drF k L D n).2.1.per = L.per ∧ nextF (drF k L D n).2.1 = nextF L ∧ used (drF k L D n).2.2.F ≤ used D.F
  | 0, _, _, _ => ⟨rfl, rfl, rfl, Nat.le_refl _⟩
  | k + 1, L, D, n => by
    unfold drF
    split
    · rename_i hp
      split
      · obtain ⟨q1, q2, q3, q4, q5, q6, q7⟩ := note_fields L (dfE L D)
        exact ⟨q1, q2, by unfold nextF; rw [q3, q4], rem_used _⟩
      · obtain ⟨h1, h2, h3, h4⟩ := drF_fields k (dfV L) (dfD L D) n
        refine ⟨h1, h2, h3.trans ?_, Nat.le_trans h4 (rem_used _)⟩
        show L.least + 1 + (L.heads.tail.length : Int) = L.least + L.heads.length
        have : L.heads ≠ [] := by
          intro e
          unfold pastB at hp
          rw [e] at hp
          cases hp
        have := List.length_pos_iff.2 this
        rw [List.length_tail]
        omega
    · exact ⟨rfl, rfl, rfl, Nat.le_refl _⟩
theorem dr_fields {L : Lg} {D : Dk} (G : GoodD D) (n : Int) : (drV L D n).2.1.nm = L.nm ∧ (drV L D n).2.1.per = L.per ∧ nextF (drV L D n).2.1 = nextF L ∧ used (drV L D n).2.2.F ≤ used D.F := by
  obtain ⟨s1, s2, s3, s4, s5, s6⟩ := sy_fields L D
  obtain ⟨n1, n2, n3⟩ := sy_next L D
  have hu := sy_used G L
  unfold drV
  split
  · exact ⟨rfl, rfl, rfl, Nat.le_refl _⟩
  split
  · exact ⟨rfl, rfl, rfl, Nat.le_refl _⟩
  split
  · exact ⟨s1, s2, n2, Nat.le_of_eq hu⟩
  · obtain ⟨h1, h2, h3, h4⟩ := drF_fields L.heads.length (syL L D) (syD L D) n
    exact ⟨h1.trans s1, h2.trans s2, h3.trans n2, by omega⟩
set_option maxRecDepth 100000 in
theorem dr_sz {L : Lg} {D : Dk} {nm : Bs} {per : Int} {i k : Nat} (hk : Kp nm per k L) (h : Sz i D) (n : Int) : Sz (i + 1) (drV L D n).2.2 := by
  obtain ⟨g1, g2, g3, g4, g5⟩ := good_drV (n := n) hk.good hk.bare h.gd
  obtain ⟨f1, f2, f3, f4⟩ := dr_fields (L := L) h.gd n
  have h1 := h.used
  have h2 := h.len
  exact ⟨g3, by omega, by omega⟩
theorem Kp.drop {nm : Bs} {per : Int} {i : Nat} {L : Lg} {D : Dk} (h : Kp nm per i L) (G : GoodD D) (n : Int) : Kp nm per i (drV L D n).2.1 := by
  obtain ⟨g1, g2, g3, g4, g5⟩ := good_drV (n := n) h.good h.bare G
  obtain ⟨f1, f2, f3, f4⟩ := dr_fields (L := L) G n
  exact ⟨g1, g2, f1.trans h.nm, f2.trans h.per, by rw [g5]; exact h.next, by rw [f3]; exact h.files⟩
/-- An append leaves files that are none of the log's. -/
theorem ap_other {L : Lg} {D : Dk} (G : GoodL L) (GD : GoodD D) (s m : Bs) (hm : ∀ k, m ≠ fn L.nm k) : lk (apD L D s).F m = lk D.F m := by
  have hsy : lk (syD L D).F m = lk D.F m := by
    unfold syD
    split
    · rfl
    · rw [sl_lk GD, if_neg (by rintro ⟨-, -, h⟩; exact hm _ h)]
  unfold apD wrD bgD
  split
  · rfl
  split
  · rfl
  split
  · split
    · rfl
    split
    · exact hsy
    · rw [app_lk (good_syD GD L).1, if_neg (by rintro ⟨-, h⟩; exact hm _ h)]
      exact hsy
  · rw [app_lk GD, if_neg (by rintro ⟨-, h⟩; exact hm _ h)]
theorem fn_qr (j k : Int) : fn [113] j ≠ fn [114] k := by
  intro h
  unfold fn at h
  simp at h
/-! ### A log that is new -/
theorem opn_new {nm : Bs} {per : Int} (hn : nameB nm = true) (hl : nm.length ≤ 8) (hd : isDig (nm.getLast?.getD 0) = false) (hp : 1 ≤ per ∧ per ≤ 64) : opnV K0 nm per (srtI (numsU nm K0.F)) = (0, lg0 nm per, K0) := by
  have e0 : srtI (numsU nm K0.F) = [] := by
    rw [show numsU nm K0.F = [] from rfl]
    simp [srtI]
  have hc : chkE K0 nm per = 0 := by
    unfold chkE
    rw [if_neg (by decide), if_neg (by rw [hn]; decide), if_neg (by omega), if_neg (by rw [hd]; decide), if_neg (by omega)]
  have h1 : slE (lg0 nm per) K0 = 0 := by
    unfold slE
    rw [if_neg (by decide), if_pos (show (lg0 nm per).heads = [] from rfl)]
  have h2 : slD (lg0 nm per) K0 = K0 := by
    unfold slD
    rw [if_neg (by decide), if_pos (show (lg0 nm per).heads = [] from rfl)]
  have e1 : syE (lg0 nm per) K0 = 0 := by unfold syE; rw [if_neg (show ¬ (lg0 nm per).fail = true from Bool.false_ne_true), h1]
  have e2 : syD (lg0 nm per) K0 = K0 := by unfold syD; rw [if_neg (show ¬ (lg0 nm per).fail = true from Bool.false_ne_true), h2]
  have e3 : syL (lg0 nm per) K0 = lg0 nm per := by unfold syL; rw [if_neg (show ¬ (lg0 nm per).fail = true from Bool.false_ne_true), if_neg (by rw [h1]; decide)]; rfl
  rw [e0]
  unfold opnV
  rw [if_neg (by rw [hc]; decide)]
  show (if (0 : Int) ≠ 0 then _ else (syE (lg0 nm per) K0, syL (lg0 nm per) K0, syD (lg0 nm per) K0)) = _
  rw [if_neg (by decide), e1, e2, e3]
theorem inv_new (nm : Bs) (per : Int) : Inv (lg0 nm per) K0 [] := by
  have := inv_lgOf (nm := nm) (per := per) (least := 1) (b := 0) (gs := []) (D := K0) trivial (Int.le_refl _) (fun _ hx => nomatch hx) (fun j f hj => by cases hj) (fun _ _ _ _ => rfl)
  exact this
theorem kp_new {nm : Bs} (per : Int) (hl : nm.length ≤ 8) : Kp nm per 0 (lg0 nm per) := ⟨(tk_zero per hl).good, fun _ => rfl, rfl, rfl, Int.le_refl _, Int.le_refl _⟩
theorem sz_new : Sz 0 K0 := ⟨good_new, Nat.le_refl _, Nat.le_refl _⟩
theorem srt_one_f {F : List Fl} (h : Srt F) {i j : Nat} {f g : Fl} (hi : F[i]? = some f) (hj : F[j]? = some g) (e : f.n = g.n) : i = j := by
  obtain ⟨i1, i2⟩ := List.getElem?_eq_some_iff.1 hi
  obtain ⟨j1, j2⟩ := List.getElem?_eq_some_iff.1 hj
  unfold Srt at h
  rw [List.pairwise_iff_getElem] at h
  rcases Nat.lt_trichotomy i j with h1 | h1 | h1
  · have := h i j i1 j1 h1
    rw [i2, j2, e] at this
    exact absurd this (lt_irr _)
  · exact h1
  · have := h j i j1 i1 h1
    rw [i2, j2, e] at this
    exact absurd this (lt_irr _)
theorem mem_mend_f (keep : List Int) : ∀ {F : List Fl} {i j : Nat} {f : Fl}, F[j]? = some f → leftN keep (i + j) f ≠ 0 → mendF keep (i + j) f ∈ mendL keep i F
  | x :: r, i, j, f, h, h0 => by
    unfold mendL
    cases j with
    | zero =>
      obtain rfl : x = f := by simpa using h
      rw [Nat.add_zero] at h0 ⊢
      rw [if_neg h0]
      simp
    | succ j =>
      have h' : r[j]? = some f := by simpa using h
      have ih := mem_mend_f keep (F := r) (i := i + 1) (j := j) h' (by rw [show i + 1 + j = i + (j + 1) by omega]; exact h0)
      rw [show i + 1 + j = i + (j + 1) by omega] at ih
      split
      · exact ih
      · simp [ih]
theorem mend_lk' {F : List Fl} (hs : Srt F) (keep : List Int) {i : Nat} {f : Fl} (h : F[i]? = some f) : lk (mendL keep 0 F) f.n = if leftN keep i f = 0 then none else some (mendF keep i f) := by
  split
  · rename_i h0
    refine lk_none.2 fun x hx e => ?_
    obtain ⟨j, g, h1, h2, rfl⟩ := mend_mem keep hx
    rw [Nat.zero_add] at h2
    have := srt_one_f hs h1 h e
    subst this
    rw [h] at h1
    cases h1
    exact h2 h0
  · rename_i h0
    have := mem_mend_f keep (i := 0) h (by rw [Nat.zero_add]; exact h0)
    rw [Nat.zero_add] at this
    exact lk_mem (srt_mend hs keep 0) this
theorem cut_mend {nm : Bs} {D : Dk} (G : GoodD D) (keep : List Int) : Cut nm D (mendV D keep) := by
  refine ⟨rfl, rfl, fun k _ _ => ⟨fun h => ?_, fun f hf => ?_⟩⟩
  · refine lk_none.2 fun x hx e => ?_
    obtain ⟨j, g, h1, h2, rfl⟩ := mend_mem keep hx
    exact lk_none.1 h g (List.mem_of_getElem? h1) e
  · obtain ⟨h1, h2⟩ := lk_some hf
    obtain ⟨i, hi, he⟩ := List.mem_iff_getElem.1 h1
    have hj : D.F[i]? = some f := List.getElem?_eq_some_iff.2 ⟨hi, he⟩
    have := mend_lk' G.srt keep hj
    rw [h2] at this
    by_cases h0 : leftN keep i f = 0
    · rw [if_pos h0] at this
      left
      exact ⟨this, by have := leftN_lo keep i f; omega⟩
    · rw [if_neg h0] at this
      right
      refine ⟨leftN keep i f, leftN keep i f, leftN_lo keep i f, leftN_hi keep i (G.lasts f h1), leftN_lo keep i f, Nat.le_refl _, ?_⟩
      show lk (mendL keep 0 D.F) (fn nm k) = _
      rw [this, ← h2]
      rfl
set_option maxRecDepth 100000 in
theorem mend_sz {D : Dk} {i : Nat} (h : Sz i D) (keep : List Int) : Sz i (mendV D keep) := by
  refine ⟨good_mend h.gd keep, Nat.le_trans (used_mend keep _ _) h.used, ?_⟩
  have := (mend_names keep D.F 0).length_le
  rw [List.length_map, List.length_map] at this
  have h2 := h.len
  show (mendL keep 0 D.F).length ≤ _
  omega
set_option maxRecDepth 100000 in
theorem arm_sz {D : Dk} {i : Nat} (h : Sz i D) {n : Int} (h0 : -9223372036854775808 ≤ n) (h1 : n ≤ 9223372036854775807) : Sz i (armV D n) := ⟨good_arm h.gd h0 h1, h.used, h.len⟩
end Go.Proofs.YtfpmcomigolacaaGreatDoor.wal
