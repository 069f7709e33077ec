/-
  Acts of law watershedlaw14 that came in, as the walk wants them.
  Acts of law watershedlaw15 that came in, as the walk wants them.
-/
import Derived.Test.YtfpmcomigolacaaGreatDoorJUx3
set_option linter.unusedSimpArgs false
set_option linter.unusedVariables false
namespace Go.Proofs.YtfpmcomigolacaaGreatDoor.wal
open Go.ChangeShapes Go.WideShapes Go.ChangeAt Go.RowKit Go.Maps Go.WideMaps
open Go.Proofs.YtfpmcomigolacaaGreatDoor.words Go.Proofs.YtfpmcomigolacaaGreatDoor.opened Go.Proofs.YtfpmcomigolacaaGreatDoor.block Go.Proofs.YtfpmcomigolacaaGreatDoor.disk

structure Ow where
  k : Int
  s : Bs
  m : Int
  n : Bs
  keep : List Int
  K : Option Addr
  kc : Nat
def Ow.cells (o : Ow) : List Value := [.int .i64 o.k, sV o.s, .int .i64 o.m, sV o.n, .slice o.K o.keep.length o.kc]
def IntIn (n : Int) : Prop := -9223372036854775808 ≤ n ∧ n ≤ 9223372036854775807
structure Ow.In (o : Ow) : Prop where
  k : IntIn o.k
  s : o.s.length ≤ 140737488351232
  m : IntIn o.m
  n : o.n.length ≤ 140737488351232
  keep : ∀ x ∈ o.keep, IntIn x
  len : o.keep.length ≤ 140737488351232
/-- A row of acts that came in. -/
def Actw (w : World) (A : Option Addr) (L : List Ow) : Prop := LiesN w A 5 (L.map Ow.cells) ∧ ∀ o ∈ L, o.In ∧ Lies w o.K (o.keep.map (Value.int .i64))
theorem wf_bd {n : Int} (h : (Lit.int .i64 n).wf = true) : IntIn n := by
  have u := bounds_i64 h
  exact ⟨u.1, by omega⟩
theorem opens_ints : Opens Tryz.prog 23 (sliceR 1 8 (intR .i64)) := opens_slice Tryz.underlying23 (m := 1) (bytes := 8) (by kernel_rfl) (by kernel_rfl) (opens_int Tryz.underlying3)
theorem ints_of {w : World} {cs : List Value} {r : Row Int} (h : sliceR 1 8 (intR .i64) w cs r) : cs = [.slice r.ptr r.elems.length r.cap] ∧ (∀ x ∈ r.elems, IntIn x) ∧ r.elems.length ≤ 140737488351232 ∧ Lies w r.ptr (r.elems.map (Value.int .i64)) := by
  refine ⟨by rw [← row_val h]; exact h.1, fun x hx => ?_, ?_, lies_of (f := Value.int .i64) (fun _ _ _ ha => ha.1) h⟩
  · obtain ⟨cs', hcs⟩ := elem_of h x hx
    exact wf_bd hcs.2
  · have h1 := h.2.1
    have h2 := h.2.2.1
    have h3 := h.2.2.2.2.1
    omega
set_option maxRecDepth 100000 in
theorem top_ints {w : World} {r : Reach} {b : Nat} {v : Value} {q : Row Int} (hv : Value.okWide Tryz.prog w r b 23 v) (h : sliceR 1 8 (intR .i64) w v.cells.toList q) :
    ∃ (A : Option Addr) (c : Nat) (L : List Int), v = .slice A L.length c ∧ (∀ x ∈ L, IntIn x) ∧ L.length ≤ 140737488351232 ∧ Lies w A (L.map (Value.int .i64)) := by
  obtain ⟨-, h2, h3, h4⟩ := ints_of h
  exact ⟨q.ptr, q.cap, q.elems, by rw [top_slice Tryz.underlying23 hv h, row_val h], h2, h3, h4⟩
theorem lies_below {w w' : World} {A : Option Addr} {xs : List Value} (h : Lies w A xs) (hb : Below w.heap.size w w') : Lies w' A xs := lies_turn h (turn_below hb (fun _ => False)) fun _ _ hf => hf
def actwR : Reader (Int × ByteArray × Int × ByteArray × Row Int × Unit) := consR 1 (intR .i64) (consR 1 (strR) (consR 1 (intR .i64) (consR 1 (strR) (consR 1 (sliceR 1 8 (intR .i64)) nilR))))
set_option maxRecDepth 100000 in
theorem opens_actw : Opens Tryz.prog 33 actwR :=
  opens_struct Tryz.underlying33 (by kernel_rfl) (by kernel_rfl) (opensFs_cons (opens_int Tryz.underlying3) (m := 1) (by kernel_rfl) (opensFs_cons (opens_str Tryz.underlying9) (m := 1) (by kernel_rfl) (opensFs_cons (opens_int Tryz.underlying3) (m := 1) (by kernel_rfl) (opensFs_cons (opens_str Tryz.underlying9) (m := 1) (by kernel_rfl) (opensFs_cons opens_ints (m := 1) (by kernel_rfl) opensFs_nil)))))
set_option maxRecDepth 100000 in
theorem opens_actsw : Opens Tryz.prog 22 (sliceR 5 72 actwR) := opens_slice Tryz.underlying22 (m := 5) (bytes := 72) (by kernel_rfl) (by kernel_rfl) opens_actw
def actwOf (p : Int × ByteArray × Int × ByteArray × Row Int × Unit) : Ow := ⟨p.1, p.2.1.data.toList, p.2.2.1, p.2.2.2.1.data.toList, p.2.2.2.2.1.elems, p.2.2.2.2.1.ptr, p.2.2.2.2.1.cap⟩
theorem actw_of {w : World} {cs : List Value} {p : Int × ByteArray × Int × ByteArray × Row Int × Unit} (h : actwR w cs p) : (actwOf p).In ∧ cs = (actwOf p).cells ∧ Lies w (actwOf p).K ((actwOf p).keep.map (Value.int .i64)) := by
  obtain ⟨⟨h0, w0⟩, ⟨h1, w1⟩, ⟨h2, w2⟩, ⟨h3, w3⟩, h4, hz⟩ := h
  obtain ⟨e4, x4, l4, y4⟩ := ints_of h4
  refine ⟨⟨wf_bd w0, ?_, wf_bd w2, ?_, x4, l4⟩, ?_, y4⟩
  · show p.2.1.data.toList.length ≤ _
    rw [Array.length_toList]
    exact w1
  · show p.2.2.2.1.data.toList.length ≤ _
    rw [Array.length_toList]
    exact w3
  · unfold nilR at hz
    match cs, h0, h1, h2, h3, e4, hz with
    | [c0, c1, c2, c3, c4], h0, h1, h2, h3, e4, _ =>
      simp at h0 h1 h2 h3 e4
      subst h0 h1 h2 h3 e4
      simp [Ow.cells, actwOf, sV]
theorem row_actsw {w : World} {cs : List Value} {q : Row (Int × ByteArray × Int × ByteArray × Row Int × Unit)} (h : sliceR 5 72 actwR w cs q) : Actw w q.ptr (q.elems.map actwOf) ∧ q.val = .slice q.ptr (q.elems.map actwOf).length q.cap ∧ (q.elems.map actwOf).length ≤ 4611686018427387903 := by
  refine ⟨⟨?_, fun x hx => ?_⟩, by rw [row_val h, List.length_map], ?_⟩
  · have := liesN_of (f := fun a => (actwOf a).cells) (fun w cs a ha => (actw_of ha).2.1) (by omega) h
    rw [List.map_map]
    exact this
  · obtain ⟨a, ha, rfl⟩ := List.mem_map.1 hx
    obtain ⟨cs', hcs⟩ := elem_of h a ha
    exact ⟨(actw_of hcs).1, (actw_of hcs).2.2⟩
  · have h1 := h.2.1
    have h2 := h.2.2.1
    have h3 := h.2.2.2.2.1
    rw [List.length_map]
    omega
set_option maxRecDepth 100000 in
theorem top_actsw {w : World} {r : Reach} {b : Nat} {v : Value} {q : Row (Int × ByteArray × Int × ByteArray × Row Int × Unit)} (hv : Value.okWide Tryz.prog w r b 22 v) (h : sliceR 5 72 actwR w v.cells.toList q) :
    ∃ (A : Option Addr) (c : Nat) (L : List Ow), v = .slice A L.length c ∧ Actw w A L ∧ L.length ≤ 4611686018427387903 := by
  obtain ⟨h1, h2, h3⟩ := row_actsw h
  exact ⟨q.ptr, q.cap, _, by rw [top_slice Tryz.underlying22 hv h, h2], h1, h3⟩
/-- What came in stays where it is. -/
theorem Actw.below {w w' : World} {A : Option Addr} {L : List Ow} (h : Actw w A L) (hb : Below w.heap.size w w') : Actw w' A L := by
  refine ⟨?_, fun o ho => ⟨(h.2 o ho).1, lies_below (h.2 o ho).2 hb⟩⟩
  rcases h.1 with h0 | ⟨b, off, hp, hl, hc⟩
  · exact .inl h0
  · exact .inr ⟨b, off, hp, Nat.lt_of_lt_of_le hl hb.size, fun i x hx => ⟨(hc i x hx).1, fun j hj => (hb.cell (p := ⟨b, off + (i * 5 + j), none⟩) hl).trans ((hc i x hx).2 j hj)⟩⟩
theorem Actw.at {w : World} {A : Option Addr} {L : List Ow} (h : Actw w A L) {i : Nat} {o : Ow} (ho : L[i]? = some o) : ∃ b off, A = some ⟨b, off, none⟩ ∧ b < w.heap.size ∧
    w.cell? ⟨b, off + i * 5, none⟩ = some (.int .i64 o.k) ∧ w.cell? ⟨b, off + i * 5 + 1, none⟩ = some (sV o.s) ∧ w.cell? ⟨b, off + i * 5 + 2, none⟩ = some (.int .i64 o.m) ∧ w.cell? ⟨b, off + i * 5 + 3, none⟩ = some (sV o.n) ∧ w.cell? ⟨b, off + i * 5 + 4, none⟩ = some (.slice o.K o.keep.length o.kc) := by
  rcases h.1 with h0 | ⟨b, off, hp, hb, hc⟩
  · have : L = [] := by simpa using h0
    subst this
    simp at ho
  · have := (hc i o.cells (by rw [List.getElem?_map, ho]; rfl)).2
    exact ⟨b, off, hp, hb, this 0 (by omega), this 1 (by omega), this 2 (by omega), this 3 (by omega), this 4 (by omega)⟩
theorem Actw.keep {w : World} {A : Option Addr} {L : List Ow} (h : Actw w A L) {i : Nat} {o : Ow} (ho : L[i]? = some o) : o.In ∧ Lies w o.K (o.keep.map (Value.int .i64)) := h.2 o (List.mem_of_getElem? ho)

/-! ### great -/
def greatwB (o : Ow) : Bool := decide (5000 < o.s.length) || (decide (1000 < o.n.length) || (decide (100 < o.keep.length)))
abbrev Ow.val (o : Ow) : Value := .agg #[.int .i64 o.k, sV o.s, .int .i64 o.m, sV o.n, .slice o.K o.keep.length o.kc]
theorem greatw_any (o : Ow) (h : o.In) (w : World) : Calls Tryz.prog 10 #[o.val] w fun e w' => e = .returned (.bool (greatwB o)) ∧ Below w.heap.size w w' := by
  have hk := h.len
  have h_s := h.s
  have h_n := h.n
  clear h
  unfold greatwB
  have HB := Lib.hid (fresh1' w (.cells #[.int .i64 o.k, sV o.s, .int .i64 o.m, sV o.n, .slice o.K o.keep.length o.kc] 33))
  by_cases h0 : 5000 < o.s.length
  · rw [decide_eq_true h0, Bool.true_or]
    have h0i : (5000 : Int) < (o.s.length : Int) := by omega
    clear h0 
    go_enter Tryz.func10, Tryz.ntmps10
    go_wp2_with fail
    go_ret
    exact ⟨rfl, HB.out⟩
  · rw [decide_eq_false h0, Bool.false_or]
    have h0i : ¬ (5000 : Int) < (o.s.length : Int) := by omega
    by_cases h1 : 1000 < o.n.length
    · rw [decide_eq_true h1, Bool.true_or]
      have h1i : (1000 : Int) < (o.n.length : Int) := by omega
      clear h1 h0
      go_enter Tryz.func10, Tryz.ntmps10
      go_wp2_with fail
      go_ret
      exact ⟨rfl, HB.out⟩
    · rw [decide_eq_false h1, Bool.false_or]
      have h1i : ¬ (1000 : Int) < (o.n.length : Int) := by omega
      by_cases h2 : 100 < o.keep.length
      · rw [decide_eq_true h2]
        have h2i : (100 : Int) < (o.keep.length : Int) := by omega
        clear h2 h0 h1
        go_enter Tryz.func10, Tryz.ntmps10
        go_wp2_with fail
        go_ret
        exact ⟨rfl, HB.out⟩
      · rw [decide_eq_false h2]
        have h2i : ¬ (100 : Int) < (o.keep.length : Int) := by omega
        clear h0 h1 h2
        go_enter Tryz.func10, Tryz.ntmps10
        go_wp2_with fail
        go_ret
        exact ⟨rfl, HB.out⟩
theorem greatw_no {o : Ow} (h : greatwB o = false) : o.s.length ≤ 5000 ∧ o.n.length ≤ 1000 ∧ o.keep.length ≤ 100 := by
  unfold greatwB at h
  simp only [Bool.or_eq_false_iff, decide_eq_false_iff_not] at h
  omega
end Go.Proofs.YtfpmcomigolacaaGreatDoor.wal
set_option linter.unusedSimpArgs false
set_option linter.unusedVariables false
namespace Go.Proofs.YtfpmcomigolacaaGreatDoor.wal
open Go.ChangeShapes Go.WideShapes Go.ChangeAt Go.RowKit Go.Maps Go.WideMaps
open Go.Proofs.YtfpmcomigolacaaGreatDoor.words Go.Proofs.YtfpmcomigolacaaGreatDoor.opened Go.Proofs.YtfpmcomigolacaaGreatDoor.block Go.Proofs.YtfpmcomigolacaaGreatDoor.disk

structure Of where
  k : Int
  t : Int
  s : Bs
  m : Int
  keep : List Int
  K : Option Addr
  kc : Nat
def Of.cells (o : Of) : List Value := [.int .i64 o.k, .int .i64 o.t, sV o.s, .int .i64 o.m, .slice o.K o.keep.length o.kc]
structure Of.In (o : Of) : Prop where
  k : IntIn o.k
  t : IntIn o.t
  s : o.s.length ≤ 140737488351232
  m : IntIn o.m
  keep : ∀ x ∈ o.keep, IntIn x
  len : o.keep.length ≤ 140737488351232
/-- A row of acts that came in. -/
def Actf (w : World) (A : Option Addr) (L : List Of) : Prop := LiesN w A 5 (L.map Of.cells) ∧ ∀ o ∈ L, o.In ∧ Lies w o.K (o.keep.map (Value.int .i64))
def actfR : Reader (Int × Int × ByteArray × Int × Row Int × Unit) := consR 1 (intR .i64) (consR 1 (intR .i64) (consR 1 (strR) (consR 1 (intR .i64) (consR 1 (sliceR 1 8 (intR .i64)) nilR))))
set_option maxRecDepth 100000 in
theorem opens_actf : Opens Tryz.prog 52 actfR :=
  opens_struct Tryz.underlying52 (by kernel_rfl) (by kernel_rfl) (opensFs_cons (opens_int Tryz.underlying3) (m := 1) (by kernel_rfl) (opensFs_cons (opens_int Tryz.underlying3) (m := 1) (by kernel_rfl) (opensFs_cons (opens_str Tryz.underlying9) (m := 1) (by kernel_rfl) (opensFs_cons (opens_int Tryz.underlying3) (m := 1) (by kernel_rfl) (opensFs_cons opens_ints (m := 1) (by kernel_rfl) opensFs_nil)))))
set_option maxRecDepth 100000 in
theorem opens_actsf : Opens Tryz.prog 47 (sliceR 5 64 actfR) := opens_slice Tryz.underlying47 (m := 5) (bytes := 64) (by kernel_rfl) (by kernel_rfl) opens_actf
def actfOf (p : Int × Int × ByteArray × Int × Row Int × Unit) : Of := ⟨p.1, p.2.1, p.2.2.1.data.toList, p.2.2.2.1, p.2.2.2.2.1.elems, p.2.2.2.2.1.ptr, p.2.2.2.2.1.cap⟩
theorem actf_of {w : World} {cs : List Value} {p : Int × Int × ByteArray × Int × Row Int × Unit} (h : actfR w cs p) : (actfOf p).In ∧ cs = (actfOf p).cells ∧ Lies w (actfOf p).K ((actfOf p).keep.map (Value.int .i64)) := by
  obtain ⟨⟨h0, w0⟩, ⟨h1, w1⟩, ⟨h2, w2⟩, ⟨h3, w3⟩, h4, hz⟩ := h
  obtain ⟨e4, x4, l4, y4⟩ := ints_of h4
  refine ⟨⟨wf_bd w0, wf_bd w1, ?_, wf_bd w3, x4, l4⟩, ?_, y4⟩
  · show p.2.2.1.data.toList.length ≤ _
    rw [Array.length_toList]
    exact w2
  · unfold nilR at hz
    match cs, h0, h1, h2, h3, e4, hz with
    | [c0, c1, c2, c3, c4], h0, h1, h2, h3, e4, _ =>
      simp at h0 h1 h2 h3 e4
      subst h0 h1 h2 h3 e4
      simp [Of.cells, actfOf, sV]
theorem row_actsf {w : World} {cs : List Value} {q : Row (Int × Int × ByteArray × Int × Row Int × Unit)} (h : sliceR 5 64 actfR w cs q) : Actf w q.ptr (q.elems.map actfOf) ∧ q.val = .slice q.ptr (q.elems.map actfOf).length q.cap ∧ (q.elems.map actfOf).length ≤ 4611686018427387903 := by
  refine ⟨⟨?_, fun x hx => ?_⟩, by rw [row_val h, List.length_map], ?_⟩
  · have := liesN_of (f := fun a => (actfOf a).cells) (fun w cs a ha => (actf_of ha).2.1) (by omega) h
    rw [List.map_map]
    exact this
  · obtain ⟨a, ha, rfl⟩ := List.mem_map.1 hx
    obtain ⟨cs', hcs⟩ := elem_of h a ha
    exact ⟨(actf_of hcs).1, (actf_of hcs).2.2⟩
  · have h1 := h.2.1
    have h2 := h.2.2.1
    have h3 := h.2.2.2.2.1
    rw [List.length_map]
    omega
set_option maxRecDepth 100000 in
theorem top_actsf {w : World} {r : Reach} {b : Nat} {v : Value} {q : Row (Int × Int × ByteArray × Int × Row Int × Unit)} (hv : Value.okWide Tryz.prog w r b 47 v) (h : sliceR 5 64 actfR w v.cells.toList q) :
    ∃ (A : Option Addr) (c : Nat) (L : List Of), v = .slice A L.length c ∧ Actf w A L ∧ L.length ≤ 4611686018427387903 := by
  obtain ⟨h1, h2, h3⟩ := row_actsf h
  exact ⟨q.ptr, q.cap, _, by rw [top_slice Tryz.underlying47 hv h, h2], h1, h3⟩
/-- What came in stays where it is. -/
theorem Actf.below {w w' : World} {A : Option Addr} {L : List Of} (h : Actf w A L) (hb : Below w.heap.size w w') : Actf w' A L := by
  refine ⟨?_, fun o ho => ⟨(h.2 o ho).1, lies_below (h.2 o ho).2 hb⟩⟩
  rcases h.1 with h0 | ⟨b, off, hp, hl, hc⟩
  · exact .inl h0
  · exact .inr ⟨b, off, hp, Nat.lt_of_lt_of_le hl hb.size, fun i x hx => ⟨(hc i x hx).1, fun j hj => (hb.cell (p := ⟨b, off + (i * 5 + j), none⟩) hl).trans ((hc i x hx).2 j hj)⟩⟩
theorem Actf.at {w : World} {A : Option Addr} {L : List Of} (h : Actf w A L) {i : Nat} {o : Of} (ho : L[i]? = some o) : ∃ b off, A = some ⟨b, off, none⟩ ∧ b < w.heap.size ∧
    w.cell? ⟨b, off + i * 5, none⟩ = some (.int .i64 o.k) ∧ w.cell? ⟨b, off + i * 5 + 1, none⟩ = some (.int .i64 o.t) ∧ w.cell? ⟨b, off + i * 5 + 2, none⟩ = some (sV o.s) ∧ w.cell? ⟨b, off + i * 5 + 3, none⟩ = some (.int .i64 o.m) ∧ w.cell? ⟨b, off + i * 5 + 4, none⟩ = some (.slice o.K o.keep.length o.kc) := by
  rcases h.1 with h0 | ⟨b, off, hp, hb, hc⟩
  · have : L = [] := by simpa using h0
    subst this
    simp at ho
  · have := (hc i o.cells (by rw [List.getElem?_map, ho]; rfl)).2
    exact ⟨b, off, hp, hb, this 0 (by omega), this 1 (by omega), this 2 (by omega), this 3 (by omega), this 4 (by omega)⟩
theorem Actf.keep {w : World} {A : Option Addr} {L : List Of} (h : Actf w A L) {i : Nat} {o : Of} (ho : L[i]? = some o) : o.In ∧ Lies w o.K (o.keep.map (Value.int .i64)) := h.2 o (List.mem_of_getElem? ho)

/-! ### great -/
def greatfB (o : Of) : Bool := decide (5000 < o.s.length) || (decide (100 < o.keep.length))
abbrev Of.val (o : Of) : Value := .agg #[.int .i64 o.k, .int .i64 o.t, sV o.s, .int .i64 o.m, .slice o.K o.keep.length o.kc]
theorem greatf_any (o : Of) (h : o.In) (w : World) : Calls Tryz.prog 23 #[o.val] w fun e w' => e = .returned (.bool (greatfB o)) ∧ Below w.heap.size w w' := by
  have hk := h.len
  have h_s := h.s
  clear h
  unfold greatfB
  have HB := Lib.hid (fresh1' w (.cells #[.int .i64 o.k, .int .i64 o.t, sV o.s, .int .i64 o.m, .slice o.K o.keep.length o.kc] 52))
  by_cases h0 : 5000 < o.s.length
  · rw [decide_eq_true h0, Bool.true_or]
    have h0i : (5000 : Int) < (o.s.length : Int) := by omega
    clear h0 
    go_enter Tryz.func23, Tryz.ntmps23
    go_wp2_with fail
    go_ret
    exact ⟨rfl, HB.out⟩
  · rw [decide_eq_false h0, Bool.false_or]
    have h0i : ¬ (5000 : Int) < (o.s.length : Int) := by omega
    by_cases h1 : 100 < o.keep.length
    · rw [decide_eq_true h1]
      have h1i : (100 : Int) < (o.keep.length : Int) := by omega
      clear h1 h0
      go_enter Tryz.func23, Tryz.ntmps23
      go_wp2_with fail
      go_ret
      exact ⟨rfl, HB.out⟩
    · rw [decide_eq_false h1]
      have h1i : ¬ (100 : Int) < (o.keep.length : Int) := by omega
      clear h0 h1
      go_enter Tryz.func23, Tryz.ntmps23
      go_wp2_with fail
      go_ret
      exact ⟨rfl, HB.out⟩
theorem greatf_no {o : Of} (h : greatfB o = false) : o.s.length ≤ 5000 ∧ o.keep.length ≤ 100 := by
  unfold greatfB at h
  simp only [Bool.or_eq_false_iff, decide_eq_false_iff_not] at h
  omega
end Go.Proofs.YtfpmcomigolacaaGreatDoor.wal
