/-
  Acts upon a disk that came in, as the walk wants them.
-/
import Derived.Test.YtkfjgmfokpgcbaaJKwo
namespace Go.Proofs.Ytkfjgmfokpgcbaa.disk
open Go.ChangeShapes Go.WideShapes Go.ChangeAt Go.RowKit Go.Maps Go.WideMaps
open Go.Proofs.Ytkfjgmfokpgcbaa.words Go.Proofs.Ytkfjgmfokpgcbaa.opened Go.Proofs.Ytkfjgmfokpgcbaa.block

/-- An act: its kind, a name, a text, a number; numbers in a row, and where that row lies. -/
structure Oa where
  k : Int
  n : Bs
  s : Bs
  m : Int
  keep : List Int
  K : Option Addr
  kc : Nat
def Oa.cells (o : Oa) : List Value := [.int .i64 o.k, sV o.n, sV o.s, .int .i64 o.m, .slice o.K o.keep.length o.kc]
def IntIn (n : Int) : Prop := -9223372036854775808 ≤ n ∧ n ≤ 9223372036854775807
structure Oa.In (o : Oa) : Prop where
  k : IntIn o.k
  m : IntIn o.m
  n : o.n.length ≤ 140737488351232
  s : o.s.length ≤ 140737488351232
  len : o.keep.length ≤ 140737488351232
  keep : ∀ x ∈ o.keep, IntIn x
/-- A row of acts that came in. -/
def Acts (w : World) (A : Option Addr) (L : List Oa) : Prop := LiesN w A 5 (L.map Oa.cells) ∧ ∀ o ∈ L, o.In ∧ Lies w o.K (o.keep.map (Value.int .i64))
theorem wf_bd {n : Int} (h : (Lit.int .i64 n).wf = true) : IntIn n := by
  have u := bounds_i64 h
  exact ⟨u.1, by omega⟩
def actR : Reader (Int × ByteArray × ByteArray × Int × Row Int × Unit) := consR 1 (intR .i64) (consR 1 strR (consR 1 strR (consR 1 (intR .i64) (consR 1 (sliceR 1 8 (intR .i64)) nilR))))
theorem opens_ints : Opens Try.prog 29 (sliceR 1 8 (intR .i64)) := opens_slice Try.underlying29 (m := 1) (bytes := 8) (by kernel_rfl) (by kernel_rfl) (opens_int Try.underlying3)
set_option maxRecDepth 100000 in
theorem opens_act : Opens Try.prog 31 actR :=
  opens_struct Try.underlying31 (by kernel_rfl) (by kernel_rfl) (opensFs_cons (opens_int Try.underlying3) (m := 1) (by kernel_rfl) (opensFs_cons (opens_str Try.underlying9) (m := 1) (by kernel_rfl) (opensFs_cons (opens_str Try.underlying9) (m := 1) (by kernel_rfl) (opensFs_cons (opens_int Try.underlying3) (m := 1) (by kernel_rfl) (opensFs_cons opens_ints (m := 1) (by kernel_rfl) opensFs_nil)))))
set_option maxRecDepth 100000 in
theorem opens_acts : Opens Try.prog 22 (sliceR 5 72 actR) := opens_slice Try.underlying22 (m := 5) (bytes := 72) (by kernel_rfl) (by kernel_rfl) opens_act
def actOf (p : Int × ByteArray × ByteArray × Int × Row Int × Unit) : Oa := ⟨p.1, p.2.1.data.toList, p.2.2.1.data.toList, p.2.2.2.1, p.2.2.2.2.1.elems, p.2.2.2.2.1.ptr, p.2.2.2.2.1.cap⟩
theorem ints_of {w : World} {cs : List Value} {r : Row Int} (h : sliceR 1 8 (intR .i64) w cs r) : cs = [.slice r.ptr r.elems.length r.cap] ∧ (∀ x ∈ r.elems, IntIn x) ∧ r.elems.length ≤ 140737488351232 ∧ Lies w r.ptr (r.elems.map (Value.int .i64)) := by
  refine ⟨by rw [← row_val h]; exact h.1, fun x hx => ?_, ?_, lies_of (f := Value.int .i64) (fun _ _ _ ha => ha.1) h⟩
  · obtain ⟨cs', hcs⟩ := elem_of h x hx
    exact wf_bd hcs.2
  · have h1 := h.2.1
    have h2 := h.2.2.1
    have h3 := h.2.2.2.2.1
    omega
theorem act_of {w : World} {cs : List Value} {p : Int × ByteArray × ByteArray × Int × Row Int × Unit} (h : actR w cs p) : (actOf p).In ∧ cs = (actOf p).cells ∧ Lies w (actOf p).K ((actOf p).keep.map (Value.int .i64)) := by
  obtain ⟨⟨h0, w0⟩, ⟨h1, w1⟩, ⟨h2, w2⟩, ⟨h3, w3⟩, h4, hz⟩ := h
  obtain ⟨e4, x4, l4, y4⟩ := ints_of h4
  refine ⟨⟨wf_bd w0, wf_bd w3, ?_, ?_, l4, x4⟩, ?_, y4⟩
  · show p.2.1.data.toList.length ≤ _
    rw [Array.length_toList]
    exact w1
  · show p.2.2.1.data.toList.length ≤ _
    rw [Array.length_toList]
    exact w2
  · unfold nilR at hz
    match cs, h0, h1, h2, h3, e4, hz with
    | [c0, c1, c2, c3, c4], h0, h1, h2, h3, e4, _ =>
      simp at h0 h1 h2 h3 e4
      subst h0 h1 h2 h3 e4
      simp [Oa.cells, actOf, sV]
theorem row_acts {w : World} {cs : List Value} {q : Row (Int × ByteArray × ByteArray × Int × Row Int × Unit)} (h : sliceR 5 72 actR w cs q) : Acts w q.ptr (q.elems.map actOf) ∧ q.val = .slice q.ptr (q.elems.map actOf).length q.cap ∧ (q.elems.map actOf).length ≤ 4611686018427387903 := by
  refine ⟨⟨?_, fun x hx => ?_⟩, by rw [row_val h, List.length_map], ?_⟩
  · have := liesN_of (f := fun a => (actOf a).cells) (fun w cs a ha => (act_of ha).2.1) (by omega) h
    rw [List.map_map]
    exact this
  · obtain ⟨a, ha, rfl⟩ := List.mem_map.1 hx
    obtain ⟨cs', hcs⟩ := elem_of h a ha
    exact ⟨(act_of hcs).1, (act_of hcs).2.2⟩
  · have h1 := h.2.1
    have h2 := h.2.2.1
    have h3 := h.2.2.2.2.1
    rw [List.length_map]
    omega
set_option maxRecDepth 100000 in
theorem top_acts {w : World} {r : Reach} {b : Nat} {v : Value} {q : Row (Int × ByteArray × ByteArray × Int × Row Int × Unit)} (hv : Value.okWide Try.prog w r b 22 v) (h : sliceR 5 72 actR w v.cells.toList q) :
    ∃ (A : Option Addr) (c : Nat) (L : List Oa), v = .slice A L.length c ∧ Acts w A L ∧ L.length ≤ 4611686018427387903 := by
  obtain ⟨h1, h2, h3⟩ := row_acts h
  exact ⟨q.ptr, q.cap, _, by rw [top_slice Try.underlying22 hv h, h2], h1, h3⟩
theorem top_ints {w : World} {r : Reach} {b : Nat} {v : Value} {q : Row Int} (hv : Value.okWide Try.prog w r b 29 v) (h : sliceR 1 8 (intR .i64) w v.cells.toList q) :
    ∃ (A : Option Addr) (c : Nat) (L : List Int), v = .slice A L.length c ∧ (∀ x ∈ L, IntIn x) ∧ L.length ≤ 140737488351232 ∧ Lies w A (L.map (Value.int .i64)) := by
  obtain ⟨-, h2, h3, h4⟩ := ints_of h
  exact ⟨q.ptr, q.cap, q.elems, by rw [top_slice Try.underlying29 hv h, row_val h], h2, h3, h4⟩
theorem str_list (s : ByteArray) (h : s.size ≤ 140737488351232) : ∃ l : Bs, s = ⟨l.toArray⟩ ∧ l.length ≤ 140737488351232 := ⟨s.data.toList, by simp, by rw [Array.length_toList]; exact h⟩
theorem Lies.below {w w' : World} {A : Option Addr} {xs : List Value} (h : Lies w A xs) (hb : Below w.heap.size w w') : Lies w' A xs := lies_turn h (turn_below hb (fun _ => False)) fun _ _ hf => hf
theorem Acts.turn {w w' : World} {A : Option Addr} {L : List Oa} {S : Nat → Prop} (h : Acts w A L) (ht : Turn w w' S) (hA : L = [] ∨ ∀ a, A = some a → ¬ S a.block) (hK : ∀ o ∈ L, o.keep = [] ∨ ∀ a, o.K = some a → ¬ S a.block) : Acts w' A L := by
  refine ⟨?_, fun o ho => ⟨(h.2 o ho).1, ?_⟩⟩
  · rcases hA with h0 | hA
    · subst h0
      exact .inl rfl
    · rcases h.1 with h0 | ⟨b, off, hp, hb, hc⟩
      · exact .inl h0
      · have hbb := ht.block b hb (hA _ hp)
        exact .inr ⟨b, off, hp, Nat.lt_of_lt_of_le hb ht.size, fun i x hx => ⟨(hc i x hx).1, fun j hj => (World.cell?_of_block (w := w) (w' := w') (a := ⟨b, off + (i * 5 + j), none⟩) hbb).trans ((hc i x hx).2 j hj)⟩⟩
  · rcases hK o ho with h0 | hK
    · rw [h0]
      exact .inl rfl
    · exact lies_turn (h.2 o ho).2 ht hK
theorem Acts.below {w w' : World} {A : Option Addr} {L : List Oa} (h : Acts w A L) (hb : Below w.heap.size w w') : Acts w' A L := h.turn (turn_below hb (fun _ => False)) (.inr fun _ _ hf => hf) (fun _ _ => .inr fun _ _ hf => hf)
theorem lies_low {w : World} {A : Option Addr} {xs : List Value} (h : Lies w A xs) : xs = [] ∨ ∀ a, A = some a → ¬ w.heap.size ≤ a.block := by
  rcases h with h | ⟨b, off, hA, hb, -⟩
  · exact .inl h
  · exact .inr fun a ha => by
      rw [hA] at ha
      cases ha
      show ¬ w.heap.size ≤ b
      omega
/-- What came in lies below what is new. -/
theorem Acts.low {w : World} {A : Option Addr} {L : List Oa} (h : Acts w A L) : (L = [] ∨ ∀ a, A = some a → ¬ w.heap.size ≤ a.block) ∧ ∀ o ∈ L, o.keep = [] ∨ ∀ a, o.K = some a → ¬ w.heap.size ≤ a.block := by
  refine ⟨?_, fun o ho => ?_⟩
  · rcases h.1 with h0 | ⟨b, off, hp, hb, -⟩
    · exact .inl (by simpa using h0)
    · exact .inr fun a ha => by
        rw [hp] at ha
        cases ha
        show ¬ w.heap.size ≤ b
        omega
  · rcases lies_low (h.2 o ho).2 with h0 | h0
    · exact .inl (by simpa using h0)
    · exact .inr h0
theorem Acts.at {w : World} {A : Option Addr} {L : List Oa} (h : Acts w A L) {i : Nat} {o : Oa} (ho : L[i]? = some o) : ∃ b off, A = some ⟨b, off, none⟩ ∧ b < w.heap.size ∧
    w.cell? ⟨b, off + i * 5, none⟩ = some (.int .i64 o.k) ∧ w.cell? ⟨b, off + i * 5 + 1, none⟩ = some (sV o.n) ∧ w.cell? ⟨b, off + i * 5 + 2, none⟩ = some (sV o.s) ∧ w.cell? ⟨b, off + i * 5 + 3, none⟩ = some (.int .i64 o.m) ∧ w.cell? ⟨b, off + i * 5 + 4, none⟩ = some (.slice o.K o.keep.length o.kc) := by
  rcases h.1 with h0 | ⟨b, off, hp, hb, hc⟩
  · have : L = [] := by simpa using h0
    subst this
    simp at ho
  · have := (hc i o.cells (by rw [List.getElem?_map, ho]; rfl)).2
    exact ⟨b, off, hp, hb, this 0 (by omega), this 1 (by omega), this 2 (by omega), this 3 (by omega), this 4 (by omega)⟩
theorem Acts.keep {w : World} {A : Option Addr} {L : List Oa} (h : Acts w A L) {i : Nat} {o : Oa} (ho : L[i]? = some o) : o.In ∧ Lies w o.K (o.keep.map (Value.int .i64)) := h.2 o (List.mem_of_getElem? ho)
end Go.Proofs.Ytkfjgmfokpgcbaa.disk
