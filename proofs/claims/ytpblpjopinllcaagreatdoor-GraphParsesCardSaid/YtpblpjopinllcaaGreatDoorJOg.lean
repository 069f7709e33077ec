/-
  Rows that are one's own, of elements of any kind; a store of one cell; a call in a region. It names no number of a program.
  The laws' own copies of a graph, from the program's kind to the document's and back (by gen_to.py).
-/
import Derived.Test.YtpblpjopinllcaaGreatDoorJRt5
import Derived.Test.YtpblpjopinllcaaGreatDoorJWm
import Derived.Test.YtpblpjopinllcaaGreatDoorJWn
import Derived.Test.YtpblpjopinllcaaGreatDoorJLayG
import Derived.Handy
import Derived.BigQuiet
namespace Go.Proofs.YtpblpjopinllcaaGreatDoor.region
open Go.ChangeShapes Go.WideShapes Go.ChangeAt Go.RowKit
open Go.Proofs.YtpblpjopinllcaaGreatDoor.opened Go.Proofs.YtpblpjopinllcaaGreatDoor.block

theorem yieldsW_callR {P : Program} {w : World} {o : Oper} {ρ : Operand → Value} {f : FuncId} {xs : Array Operand} {ts : Array TypeId} {T : Value → World → Prop} (ho : o.op = .call { callee := .value (.func f), args := xs, argTypes := ts }) {vs : Array Value} (hx : xs.map ρ = vs) (hf : ρ (.func f) = .func (.func f) #[] #[]) {fn : Func} (hfn : P.funcs[f]? = some fn) (hname : (fn.name == "runtime.NumGoroutine") = false) (hbody : fn.body.isNone = false)
    (h : Calls P f vs w fun e w' => ∃ u, e = .returned u ∧ T u w') : YieldsW P o ρ w T := by
  have h1 : ¬ fn.name = "runtime.NumGoroutine" := by simpa using hname
  have h2 : ¬ fn.body = none := by
    intro e
    rw [e] at hbody
    cases hbody
  refine .inr ⟨f, vs, ?_, h⟩
  unfold execOp
  simp [ho, hx, hf, resolve, go_sem, callFunc, hfn, h1, h2]
theorem grown_below {a b : World} {row : Option Nat} (h : Below a.heap.size a b) : a.grownBy b row := ⟨h.os, h.tape, h.output, h.size, fun k hk _ => h.block k hk⟩
theorem grown_own {a b c : World} {g : Nat} {row : Option Nat} (h : a.grownBy b (some g)) (k : b.grownBy c row) (hr : ∀ j, row = some j → a.heap.size ≤ j) : a.grownBy c (some g) :=
  ⟨k.os.trans h.os, k.tape.trans h.tape, k.output.trans h.output, Nat.le_trans h.size k.size, fun j hj hne => (k.block j (Nat.lt_of_lt_of_le hj h.size) (fun e => by have := hr j e.symm; omega)).trans (h.block j hj hne)⟩
theorem whole_cells {w : World} {g : Nat} {t : TypeId} {xs : List Value} (h : Whole w g t xs.toArray) : ∀ j u, xs[j]? = some u → w.cell? ((⟨g, 0, none⟩ : Addr).add j) = some u := by
  intro j u hj
  unfold Whole at h
  rcases j with _ | j <;> simp [World.cell?, Addr.add, h, hj]
/-- What an element's cells are to be: so many, each of one cell. -/
structure Cells {α : Type} (m : Nat) (f : α → List Value) : Prop where
  len : ∀ x, (f x).length = m
  one : ∀ x, ∀ v ∈ f x, v.oneCell' = true
/-- A slice of elements that is one's own. -/
abbrev OwnG {α : Type} (T : TypeId) (m : Nat) (f : α → List Value) (w : World) (base : Nat) (v : Value) (N : List α) : Prop := w.ownsRow base T m v N.length (N.flatMap f)
section
variable {α : Type} {m : Nat} {f : α → List Value} {T : TypeId}
theorem flatG_len (F : Cells m f) (N : List α) : (N.flatMap f).length = N.length * m := by
  induction N with
  | nil => simp
  | cons x r ih => rw [List.flatMap_cons, List.length_append, ih, List.length_cons, F.len, Nat.add_mul]; omega
theorem flatG_at (F : Cells m f) (N : List α) : ∀ (i : Nat) (y : α) (j : Nat), N[i]? = some y → j < m → (N.flatMap f)[i * m + j]? = (f y)[j]? := by
  induction N with
  | nil => intro i y j h; simp at h
  | cons x r ih =>
    intro i y j h hj
    have h5 := F.len x
    rw [List.flatMap_cons]
    cases i with
    | zero =>
      simp at h
      subst h
      rw [List.getElem?_append_left (by rw [h5]; omega)]
      simp
    | succ i =>
      rw [List.getElem?_append_right (by rw [h5, Nat.add_mul]; omega), h5, show (i + 1) * m + j - m = i * m + j by rw [Nat.add_mul]; omega]
      exact ih i y j (by simpa using h) hj
theorem OwnG.lg (F : Cells m f) {w : World} {base : Nat} {A : Option Addr} {n c : Nat} {N : List α} (h : OwnG T m f w base (.slice A n c) N) : graph.Lg m f w A N := by
  rcases h.2 with ⟨-, hn⟩ | ⟨g, cap, cur, hv, hb, hg, hc, hcm, hs, ht⟩
  · rw [List.eq_nil_of_length_eq_zero hn]; exact .inl rfl
  · injection hv with h1 h2 h3
    subst h1
    refine .inr ⟨g, 0, rfl, (Array.getElem?_eq_some_iff.1 hg).1, fun i x hx => ?_⟩
    rw [List.getElem?_map, Option.map_eq_some_iff] at hx
    obtain ⟨y, hy, rfl⟩ := hx
    refine ⟨F.len y, fun j hj => ?_⟩
    have e := flatG_at F N i y j hy hj
    have hi := (List.getElem?_eq_some_iff.1 hy).1
    have hlt : i * m + j < N.length * m := by
      have : (i + 1) * m ≤ N.length * m := Nat.mul_le_mul_right m hi
      rw [Nat.add_mul] at this
      omega
    rw [← ht, List.getElem?_take, if_pos hlt, Array.getElem?_toList] at e
    rw [← e]
    simp [World.cell?, hg]
theorem OwnG.below {w w' : World} {base : Nat} {v : Value} {N : List α} (h : OwnG T m f w base v N) (hb : Below w.heap.size w w') : OwnG T m f w' base v N := by
  refine ⟨h.1, ?_⟩
  rcases h.2 with hn | ⟨g, cap, cur, hv, hg0, hg, rest⟩
  · exact .inl hn
  · exact .inr ⟨g, cap, cur, hv, hg0, (hb.block g (Array.getElem?_eq_some_iff.1 hg).1).trans hg, rest⟩
theorem OwnG.past {w w' : World} {base : Nat} {row : Option Nat} {v : Value} {N : List α} (h : OwnG T m f w base v N) (hg : w.grownBy w' row) (hn : ∀ k, row = some k → some k ≠ v.ownBlock) : OwnG T m f w' base v N := by
  refine ⟨h.1, ?_⟩
  rcases h.2 with hx | ⟨g', cap, cur, hv, hg0, hh, rest⟩
  · exact .inl hx
  · refine .inr ⟨g', cap, cur, hv, hg0, (hg.block g' (Array.getElem?_eq_some_iff.1 hh).1 (fun e => hn g' e.symm ?_)).trans hh, rest⟩
    rw [hv]
    rfl
theorem OwnG.away {w : World} {base gz : Nat} {v : Value} {N : List α} (h : OwnG T m f w base v N) (hz : w.heap.size ≤ gz) : some gz ≠ v.ownBlock := by
  rcases h.2 with ⟨rfl, _⟩ | ⟨g, cap, cur, rfl, hb, hg, _⟩
  · simp [Value.ownBlock]
  · have := (Array.getElem?_eq_some_iff.1 hg).1
    simp [Value.ownBlock]
    omega
theorem OwnG.above {w : World} {base k : Nat} {v : Value} {N : List α} (h : OwnG T m f w base v N) (e : v.ownBlock = some k) : base ≤ k := by
  rcases h.2 with ⟨rfl, _⟩ | ⟨g, cap, cur, rfl, hb, _, _⟩
  · simp [Value.ownBlock] at e
  · obtain rfl : g = k := by simpa [Value.ownBlock] using e
    exact hb
theorem OwnG.keptG {w w' : World} {base g : Nat} {v : Value} {N : List α} (h : OwnG T m f w base v N) (hg : w.grownBy w' (some g)) (hb : g < base) : OwnG T m f w' base v N :=
  h.past hg fun k e he => by
    cases e
    have := h.above he.symm
    omega
theorem OwnG.room {w : World} {base : Nat} {A : Option Addr} {n c : Nat} {N : List α} (h : OwnG T m f w base (.slice A n c) N) : N.length ≤ c := by
  rcases h.2 with ⟨-, hn⟩ | ⟨g, cap, cur, hv, hb, hg, hc, hcm, hs, ht⟩
  · omega
  · injection hv with h1 h2 h3
    omega
theorem OwnG.gap {w : World} {base : Nat} {A : Option Addr} {n c : Nat} {N : List α} (h : OwnG T m f w base (.slice A n c) N) : ∀ a, A = some a → base ≤ a.block := by
  rintro a rfl
  rcases h.2 with ⟨hv, -⟩ | ⟨g, cap, cur, hv, hb, hg, hc, hcm, hs, ht⟩
  · cases hv
  · injection hv with h1 h2 h3
    injection h1 with h1
    subst h1
    exact hb
theorem OwnG.succ {W : World} {base k : Nat} {v : Value} {xs : List Value} (h : W.ownsRow base T m v (k + 1) xs) : ∃ g cap, v = .slice (some ⟨g, 0, none⟩) (k + 1) cap := by
  rcases h.2 with ⟨-, h0⟩ | ⟨g, cap, cur, hv, -⟩
  · omega
  · exact ⟨g, cap, hv⟩
theorem ownG_nil (w : World) (base : Nat) : OwnG T m f w base (.slice none 0 0) [] := World.ownsRow_nil _ _ _ _
/-- A row of one element, newer than a place. -/
def LoneG (T : TypeId) (f : α → List Value) (z : Nat) (p : α) : Value → World → Prop := fun u w => ∃ gx, u = .slice (some ⟨gx, 0, none⟩) 1 1 ∧ z ≤ gx ∧ Whole w gx T (f p).toArray
theorem keeps_loneG (z : Nat) (p : α) : Keeps (LoneG T f z p) := fun _ _ _ hb ⟨gx, h1, h2, h3⟩ => ⟨gx, h1, h2, h3.below hb h3.inside⟩
def NewG (T : TypeId) (m : Nat) (f : α → List Value) (base : Nat) (N : List α) : Value → World → Prop := fun u w => ∃ g' c', u = .slice (some ⟨g', 0, none⟩) N.length c' ∧ OwnG T m f w base u N
theorem keeps_newG (base : Nat) (N : List α) : Keeps (NewG T m f base N) := fun _ _ _ hb ⟨g', c', h1, h2⟩ => ⟨g', c', h1, h2.below hb⟩
/-- A block holds these cells, one of them a row that is one's own. -/
def LaidG (T : TypeId) (m : Nat) (f : α → List Value) (gm : Nat) (tm : TypeId) (cs : Value → Array Value) (base : Nat) (N : List α) : Value → World → Prop := fun _ w => ∃ D c', Whole w gm tm (cs (.slice D N.length c')) ∧ OwnG T m f w base (.slice D N.length c') N
theorem keeps_laidG (gm : Nat) (tm : TypeId) (cs : Value → Array Value) (base : Nat) (N : List α) : Keeps (LaidG T m f gm tm cs base N) := fun _ _ _ hb ⟨D, c', h1, h2⟩ => ⟨D, c', h1.below hb h1.inside, h2.below hb⟩
/-- A row that came, or was made, stays where only another block turns. -/
theorem lg_past {w w' : World} {A : Option Addr} {M : List α} {gx : Nat} (h : graph.Lg m f w A M) (hg : w.grownBy w' (some gx)) (hn : ∀ a, A = some a → a.block ≠ gx) : graph.Lg m f w' A M := by
  rcases h with h | ⟨b, off, hA, hbl, hc⟩
  · exact .inl h
  · have hb := hg.block b hbl (by have := hn _ hA; simpa using this)
    refine .inr ⟨b, off, hA, Nat.lt_of_lt_of_le hbl hg.size, fun i x hx => ⟨(hc i x hx).1, fun j hj => ?_⟩⟩
    rw [← (hc i x hx).2 j hj]
    simp only [World.cell?, hb]
end
end Go.Proofs.YtpblpjopinllcaaGreatDoor.region
namespace Go.Proofs.YtpblpjopinllcaaGreatDoor.region
open Go.RowKit Go.Proofs.YtpblpjopinllcaaGreatDoor.block
theorem yields_index {P : Program} {w : World} {o : Oper} {ρ : Operand → Value} {ty : TypeId} {x y : Operand} (ho : o.op = .indexAddr ty x y) {b off n c i m : Nat} {e : TypeId} (hx : ρ x = .slice (some ⟨b, off, none⟩) n c) (hy : ρ y = .int .i64 i) (hi : i < n)
    (ht : P.underlying ty = some (.slice e)) (hs : ∀ w, (sizeOf e).run P w = .ok m w) : Yields P o ρ w (Is (.pointer (some ⟨b, off + i * m, none⟩))) := by
  refine yields_run (u := .pointer (some ⟨b, off + i * m, none⟩)) (w' := w) ?_ (Below.refl _ _) rfl
  have h1 : 0 ≤ (i : Int) ∧ (i : Int) < (n : Int) := by omega
  unfold execOp
  simp [ho, hx, hy, go_sem, Instr.indexAt, Sem.run_bind, run_underlying ht, hs, h1, asIntOf, hi]
end Go.Proofs.YtpblpjopinllcaaGreatDoor.region
namespace Go.Proofs.YtpblpjopinllcaaGreatDoor.graph
open Go.ChangeShapes Go.WideShapes Go.ChangeAt Go.RowKit
open Go.Proofs.YtpblpjopinllcaaGreatDoor.opened Go.Proofs.YtpblpjopinllcaaGreatDoor.block Go.Proofs.YtpblpjopinllcaaGreatDoor.words Go.Proofs.YtpblpjopinllcaaGreatDoor.region
/-- The rooms are at least as wide as the rows. -/
structure Rooms (v : Gv) (g : Gr) : Prop where
  i : g.c.length ≤ v.i
  j : g.l.length ≤ v.j
  k : g.o.length ≤ v.k
  m : g.h.length ≤ v.m
theorem CELLS_cCl : Cells 2 cCl := ⟨fun _ => rfl, fun x v hv => by simp [cCl] at hv; rcases hv with rfl | rfl <;> rfl⟩
theorem CELLS_cLo : Cells 3 cLo := ⟨fun _ => rfl, fun x v hv => by simp [cLo] at hv; rcases hv with rfl | rfl | rfl <;> rfl⟩
theorem CELLS_cOq : Cells 6 cOq := ⟨fun _ => rfl, fun x v hv => by simp [cOq] at hv; rcases hv with rfl | rfl | rfl | rfl | rfl | rfl <;> rfl⟩
theorem CELLS_cCh : Cells 2 cCh := ⟨fun _ => rfl, fun x v hv => by simp [cCh] at hv; rcases hv with rfl | rfl <;> rfl⟩
theorem infoD_graph_Cl : ∃ i, Tryz.prog.info? 143 = some i ∧ i.zero = some (.agg #[sV [], .int .i64 0]) ∧ i.size = 2 ∧ i.bytes = 24 := by
  have h : (Tryz.prog.info? 143).map (fun i => (i.zero, i.size, i.bytes)) = some (some (.agg #[sV [], .int .i64 0]), 2, 24) := by kernel_rfl
  rw [Option.map_eq_some_iff] at h
  obtain ⟨i, hi, he⟩ := h
  simp only [Prod.mk.injEq] at he
  exact ⟨i, hi, he.1, he.2.1, he.2.2⟩
theorem infoD_graph_Lo : ∃ i, Tryz.prog.info? 144 = some i ∧ i.zero = some (.agg #[sV [], .int .i64 0, .int .i64 0]) ∧ i.size = 3 ∧ i.bytes = 32 := by
  have h : (Tryz.prog.info? 144).map (fun i => (i.zero, i.size, i.bytes)) = some (some (.agg #[sV [], .int .i64 0, .int .i64 0]), 3, 32) := by kernel_rfl
  rw [Option.map_eq_some_iff] at h
  obtain ⟨i, hi, he⟩ := h
  simp only [Prod.mk.injEq] at he
  exact ⟨i, hi, he.1, he.2.1, he.2.2⟩
theorem infoD_graph_Oq : ∃ i, Tryz.prog.info? 145 = some i ∧ i.zero = some (.agg #[sV [], .int .i64 0, .int .i64 0, .int .i64 0, .int .i64 0, .int .i64 0]) ∧ i.size = 6 ∧ i.bytes = 56 := by
  have h : (Tryz.prog.info? 145).map (fun i => (i.zero, i.size, i.bytes)) = some (some (.agg #[sV [], .int .i64 0, .int .i64 0, .int .i64 0, .int .i64 0, .int .i64 0]), 6, 56) := by kernel_rfl
  rw [Option.map_eq_some_iff] at h
  obtain ⟨i, hi, he⟩ := h
  simp only [Prod.mk.injEq] at he
  exact ⟨i, hi, he.1, he.2.1, he.2.2⟩
theorem infoD_graph_Ch : ∃ i, Tryz.prog.info? 61 = some i ∧ i.zero = some (.agg #[.int .i64 0, .int .i64 0]) ∧ i.size = 2 ∧ i.bytes = 16 := by
  have h : (Tryz.prog.info? 61).map (fun i => (i.zero, i.size, i.bytes)) = some (some (.agg #[.int .i64 0, .int .i64 0]), 2, 16) := by kernel_rfl
  rw [Option.map_eq_some_iff] at h
  obtain ⟨i, hi, he⟩ := h
  simp only [Prod.mk.injEq] at he
  exact ⟨i, hi, he.1, he.2.1, he.2.2⟩
theorem infoD_ref09_Cl : ∃ i, Tryz.prog.info? 137 = some i ∧ i.zero = some (.agg #[sV [], .int .i64 0]) ∧ i.size = 2 ∧ i.bytes = 24 := by
  have h : (Tryz.prog.info? 137).map (fun i => (i.zero, i.size, i.bytes)) = some (some (.agg #[sV [], .int .i64 0]), 2, 24) := by kernel_rfl
  rw [Option.map_eq_some_iff] at h
  obtain ⟨i, hi, he⟩ := h
  simp only [Prod.mk.injEq] at he
  exact ⟨i, hi, he.1, he.2.1, he.2.2⟩
theorem infoD_ref09_Lo : ∃ i, Tryz.prog.info? 139 = some i ∧ i.zero = some (.agg #[sV [], .int .i64 0, .int .i64 0]) ∧ i.size = 3 ∧ i.bytes = 32 := by
  have h : (Tryz.prog.info? 139).map (fun i => (i.zero, i.size, i.bytes)) = some (some (.agg #[sV [], .int .i64 0, .int .i64 0]), 3, 32) := by kernel_rfl
  rw [Option.map_eq_some_iff] at h
  obtain ⟨i, hi, he⟩ := h
  simp only [Prod.mk.injEq] at he
  exact ⟨i, hi, he.1, he.2.1, he.2.2⟩
theorem infoD_ref09_Oq : ∃ i, Tryz.prog.info? 141 = some i ∧ i.zero = some (.agg #[sV [], .int .i64 0, .int .i64 0, .int .i64 0, .int .i64 0, .int .i64 0]) ∧ i.size = 6 ∧ i.bytes = 56 := by
  have h : (Tryz.prog.info? 141).map (fun i => (i.zero, i.size, i.bytes)) = some (some (.agg #[sV [], .int .i64 0, .int .i64 0, .int .i64 0, .int .i64 0, .int .i64 0]), 6, 56) := by kernel_rfl
  rw [Option.map_eq_some_iff] at h
  obtain ⟨i, hi, he⟩ := h
  simp only [Prod.mk.injEq] at he
  exact ⟨i, hi, he.1, he.2.1, he.2.2⟩
theorem infoD_ref09_Ch : ∃ i, Tryz.prog.info? 142 = some i ∧ i.zero = some (.agg #[.int .i64 0, .int .i64 0]) ∧ i.size = 2 ∧ i.bytes = 16 := by
  have h : (Tryz.prog.info? 142).map (fun i => (i.zero, i.size, i.bytes)) = some (some (.agg #[.int .i64 0, .int .i64 0]), 2, 16) := by kernel_rfl
  rw [Option.map_eq_some_iff] at h
  obtain ⟨i, hi, he⟩ := h
  simp only [Prod.mk.injEq] at he
  exact ⟨i, hi, he.1, he.2.1, he.2.2⟩
set_option maxRecDepth 100000 in
set_option maxHeartbeats 8000000 in
theorem toG_any (v : Gv) (g : Gr) (lc : g.c.length ≤ 100000) (ll : g.l.length ≤ 100000) (lo : g.o.length ≤ 100000) (lh : g.h.length ≤ 100000) (w : World) (h : Lies4 w v g) :
    Calls Tryz.prog 22 #[gV v g] w fun e w' => ∃ v' : Gv, e = .returned (gV v' g) ∧ Lies4 w' v' g ∧ Rooms v' g ∧ Below w.heap.size w w' := by
  obtain ⟨va, vb, vd, ve, vi, vj, vk, vm⟩ := v
  unfold gV
  dsimp only
  have H := Lib.hid h
  clear h
  obtain ⟨i0, hi0, hz00, hz01, hz02⟩ := infoD_graph_Cl
  obtain ⟨i1, hi1, hz10, hz11, hz12⟩ := infoD_graph_Lo
  obtain ⟨i2, hi2, hz20, hz21, hz22⟩ := infoD_graph_Oq
  obtain ⟨i3, hi3, hz30, hz31, hz32⟩ := infoD_graph_Ch
  go_enter Tryz.func22, Tryz.ntmps22
  go_upto_region 2 with fail
  change Code.wp _ _ _ _ (((w.alloc (.cells #[.slice va g.c.length vi, .slice vb g.l.length vj, .slice vd g.o.length vk, .slice ve g.h.length vm] 36)).alloc (.cells #[.slice none 0 0, .slice none 0 0, .slice none 0 0, .slice none 0 0] 27)).alloc (.cells #[.slice none 0 0, .slice none 0 0, .slice none 0 0, .slice none 0 0] 27))
  have b1 := fresh1 w (.cells #[.slice va g.c.length vi, .slice vb g.l.length vj, .slice vd g.o.length vk, .slice ve g.h.length vm] 36)
  have OG := Whole.fresh w 36 #[.slice va g.c.length vi, .slice vb g.l.length vj, .slice vd g.o.length vk, .slice ve g.h.length vm]
  have e1 : (w.alloc (.cells #[.slice va g.c.length vi, .slice vb g.l.length vj, .slice vd g.o.length vk, .slice ve g.h.length vm] 36)).heap.size = w.heap.size + 1 := by rw [size_alloc]
  generalize w.alloc (.cells #[.slice va g.c.length vi, .slice vb g.l.length vj, .slice vd g.o.length vk, .slice ve g.h.length vm] 36) = w1 at b1 OG e1 ⊢
  have b2 := fresh1 w1 (.cells #[.slice none 0 0, .slice none 0 0, .slice none 0 0, .slice none 0 0] 27)
  have OR := Whole.fresh w1 27 #[.slice none 0 0, .slice none 0 0, .slice none 0 0, .slice none 0 0]
  rw [e1] at OR
  have OG2 := OG.below b2 OG.inside
  have e2 : (w1.alloc (.cells #[.slice none 0 0, .slice none 0 0, .slice none 0 0, .slice none 0 0] 27)).heap.size = w.heap.size + 1 + 1 := by rw [size_alloc, e1]
  generalize w1.alloc (.cells #[.slice none 0 0, .slice none 0 0, .slice none 0 0, .slice none 0 0] 27) = w2 at b2 OR OG2 e2 ⊢
  have b3 := fresh1 w2 (.cells #[.slice none 0 0, .slice none 0 0, .slice none 0 0, .slice none 0 0] 27)
  have OX := Whole.fresh w2 27 #[.slice none 0 0, .slice none 0 0, .slice none 0 0, .slice none 0 0]
  rw [e2] at OX
  have OG3 := OG2.below b3 OG2.inside
  have OR3 := OR.below b3 OR.inside
  generalize w2.alloc (.cells #[.slice none 0 0, .slice none 0 0, .slice none 0 0, .slice none 0 0] 27) = w4 at b3 OX OG3 OR3 ⊢
  have B4 := Lib.hid (b1.trans ((b2.mono b1.size).trans (b3.mono (Nat.le_trans b1.size b2.size))))
  have hgx4 := OX.inside
  clear OG OG2 OR b1 b2 b3 e1 e2
  obtain ⟨gg, hgg⟩ : ∃ gg, w.heap.size = gg := ⟨_, rfl⟩
  have hg0 := Nat.le_of_eq hgg
  rw [hgg] at OG3 OR3 OX hgx4 ⊢
  obtain ⟨gr, hgr'⟩ : ∃ gr, gg + 1 = gr := ⟨_, rfl⟩
  have hgr : gg < gr := by omega
  rw [hgr'] at OR3 OX hgx4 ⊢
  obtain ⟨gx, hgx'⟩ : ∃ gx, gr + 1 = gx := ⟨_, rfl⟩
  have hrx : gr < gx := by omega
  rw [hgx'] at OX hgx4 ⊢
  clear hgg hgr' hgx'
  replace OG3 := Lib.hid OG3
  replace OR3 := Lib.hid OR3
  have GX := Lib.hid hgx4
  have hGR := Lib.hid (And.intro hgr hrx)
  have hG0 := Lib.hid hg0
  have X0 := Lib.hid OX
  clear OX hgx4 hgr hrx hg0
  go_wp2_with fail
  go_loopw [4] (fun a wr => ∃ (i : Nat) (N : List Cl) (A0 : Option Addr) (C0 : Nat), i ≤ g.c.length ∧ Hid (N.length = i) ∧ a = .int .i64 i ∧ Hid (N = g.c.take i) ∧ Hid (Whole wr gx 27 #[(.slice A0 i C0), .slice none 0 0, .slice none 0 0, .slice none 0 0]) ∧ Hid (OwnG 143 2 cCl wr w4.heap.size (.slice A0 i C0) N) ∧ Hid (w4.grownBy wr (some gx))) (fun a _ => (g.c.length - intOf a).toNat)
  case atStart => exact ⟨0, [], none, 0, by omega, Lib.hid rfl, rfl, Lib.hid rfl, X0, Lib.hid (ownG_nil _ _), Lib.hid (World.grownBy.refl _ _)⟩
  case round =>
    obtain ⟨i, N, A0, C0, hil, hNi, rfl, HN, X9, HO9, G9⟩ := hrel
    have S9 := Lib.hid G9.out.size
    have k0 : wr.cell? ⟨gg, 0, none⟩ = some (.slice va g.c.length vi) := (OG3.out.grown G9.out (by have := hGR.out; simp; omega)).read 0
    by_cases hin : i = g.c.length
    case neg =>
      have hlt : i < g.c.length := by omega
      obtain ⟨x, hx⟩ : ∃ x, g.c[i]? = some x := ⟨g.c[i], List.getElem?_eq_getElem hlt⟩
      obtain ⟨b1, o1, hA, hb1, c0, c1⟩ := at_cl H.out.c hx
      change va = _ at hA
      subst hA
      have HN2 : Hid (N ++ [x] = g.c.take (i + 1)) := Lib.hid (by rw [List.take_add_one, hx, HN.out]; rfl)
      have BW : ∀ w7, w4.grownBy w7 (some gx) → Below w.heap.size w w7 := fun w7 h7 => below_only B4.out h7 B4.out.size (by have := hGR.out; have := hG0.out; omega)
      have SR : ∀ w7, w4.grownBy w7 (some gx) → w7.cell? ⟨gg, 0, none⟩ = some (.slice (some ⟨b1, o1, none⟩) g.c.length vi) := fun w7 h7 => (OG3.out.grown h7 (by have := hGR.out; simp; omega)).read 0
      have E0 : ∀ w7, w4.grownBy w7 (some gx) → w7.cell? ⟨b1, o1 + i * 2, none⟩ = some (sV x.n) := fun w7 h7 => ((BW w7 h7).cell (p := ⟨b1, o1 + i * 2, none⟩) hb1).trans c0
      have E1 : ∀ w7, w4.grownBy w7 (some gx) → w7.cell? ⟨b1, o1 + i * 2 + 1, none⟩ = some (.int .i64 x.w) := fun w7 h7 => ((BW w7 h7).cell (p := ⟨b1, o1 + i * 2 + 1, none⟩) hb1).trans c1
      clear c0 c1 hx
      go_upto_region 5 with fail
      clear k0
      refine region_full 121 [(16, 18)] [(16, 1), (18, 1), (18, 16)] (fun k => k == 1 || k == 16 || k == 18) (fun w7 => w4.grownBy w7 (some gx) ∧ wr.heap.size ≤ w7.heap.size) ?hR ?r0 [pdOne 0 (Is (.pointer (some ⟨gx, 0, none⟩))), pdOne 1 (Is (.slice A0 i C0)), pdOne 2 (Is (.pointer (some ⟨gg, 0, none⟩))), pdOne 3 (Is (.slice (some ⟨b1, o1, none⟩) g.c.length vi)), pdOne 4 (Is (.int .i64 i)), pdOne 5 (Is (.pointer (some ⟨b1, o1 + i * 2, none⟩))), pdOne 6 (Is (.pointer (some ⟨b1, o1 + i * 2, none⟩))), pdOne 7 (Is (sV x.n)), pdOne 8 (Is (.pointer (some ⟨gg, 0, none⟩))), pdOne 9 (Is (.slice (some ⟨b1, o1, none⟩) g.c.length vi)), pdOne 10 (Is (.int .i64 i)), pdOne 11 (Is (.pointer (some ⟨b1, o1 + i * 2, none⟩))), pdOne 12 (Is (.pointer (some ⟨b1, o1 + i * 2 + 1, none⟩))), pdOne 13 (Is (.int .i64 x.w)), pdOne 14 (Is (.agg (cCl x).toArray)), pdOne 15 (LoneG 143 cCl wr.heap.size x), pdOne 16 (NewG 143 2 cCl w4.heap.size (N ++ [x])), pdOne 17 (Is (.pointer (some ⟨gx, 0, none⟩))), pdOne 18 (LaidG 143 2 cCl gx 27 (fun u => #[u, .slice none 0 0, .slice none 0 0, .slice none 0 0]) w4.heap.size (N ++ [x]))] (fun k w7 => (k = 1 → Whole w7 gx 27 ((fun u => #[u, .slice none 0 0, .slice none 0 0, .slice none 0 0]) (.slice A0 i C0))) ∧ (k = 16 → OwnG 143 2 cCl w7 w4.heap.size (.slice A0 i C0) N) ∧ (k = 18 → ∃ u, Whole w7 gx 27 ((fun u => #[u, .slice none 0 0, .slice none 0 0, .slice none 0 0]) u))) (by kernel_rfl) rfl (by kernel_rfl) (by kernel_rfl) (by kernel_rfl) (by kernel_rfl) ?keep ?hO ?h0 ?tell
      case hR => exact fun w7 w8 hb ⟨h1, h2⟩ => ⟨grown_own h1 (grown_below hb (row := none)) (fun j e => by cases e), Nat.le_trans h2 hb.size⟩
      case r0 => exact ⟨G9.out, Nat.le_refl _⟩
      case keep => exact ⟨keep_one (keeps_is _), keep_one (keeps_is _), keep_one (keeps_is _), keep_one (keeps_is _), keep_one (keeps_is _), keep_one (keeps_is _), keep_one (keeps_is _), keep_one (keeps_is _), keep_one (keeps_is _), keep_one (keeps_is _), keep_one (keeps_is _), keep_one (keeps_is _), keep_one (keeps_is _), keep_one (keeps_is _), keep_one (keeps_is _), keep_one (keeps_loneG _ _), keep_one (keeps_newG _ _), keep_one (keeps_is _), keep_one (keeps_laidG _ _ _ _ _), trivial⟩
      case hO => exact fun k w7 w8 hb ⟨h1, h2, h3⟩ => ⟨fun e => (h1 e).below hb (h1 e).inside, fun e => (h2 e).below hb, fun e => (h3 e).imp fun u hx => hx.below hb hx.inside⟩
      case h0 => exact fun k _ => ⟨fun _ => X9.out, fun _ => HO9.out, fun _ => ⟨_, X9.out⟩⟩
      case tell =>
        intro fin hfin
        simp [lexPut, Act.put] at hfin
        simp only [TellF]
        refine ⟨⟨?_, ?_, ?_, ?_, ?_, ?_, ?_, ?_, ?_, ?_, ?_, ?_, ?_, ?_, ?_, ?_, ?_, ?_, ?_, trivial⟩, ?_⟩
        · intro v2 w7 hr hd
          refine yields_run (u := .pointer (some ⟨gx, 0, none⟩)) (w' := w7) ?_ (Below.refl _ _) rfl
          unfold execOp
          simp [go_sem, Act.eval]
        · intro v2 w7 hr ho hd
          have h0 : v2 0 = _ := hd 0 (by kernel_rfl)
          have hc : w7.cell? ⟨gx, 0, none⟩ = some (.slice A0 i C0) := (ho.1 trivial).read 0
          refine .inl (.inl ⟨.slice A0 i C0, w7, ?_, hr, fun _ _ _ _ hu => hu, fun _ _ _ _ hu => hu, rfl⟩)
          unfold execOp
          simp [go_sem, Act.eval, Act.put, h0, hc]
        · intro v2 w7 hr hd
          refine yields_run (u := .pointer (some ⟨gg, 0, none⟩)) (w' := w7) ?_ (Below.refl _ _) rfl
          unfold execOp
          simp [go_sem, Act.eval, Act.put]
        · intro v2 w7 hr hd
          have h2 : v2 2 = _ := hd 2 (by kernel_rfl)
          have hc := SR w7 hr.1
          refine yields_run (u := .slice (some ⟨b1, o1, none⟩) g.c.length vi) (w' := w7) ?_ (Below.refl _ _) rfl
          unfold execOp
          simp [go_sem, Act.eval, Act.put, h2, hc]
        · intro v2 w7 hr hd
          refine yields_run (u := .int .i64 i) (w' := w7) ?_ (Below.refl _ _) rfl
          unfold execOp
          simp [go_sem, Act.eval, Act.put]
        · intro v2 w7 hr hd
          have h3 : v2 3 = _ := hd 3 (by kernel_rfl)
          have h4 : v2 4 = _ := hd 4 (by kernel_rfl)
          exact yields_index (b := b1) (off := o1) (n := g.c.length) (c := vi) (i := i) (m := 2) rfl (by simp [Act.eval, Act.put, h3]) (by simp [Act.eval, Act.put, h4]) hlt Tryz.underlying31 (by intro w; simp [Tryz.sizeOf137])
        · intro v2 w7 hr hd
          have h5 : v2 5 = _ := hd 5 (by kernel_rfl)
          refine yields_run (u := .pointer (some ⟨b1, o1 + i * 2, none⟩)) (w' := w7) ?_ (Below.refl _ _) rfl
          unfold execOp
          simp [go_sem, Act.eval, Act.put, h5]
        · intro v2 w7 hr hd
          have h6 : v2 6 = _ := hd 6 (by kernel_rfl)
          have hc := E0 w7 hr.1
          refine yields_run (u := sV x.n) (w' := w7) ?_ (Below.refl _ _) rfl
          unfold execOp
          simp [go_sem, Act.eval, Act.put, h6, hc]
        · intro v2 w7 hr hd
          refine yields_run (u := .pointer (some ⟨gg, 0, none⟩)) (w' := w7) ?_ (Below.refl _ _) rfl
          unfold execOp
          simp [go_sem, Act.eval, Act.put]
        · intro v2 w7 hr hd
          have h8 : v2 8 = _ := hd 8 (by kernel_rfl)
          have hc := SR w7 hr.1
          refine yields_run (u := .slice (some ⟨b1, o1, none⟩) g.c.length vi) (w' := w7) ?_ (Below.refl _ _) rfl
          unfold execOp
          simp [go_sem, Act.eval, Act.put, h8, hc]
        · intro v2 w7 hr hd
          refine yields_run (u := .int .i64 i) (w' := w7) ?_ (Below.refl _ _) rfl
          unfold execOp
          simp [go_sem, Act.eval, Act.put]
        · intro v2 w7 hr hd
          have h9 : v2 9 = _ := hd 9 (by kernel_rfl)
          have h10 : v2 10 = _ := hd 10 (by kernel_rfl)
          exact yields_index (b := b1) (off := o1) (n := g.c.length) (c := vi) (i := i) (m := 2) rfl (by simp [Act.eval, Act.put, h9]) (by simp [Act.eval, Act.put, h10]) hlt Tryz.underlying31 (by intro w; simp [Tryz.sizeOf137])
        · intro v2 w7 hr hd
          have h11 : v2 11 = _ := hd 11 (by kernel_rfl)
          refine yields_run (u := .pointer (some ⟨b1, o1 + i * 2 + 1, none⟩)) (w' := w7) ?_ (Below.refl _ _) rfl
          unfold execOp
          simp [go_sem, Act.eval, Act.put, h11]
        · intro v2 w7 hr hd
          have h12 : v2 12 = _ := hd 12 (by kernel_rfl)
          have hc := E1 w7 hr.1
          refine yields_run (u := .int .i64 x.w) (w' := w7) ?_ (Below.refl _ _) rfl
          unfold execOp
          simp [go_sem, Act.eval, Act.put, h12, hc]
        · intro v2 w7 hr hd
          have h7 : v2 7 = _ := hd 7 (by kernel_rfl)
          have h13 : v2 13 = _ := hd 13 (by kernel_rfl)
          refine yields_run (u := .agg (cCl x).toArray) (w' := w7) ?_ (Below.refl _ _) rfl
          unfold execOp
          simp [go_sem, Act.eval, Act.put, h7, h13, cCl]
        · intro v2 w7 hr hd
          have h14 : v2 14 = _ := hd 14 (by kernel_rfl)
          refine yields_run (u := .slice (some ⟨w7.heap.size, 0, none⟩) 1 1) (w' := w7.alloc (.cells (cCl x).toArray 143)) ?_ (fresh1 w7 _) ⟨w7.heap.size, rfl, hr.2, Whole.fresh w7 _ _⟩
          unfold execOp
          simp [go_sem, Act.eval, Act.put, h14, cCl]
        · intro v2 w7 hr ho hd
          have h1 : v2 1 = _ := hd 1 (by kernel_rfl)
          obtain ⟨gy, hz, hyl, hw⟩ : LoneG 143 cCl wr.heap.size x (v2 15) w7 := hd 15 (by kernel_rfl)
          have ho7 := ho.2.1 trivial
          refine .inl (yields_append (.tmp 17) (.tmp 31) 22 rfl w4.heap.size 143 i0 (.agg #[sV [], .int .i64 0]) 2 24 Tryz.underlying22 hi0 hz00 hz01 hz02 rfl (by decide) (.slice A0 i C0) N.length (N.flatMap cCl) (by simp [Act.eval, Act.put, h1]) ho7 ⟨gy, 0, none⟩ 1 1 (cCl x) (by simp [Act.eval, Act.put, hz]) rfl (whole_cells hw) (CELLS_cCl.one x) (by decide) (by have := hNi.out; unfold maxLen; omega) (by have := hNi.out; omega) (by have := hr.2; have := S9.out; omega) ?_)
          intro g8 cap8 w8 hown hgrow
          have hab : ∀ j, (Value.slice A0 i C0).ownBlock = some j → w4.heap.size ≤ j := fun j e => OwnG.above ho7 e
          have hxn : some gx ≠ (Value.slice A0 i C0).ownBlock := fun e => by have := hab gx e.symm; have := GX.out; omega
          refine ⟨⟨grown_own hr.1 hgrow (fun j e => hab j e), Nat.le_trans hr.2 hgrow.size⟩, ?_, ?_, (show NewG 143 2 cCl w4.heap.size (N ++ [x]) (.slice (some ⟨g8, 0, none⟩) (N.length + 1) cap8) w8 from ⟨g8, cap8, by simp, by unfold OwnG; simpa using hown⟩)⟩
          · intro k2 v' hk2 hc hu
            exact match k2, hk2, hc, hu with
              | 0, _, _, hu => hu
              | 1, _, _, hu => hu
              | 2, _, _, hu => hu
              | 3, _, _, hu => hu
              | 4, _, _, hu => hu
              | 5, _, _, hu => hu
              | 6, _, _, hu => hu
              | 7, _, _, hu => hu
              | 8, _, _, hu => hu
              | 9, _, _, hu => hu
              | 10, _, _, hu => hu
              | 11, _, _, hu => hu
              | 12, _, _, hu => hu
              | 13, _, _, hu => hu
              | 14, _, _, hu => hu
              | 15, _, _, ⟨gy, h1, h2, h3⟩ => ⟨gy, h1, h2, h3.grown hgrow (HO9.out.away h2)⟩
              | 16, hk2, _, _ => absurd rfl hk2
              | 17, _, _, hu => hu
              | 18, _, hc, _ => absurd hc (by decide)
              | _ + 19, _, _, _ => trivial
          · intro k2 hk2 hn hc2 ⟨h1, h2, h3⟩
            exact ⟨fun e => by subst e; exact absurd hc2 (by decide), fun e => absurd e hk2, fun e => (h3 e).imp fun u hx => hx.grown hgrow hxn⟩
        · intro v2 w7 hr hd
          refine yields_run (u := .pointer (some ⟨gx, 0, none⟩)) (w' := w7) ?_ (Below.refl _ _) rfl
          unfold execOp
          simp [go_sem, Act.eval, Act.put]
        · intro v2 w7 hr ho hd
          have h17 : v2 17 = _ := hd 17 (by kernel_rfl)
          obtain ⟨g', c2, h7, hn7⟩ : NewG 143 2 cCl w4.heap.size (N ++ [x]) (v2 16) w7 := hd 16 (by kernel_rfl)
          obtain ⟨u, hu⟩ := ho.2.2 trivial
          rw [h7] at hn7
          have hc : w7.cell? ⟨gx, 0, none⟩ = some u := hu.read 0
          have hf : w7.frozen? ⟨gx, 0, none⟩ = false := hu.soft 0
          have hg : w7.grownBy (w7.setCell ⟨gx, 0, none⟩ (.slice (some ⟨g', 0, none⟩) (N ++ [x]).length c2)) (some gx) := only_store (only_of_below (Below.refl _ w7) (some gx)) _
          refine .inr ⟨w7.setCell ⟨gx, 0, none⟩ (.slice (some ⟨g', 0, none⟩) (N ++ [x]).length c2), ?_, ⟨only_trans hr.1 hg, Nat.le_trans hr.2 hg.size⟩, ?_, ?_, some ⟨g', 0, none⟩, c2, hu.store 0 _, hn7.keptG hg GX.out⟩
          · unfold execOp
            simp [go_sem, Act.eval, Act.put, h17, h7, hc, hf]
          · intro k2 v' hk2 hc hu
            exact match k2, hk2, hc, hu with
              | 0, _, _, hu => hu
              | 1, _, _, hu => hu
              | 2, _, _, hu => hu
              | 3, _, _, hu => hu
              | 4, _, _, hu => hu
              | 5, _, _, hu => hu
              | 6, _, _, hu => hu
              | 7, _, _, hu => hu
              | 8, _, _, hu => hu
              | 9, _, _, hu => hu
              | 10, _, _, hu => hu
              | 11, _, _, hu => hu
              | 12, _, _, hu => hu
              | 13, _, _, hu => hu
              | 14, _, _, hu => hu
              | 15, _, _, ⟨gy, h1, h2, h3⟩ => ⟨gy, h1, h2, h3.grown hg (by have := GX.out; have := S9.out; simp; omega)⟩
              | 16, _, _, ⟨g', c', h1, h2⟩ => ⟨g', c', h1, h2.keptG hg GX.out⟩
              | 17, _, _, hu => hu
              | 18, hk2, _, _ => absurd rfl hk2
              | _ + 19, _, _, _ => trivial
          · intro k2 hk2 hn hc2 ⟨h1, h2, h3⟩
            exact ⟨fun e => by subst e; exact absurd hc2 (by decide), fun e => by subst e; exact absurd hc2 (by decide), fun e => absurd e hk2⟩
        · intro v2 w7 hr hv
          obtain ⟨D, c2, hl1, hl2⟩ : LaidG 143 2 cCl gx 27 (fun u => #[u, .slice none 0 0, .slice none 0 0, .slice none 0 0]) w4.heap.size (N ++ [x]) (v2 18) w7 := hv 18 (by decide)
          have X10 := Lib.hid hl1
          have O10 := Lib.hid hl2
          have R10 := Lib.hid hr
          rw [hfin]
          clear hfin hv hl1 hl2 hr
          generalize v2 16 = v7
          generalize v2 15 = v6
          go_wp2_with fail
          go_roundw
          case rel => exact ⟨i + 1, N ++ [x], D, c2, hlt, Lib.hid (by simp [hNi.out]), by go_num, HN2, (by have := X10.out; rw [List.length_append, hNi.out] at this; exact Lib.hid this), (by have := O10.out; rw [List.length_append, hNi.out] at this; exact Lib.hid this), Lib.hid R10.out.1⟩
          case measure => simp [intOf]; omega
    obtain rfl : N = g.c := by rw [HN.out, hin, List.take_length]
    subst hin
    clear hNi HN
    have hlt : ¬ ((g.c.length : Int) < g.c.length) := by omega
    have RM0 := Lib.hid HO9.out.room
    have LG0 := Lib.hid (OwnG.lg CELLS_cCl HO9.out)
    have GP0 : Hid (∀ a, A0 = some a → gx < a.block) := Lib.hid fun a e => by have := HO9.out.gap a e; have := GX.out; omega
    go_upto_region 6 with fail
    replace OR3 := Lib.hid (OR3.out.grown G9.out (by have := hGR.out; simp; omega))
    replace OG3 := Lib.hid (OG3.out.grown G9.out (by have := hGR.out; simp; omega))
    replace B4 := Lib.hid (below_only B4.out G9.out B4.out.size (by have := hGR.out; have := hG0.out; omega))
    replace GX := Lib.hid X9.out.inside
    replace X0 := X9
    clear X9 G9 S9 HO9 k0 hlt
    obtain ⟨u1, hnw⟩ : ∃ u1, u1 = wr := ⟨_, rfl⟩
    subst hnw
    go_wp2_with fail
    go_loopw [5] (fun a wr => ∃ (i : Nat) (N : List Lo) (A1 : Option Addr) (C1 : Nat), i ≤ g.l.length ∧ Hid (N.length = i) ∧ a = .int .i64 i ∧ Hid (N = g.l.take i) ∧ Hid (Whole wr gx 27 #[.slice A0 g.c.length C0, (.slice A1 i C1), .slice none 0 0, .slice none 0 0]) ∧ Hid (OwnG 144 3 cLo wr u1.heap.size (.slice A1 i C1) N) ∧ Hid (u1.grownBy wr (some gx))) (fun a _ => (g.l.length - intOf a).toNat)
    case atStart => exact ⟨0, [], none, 0, by omega, Lib.hid rfl, rfl, Lib.hid rfl, X0, Lib.hid (ownG_nil _ _), Lib.hid (World.grownBy.refl _ _)⟩
    case round =>
      obtain ⟨i, N, A1, C1, hil, hNi, rfl, HN, X9, HO9, G9⟩ := hrel
      have S9 := Lib.hid G9.out.size
      have k0 : wr.cell? ⟨gg, 1, none⟩ = some (.slice vb g.l.length vj) := (OG3.out.grown G9.out (by have := hGR.out; simp; omega)).read 1
      by_cases hin : i = g.l.length
      case neg =>
        have hlt : i < g.l.length := by omega
        obtain ⟨x, hx⟩ : ∃ x, g.l[i]? = some x := ⟨g.l[i], List.getElem?_eq_getElem hlt⟩
        obtain ⟨b1, o1, hA, hb1, c0, c1, c2⟩ := at_lo H.out.l hx
        change vb = _ at hA
        subst hA
        have HN2 : Hid (N ++ [x] = g.l.take (i + 1)) := Lib.hid (by rw [List.take_add_one, hx, HN.out]; rfl)
        have BW : ∀ w7, u1.grownBy w7 (some gx) → Below w.heap.size w w7 := fun w7 h7 => below_only B4.out h7 B4.out.size (by have := hGR.out; have := hG0.out; omega)
        have SR : ∀ w7, u1.grownBy w7 (some gx) → w7.cell? ⟨gg, 1, none⟩ = some (.slice (some ⟨b1, o1, none⟩) g.l.length vj) := fun w7 h7 => (OG3.out.grown h7 (by have := hGR.out; simp; omega)).read 1
        have E0 : ∀ w7, u1.grownBy w7 (some gx) → w7.cell? ⟨b1, o1 + i * 3, none⟩ = some (sV x.n) := fun w7 h7 => ((BW w7 h7).cell (p := ⟨b1, o1 + i * 3, none⟩) hb1).trans c0
        have E1 : ∀ w7, u1.grownBy w7 (some gx) → w7.cell? ⟨b1, o1 + i * 3 + 1, none⟩ = some (.int .i64 x.u) := fun w7 h7 => ((BW w7 h7).cell (p := ⟨b1, o1 + i * 3 + 1, none⟩) hb1).trans c1
        have E2 : ∀ w7, u1.grownBy w7 (some gx) → w7.cell? ⟨b1, o1 + i * 3 + 2, none⟩ = some (.int .i64 x.r) := fun w7 h7 => ((BW w7 h7).cell (p := ⟨b1, o1 + i * 3 + 2, none⟩) hb1).trans c2
        clear c0 c1 c2 hx
        go_upto_region 9 with fail
        clear k0
        refine region_full 121 [(22, 24)] [(22, 1), (24, 1), (24, 22)] (fun k => k == 1 || k == 22 || k == 24) (fun w7 => u1.grownBy w7 (some gx) ∧ wr.heap.size ≤ w7.heap.size) ?hR ?r0 [pdOne 0 (Is (.pointer (some ⟨gx, 1, none⟩))), pdOne 1 (Is (.slice A1 i C1)), pdOne 2 (Is (.pointer (some ⟨gg, 1, none⟩))), pdOne 3 (Is (.slice (some ⟨b1, o1, none⟩) g.l.length vj)), pdOne 4 (Is (.int .i64 i)), pdOne 5 (Is (.pointer (some ⟨b1, o1 + i * 3, none⟩))), pdOne 6 (Is (.pointer (some ⟨b1, o1 + i * 3, none⟩))), pdOne 7 (Is (sV x.n)), pdOne 8 (Is (.pointer (some ⟨gg, 1, none⟩))), pdOne 9 (Is (.slice (some ⟨b1, o1, none⟩) g.l.length vj)), pdOne 10 (Is (.int .i64 i)), pdOne 11 (Is (.pointer (some ⟨b1, o1 + i * 3, none⟩))), pdOne 12 (Is (.pointer (some ⟨b1, o1 + i * 3 + 1, none⟩))), pdOne 13 (Is (.int .i64 x.u)), pdOne 14 (Is (.pointer (some ⟨gg, 1, none⟩))), pdOne 15 (Is (.slice (some ⟨b1, o1, none⟩) g.l.length vj)), pdOne 16 (Is (.int .i64 i)), pdOne 17 (Is (.pointer (some ⟨b1, o1 + i * 3, none⟩))), pdOne 18 (Is (.pointer (some ⟨b1, o1 + i * 3 + 2, none⟩))), pdOne 19 (Is (.int .i64 x.r)), pdOne 20 (Is (.agg (cLo x).toArray)), pdOne 21 (LoneG 144 cLo wr.heap.size x), pdOne 22 (NewG 144 3 cLo u1.heap.size (N ++ [x])), pdOne 23 (Is (.pointer (some ⟨gx, 1, none⟩))), pdOne 24 (LaidG 144 3 cLo gx 27 (fun u => #[.slice A0 g.c.length C0, u, .slice none 0 0, .slice none 0 0]) u1.heap.size (N ++ [x]))] (fun k w7 => (k = 1 → Whole w7 gx 27 ((fun u => #[.slice A0 g.c.length C0, u, .slice none 0 0, .slice none 0 0]) (.slice A1 i C1))) ∧ (k = 22 → OwnG 144 3 cLo w7 u1.heap.size (.slice A1 i C1) N) ∧ (k = 24 → ∃ u, Whole w7 gx 27 ((fun u => #[.slice A0 g.c.length C0, u, .slice none 0 0, .slice none 0 0]) u))) (by kernel_rfl) rfl (by kernel_rfl) (by kernel_rfl) (by kernel_rfl) (by kernel_rfl) ?keep ?hO ?h0 ?tell
        case hR => exact fun w7 w8 hb ⟨h1, h2⟩ => ⟨grown_own h1 (grown_below hb (row := none)) (fun j e => by cases e), Nat.le_trans h2 hb.size⟩
        case r0 => exact ⟨G9.out, Nat.le_refl _⟩
        case keep => exact ⟨keep_one (keeps_is _), keep_one (keeps_is _), keep_one (keeps_is _), keep_one (keeps_is _), keep_one (keeps_is _), keep_one (keeps_is _), keep_one (keeps_is _), keep_one (keeps_is _), keep_one (keeps_is _), keep_one (keeps_is _), keep_one (keeps_is _), keep_one (keeps_is _), keep_one (keeps_is _), keep_one (keeps_is _), keep_one (keeps_is _), keep_one (keeps_is _), keep_one (keeps_is _), keep_one (keeps_is _), keep_one (keeps_is _), keep_one (keeps_is _), keep_one (keeps_is _), keep_one (keeps_loneG _ _), keep_one (keeps_newG _ _), keep_one (keeps_is _), keep_one (keeps_laidG _ _ _ _ _), trivial⟩
        case hO => exact fun k w7 w8 hb ⟨h1, h2, h3⟩ => ⟨fun e => (h1 e).below hb (h1 e).inside, fun e => (h2 e).below hb, fun e => (h3 e).imp fun u hx => hx.below hb hx.inside⟩
        case h0 => exact fun k _ => ⟨fun _ => X9.out, fun _ => HO9.out, fun _ => ⟨_, X9.out⟩⟩
        case tell =>
          intro fin hfin
          simp [lexPut, Act.put] at hfin
          simp only [TellF]
          refine ⟨⟨?_, ?_, ?_, ?_, ?_, ?_, ?_, ?_, ?_, ?_, ?_, ?_, ?_, ?_, ?_, ?_, ?_, ?_, ?_, ?_, ?_, ?_, ?_, ?_, ?_, trivial⟩, ?_⟩
          · intro v2 w7 hr hd
            refine yields_run (u := .pointer (some ⟨gx, 1, none⟩)) (w' := w7) ?_ (Below.refl _ _) rfl
            unfold execOp
            simp [go_sem, Act.eval]
          · intro v2 w7 hr ho hd
            have h0 : v2 0 = _ := hd 0 (by kernel_rfl)
            have hc : w7.cell? ⟨gx, 1, none⟩ = some (.slice A1 i C1) := (ho.1 trivial).read 1
            refine .inl (.inl ⟨.slice A1 i C1, w7, ?_, hr, fun _ _ _ _ hu => hu, fun _ _ _ _ hu => hu, rfl⟩)
            unfold execOp
            simp [go_sem, Act.eval, Act.put, h0, hc]
          · intro v2 w7 hr hd
            refine yields_run (u := .pointer (some ⟨gg, 1, none⟩)) (w' := w7) ?_ (Below.refl _ _) rfl
            unfold execOp
            simp [go_sem, Act.eval, Act.put]
          · intro v2 w7 hr hd
            have h2 : v2 2 = _ := hd 2 (by kernel_rfl)
            have hc := SR w7 hr.1
            refine yields_run (u := .slice (some ⟨b1, o1, none⟩) g.l.length vj) (w' := w7) ?_ (Below.refl _ _) rfl
            unfold execOp
            simp [go_sem, Act.eval, Act.put, h2, hc]
          · intro v2 w7 hr hd
            refine yields_run (u := .int .i64 i) (w' := w7) ?_ (Below.refl _ _) rfl
            unfold execOp
            simp [go_sem, Act.eval, Act.put]
          · intro v2 w7 hr hd
            have h3 : v2 3 = _ := hd 3 (by kernel_rfl)
            have h4 : v2 4 = _ := hd 4 (by kernel_rfl)
            exact yields_index (b := b1) (off := o1) (n := g.l.length) (c := vj) (i := i) (m := 3) rfl (by simp [Act.eval, Act.put, h3]) (by simp [Act.eval, Act.put, h4]) hlt Tryz.underlying32 (by intro w; simp [Tryz.sizeOf139])
          · intro v2 w7 hr hd
            have h5 : v2 5 = _ := hd 5 (by kernel_rfl)
            refine yields_run (u := .pointer (some ⟨b1, o1 + i * 3, none⟩)) (w' := w7) ?_ (Below.refl _ _) rfl
            unfold execOp
            simp [go_sem, Act.eval, Act.put, h5]
          · intro v2 w7 hr hd
            have h6 : v2 6 = _ := hd 6 (by kernel_rfl)
            have hc := E0 w7 hr.1
            refine yields_run (u := sV x.n) (w' := w7) ?_ (Below.refl _ _) rfl
            unfold execOp
            simp [go_sem, Act.eval, Act.put, h6, hc]
          · intro v2 w7 hr hd
            refine yields_run (u := .pointer (some ⟨gg, 1, none⟩)) (w' := w7) ?_ (Below.refl _ _) rfl
            unfold execOp
            simp [go_sem, Act.eval, Act.put]
          · intro v2 w7 hr hd
            have h8 : v2 8 = _ := hd 8 (by kernel_rfl)
            have hc := SR w7 hr.1
            refine yields_run (u := .slice (some ⟨b1, o1, none⟩) g.l.length vj) (w' := w7) ?_ (Below.refl _ _) rfl
            unfold execOp
            simp [go_sem, Act.eval, Act.put, h8, hc]
          · intro v2 w7 hr hd
            refine yields_run (u := .int .i64 i) (w' := w7) ?_ (Below.refl _ _) rfl
            unfold execOp
            simp [go_sem, Act.eval, Act.put]
          · intro v2 w7 hr hd
            have h9 : v2 9 = _ := hd 9 (by kernel_rfl)
            have h10 : v2 10 = _ := hd 10 (by kernel_rfl)
            exact yields_index (b := b1) (off := o1) (n := g.l.length) (c := vj) (i := i) (m := 3) rfl (by simp [Act.eval, Act.put, h9]) (by simp [Act.eval, Act.put, h10]) hlt Tryz.underlying32 (by intro w; simp [Tryz.sizeOf139])
          · intro v2 w7 hr hd
            have h11 : v2 11 = _ := hd 11 (by kernel_rfl)
            refine yields_run (u := .pointer (some ⟨b1, o1 + i * 3 + 1, none⟩)) (w' := w7) ?_ (Below.refl _ _) rfl
            unfold execOp
            simp [go_sem, Act.eval, Act.put, h11]
          · intro v2 w7 hr hd
            have h12 : v2 12 = _ := hd 12 (by kernel_rfl)
            have hc := E1 w7 hr.1
            refine yields_run (u := .int .i64 x.u) (w' := w7) ?_ (Below.refl _ _) rfl
            unfold execOp
            simp [go_sem, Act.eval, Act.put, h12, hc]
          · intro v2 w7 hr hd
            refine yields_run (u := .pointer (some ⟨gg, 1, none⟩)) (w' := w7) ?_ (Below.refl _ _) rfl
            unfold execOp
            simp [go_sem, Act.eval, Act.put]
          · intro v2 w7 hr hd
            have h14 : v2 14 = _ := hd 14 (by kernel_rfl)
            have hc := SR w7 hr.1
            refine yields_run (u := .slice (some ⟨b1, o1, none⟩) g.l.length vj) (w' := w7) ?_ (Below.refl _ _) rfl
            unfold execOp
            simp [go_sem, Act.eval, Act.put, h14, hc]
          · intro v2 w7 hr hd
            refine yields_run (u := .int .i64 i) (w' := w7) ?_ (Below.refl _ _) rfl
            unfold execOp
            simp [go_sem, Act.eval, Act.put]
          · intro v2 w7 hr hd
            have h15 : v2 15 = _ := hd 15 (by kernel_rfl)
            have h16 : v2 16 = _ := hd 16 (by kernel_rfl)
            exact yields_index (b := b1) (off := o1) (n := g.l.length) (c := vj) (i := i) (m := 3) rfl (by simp [Act.eval, Act.put, h15]) (by simp [Act.eval, Act.put, h16]) hlt Tryz.underlying32 (by intro w; simp [Tryz.sizeOf139])
          · intro v2 w7 hr hd
            have h17 : v2 17 = _ := hd 17 (by kernel_rfl)
            refine yields_run (u := .pointer (some ⟨b1, o1 + i * 3 + 2, none⟩)) (w' := w7) ?_ (Below.refl _ _) rfl
            unfold execOp
            simp [go_sem, Act.eval, Act.put, h17]
          · intro v2 w7 hr hd
            have h18 : v2 18 = _ := hd 18 (by kernel_rfl)
            have hc := E2 w7 hr.1
            refine yields_run (u := .int .i64 x.r) (w' := w7) ?_ (Below.refl _ _) rfl
            unfold execOp
            simp [go_sem, Act.eval, Act.put, h18, hc]
          · intro v2 w7 hr hd
            have h7 : v2 7 = _ := hd 7 (by kernel_rfl)
            have h13 : v2 13 = _ := hd 13 (by kernel_rfl)
            have h19 : v2 19 = _ := hd 19 (by kernel_rfl)
            refine yields_run (u := .agg (cLo x).toArray) (w' := w7) ?_ (Below.refl _ _) rfl
            unfold execOp
            simp [go_sem, Act.eval, Act.put, h7, h13, h19, cLo]
          · intro v2 w7 hr hd
            have h20 : v2 20 = _ := hd 20 (by kernel_rfl)
            refine yields_run (u := .slice (some ⟨w7.heap.size, 0, none⟩) 1 1) (w' := w7.alloc (.cells (cLo x).toArray 144)) ?_ (fresh1 w7 _) ⟨w7.heap.size, rfl, hr.2, Whole.fresh w7 _ _⟩
            unfold execOp
            simp [go_sem, Act.eval, Act.put, h20, cLo]
          · intro v2 w7 hr ho hd
            have h1 : v2 1 = _ := hd 1 (by kernel_rfl)
            obtain ⟨gy, hz, hyl, hw⟩ : LoneG 144 cLo wr.heap.size x (v2 21) w7 := hd 21 (by kernel_rfl)
            have ho7 := ho.2.1 trivial
            refine .inl (yields_append (.tmp 42) (.tmp 62) 23 rfl u1.heap.size 144 i1 (.agg #[sV [], .int .i64 0, .int .i64 0]) 3 32 Tryz.underlying23 hi1 hz10 hz11 hz12 rfl (by decide) (.slice A1 i C1) N.length (N.flatMap cLo) (by simp [Act.eval, Act.put, h1]) ho7 ⟨gy, 0, none⟩ 1 1 (cLo x) (by simp [Act.eval, Act.put, hz]) rfl (whole_cells hw) (CELLS_cLo.one x) (by decide) (by have := hNi.out; unfold maxLen; omega) (by have := hNi.out; omega) (by have := hr.2; have := S9.out; omega) ?_)
            intro g8 cap8 w8 hown hgrow
            have hab : ∀ j, (Value.slice A1 i C1).ownBlock = some j → u1.heap.size ≤ j := fun j e => OwnG.above ho7 e
            have hxn : some gx ≠ (Value.slice A1 i C1).ownBlock := fun e => by have := hab gx e.symm; have := GX.out; omega
            refine ⟨⟨grown_own hr.1 hgrow (fun j e => hab j e), Nat.le_trans hr.2 hgrow.size⟩, ?_, ?_, (show NewG 144 3 cLo u1.heap.size (N ++ [x]) (.slice (some ⟨g8, 0, none⟩) (N.length + 1) cap8) w8 from ⟨g8, cap8, by simp, by unfold OwnG; simpa using hown⟩)⟩
            · intro k2 v' hk2 hc hu
              exact match k2, hk2, hc, hu with
                | 0, _, _, hu => hu
                | 1, _, _, hu => hu
                | 2, _, _, hu => hu
                | 3, _, _, hu => hu
                | 4, _, _, hu => hu
                | 5, _, _, hu => hu
                | 6, _, _, hu => hu
                | 7, _, _, hu => hu
                | 8, _, _, hu => hu
                | 9, _, _, hu => hu
                | 10, _, _, hu => hu
                | 11, _, _, hu => hu
                | 12, _, _, hu => hu
                | 13, _, _, hu => hu
                | 14, _, _, hu => hu
                | 15, _, _, hu => hu
                | 16, _, _, hu => hu
                | 17, _, _, hu => hu
                | 18, _, _, hu => hu
                | 19, _, _, hu => hu
                | 20, _, _, hu => hu
                | 21, _, _, ⟨gy, h1, h2, h3⟩ => ⟨gy, h1, h2, h3.grown hgrow (HO9.out.away h2)⟩
                | 22, hk2, _, _ => absurd rfl hk2
                | 23, _, _, hu => hu
                | 24, _, hc, _ => absurd hc (by decide)
                | _ + 25, _, _, _ => trivial
            · intro k2 hk2 hn hc2 ⟨h1, h2, h3⟩
              exact ⟨fun e => by subst e; exact absurd hc2 (by decide), fun e => absurd e hk2, fun e => (h3 e).imp fun u hx => hx.grown hgrow hxn⟩
          · intro v2 w7 hr hd
            refine yields_run (u := .pointer (some ⟨gx, 1, none⟩)) (w' := w7) ?_ (Below.refl _ _) rfl
            unfold execOp
            simp [go_sem, Act.eval, Act.put]
          · intro v2 w7 hr ho hd
            have h23 : v2 23 = _ := hd 23 (by kernel_rfl)
            obtain ⟨g', c2, h7, hn7⟩ : NewG 144 3 cLo u1.heap.size (N ++ [x]) (v2 22) w7 := hd 22 (by kernel_rfl)
            obtain ⟨u, hu⟩ := ho.2.2 trivial
            rw [h7] at hn7
            have hc : w7.cell? ⟨gx, 1, none⟩ = some u := hu.read 1
            have hf : w7.frozen? ⟨gx, 1, none⟩ = false := hu.soft 1
            have hg : w7.grownBy (w7.setCell ⟨gx, 1, none⟩ (.slice (some ⟨g', 0, none⟩) (N ++ [x]).length c2)) (some gx) := only_store (only_of_below (Below.refl _ w7) (some gx)) _
            refine .inr ⟨w7.setCell ⟨gx, 1, none⟩ (.slice (some ⟨g', 0, none⟩) (N ++ [x]).length c2), ?_, ⟨only_trans hr.1 hg, Nat.le_trans hr.2 hg.size⟩, ?_, ?_, some ⟨g', 0, none⟩, c2, hu.store 1 _, hn7.keptG hg GX.out⟩
            · unfold execOp
              simp [go_sem, Act.eval, Act.put, h23, h7, hc, hf]
            · intro k2 v' hk2 hc hu
              exact match k2, hk2, hc, hu with
                | 0, _, _, hu => hu
                | 1, _, _, hu => hu
                | 2, _, _, hu => hu
                | 3, _, _, hu => hu
                | 4, _, _, hu => hu
                | 5, _, _, hu => hu
                | 6, _, _, hu => hu
                | 7, _, _, hu => hu
                | 8, _, _, hu => hu
                | 9, _, _, hu => hu
                | 10, _, _, hu => hu
                | 11, _, _, hu => hu
                | 12, _, _, hu => hu
                | 13, _, _, hu => hu
                | 14, _, _, hu => hu
                | 15, _, _, hu => hu
                | 16, _, _, hu => hu
                | 17, _, _, hu => hu
                | 18, _, _, hu => hu
                | 19, _, _, hu => hu
                | 20, _, _, hu => hu
                | 21, _, _, ⟨gy, h1, h2, h3⟩ => ⟨gy, h1, h2, h3.grown hg (by have := GX.out; have := S9.out; simp; omega)⟩
                | 22, _, _, ⟨g', c', h1, h2⟩ => ⟨g', c', h1, h2.keptG hg GX.out⟩
                | 23, _, _, hu => hu
                | 24, hk2, _, _ => absurd rfl hk2
                | _ + 25, _, _, _ => trivial
            · intro k2 hk2 hn hc2 ⟨h1, h2, h3⟩
              exact ⟨fun e => by subst e; exact absurd hc2 (by decide), fun e => by subst e; exact absurd hc2 (by decide), fun e => absurd e hk2⟩
          · intro v2 w7 hr hv
            obtain ⟨D, c2, hl1, hl2⟩ : LaidG 144 3 cLo gx 27 (fun u => #[.slice A0 g.c.length C0, u, .slice none 0 0, .slice none 0 0]) u1.heap.size (N ++ [x]) (v2 24) w7 := hv 24 (by decide)
            have X10 := Lib.hid hl1
            have O10 := Lib.hid hl2
            have R10 := Lib.hid hr
            rw [hfin]
            clear hfin hv hl1 hl2 hr
            generalize v2 22 = v7
            generalize v2 21 = v6
            go_wp2_with fail
            go_roundw
            case rel => exact ⟨i + 1, N ++ [x], D, c2, hlt, Lib.hid (by simp [hNi.out]), by go_num, HN2, (by have := X10.out; rw [List.length_append, hNi.out] at this; exact Lib.hid this), (by have := O10.out; rw [List.length_append, hNi.out] at this; exact Lib.hid this), Lib.hid R10.out.1⟩
            case measure => simp [intOf]; omega
      obtain rfl : N = g.l := by rw [HN.out, hin, List.take_length]
      subst hin
      clear hNi HN
      have hlt : ¬ ((g.l.length : Int) < g.l.length) := by omega
      have RM1 := Lib.hid HO9.out.room
      have LG1 := Lib.hid (OwnG.lg CELLS_cLo HO9.out)
      have GP1 : Hid (∀ a, A1 = some a → gx < a.block) := Lib.hid fun a e => by have := HO9.out.gap a e; have := GX.out; omega
      replace LG0 := Lib.hid (lg_past LG0.out G9.out (fun a e => by have := GP0.out a e; omega))
      go_upto_region 10 with fail
      replace OR3 := Lib.hid (OR3.out.grown G9.out (by have := hGR.out; simp; omega))
      replace OG3 := Lib.hid (OG3.out.grown G9.out (by have := hGR.out; simp; omega))
      replace B4 := Lib.hid (below_only B4.out G9.out B4.out.size (by have := hGR.out; have := hG0.out; omega))
      replace GX := Lib.hid X9.out.inside
      replace X0 := X9
      clear X9 G9 S9 HO9 k0 hlt
      obtain ⟨u2, hnw⟩ : ∃ u2, u2 = wr := ⟨_, rfl⟩
      subst hnw
      go_wp2_with fail
      go_loopw [6] (fun a wr => ∃ (i : Nat) (N : List Oq) (A2 : Option Addr) (C2 : Nat), i ≤ g.o.length ∧ Hid (N.length = i) ∧ a = .int .i64 i ∧ Hid (N = g.o.take i) ∧ Hid (Whole wr gx 27 #[.slice A0 g.c.length C0, .slice A1 g.l.length C1, (.slice A2 i C2), .slice none 0 0]) ∧ Hid (OwnG 145 6 cOq wr u2.heap.size (.slice A2 i C2) N) ∧ Hid (u2.grownBy wr (some gx))) (fun a _ => (g.o.length - intOf a).toNat)
      case atStart => exact ⟨0, [], none, 0, by omega, Lib.hid rfl, rfl, Lib.hid rfl, X0, Lib.hid (ownG_nil _ _), Lib.hid (World.grownBy.refl _ _)⟩
      case round =>
        obtain ⟨i, N, A2, C2, hil, hNi, rfl, HN, X9, HO9, G9⟩ := hrel
        have S9 := Lib.hid G9.out.size
        have k0 : wr.cell? ⟨gg, 2, none⟩ = some (.slice vd g.o.length vk) := (OG3.out.grown G9.out (by have := hGR.out; simp; omega)).read 2
        by_cases hin : i = g.o.length
        case neg =>
          have hlt : i < g.o.length := by omega
          obtain ⟨x, hx⟩ : ∃ x, g.o[i]? = some x := ⟨g.o[i], List.getElem?_eq_getElem hlt⟩
          obtain ⟨b1, o1, hA, hb1, c0, c1, c2, c3, c4, c5⟩ := at_oq H.out.o hx
          change vd = _ at hA
          subst hA
          have HN2 : Hid (N ++ [x] = g.o.take (i + 1)) := Lib.hid (by rw [List.take_add_one, hx, HN.out]; rfl)
          have BW : ∀ w7, u2.grownBy w7 (some gx) → Below w.heap.size w w7 := fun w7 h7 => below_only B4.out h7 B4.out.size (by have := hGR.out; have := hG0.out; omega)
          have SR : ∀ w7, u2.grownBy w7 (some gx) → w7.cell? ⟨gg, 2, none⟩ = some (.slice (some ⟨b1, o1, none⟩) g.o.length vk) := fun w7 h7 => (OG3.out.grown h7 (by have := hGR.out; simp; omega)).read 2
          have E0 : ∀ w7, u2.grownBy w7 (some gx) → w7.cell? ⟨b1, o1 + i * 6, none⟩ = some (sV x.n) := fun w7 h7 => ((BW w7 h7).cell (p := ⟨b1, o1 + i * 6, none⟩) hb1).trans c0
          have E1 : ∀ w7, u2.grownBy w7 (some gx) → w7.cell? ⟨b1, o1 + i * 6 + 1, none⟩ = some (.int .i64 x.k) := fun w7 h7 => ((BW w7 h7).cell (p := ⟨b1, o1 + i * 6 + 1, none⟩) hb1).trans c1
          have E2 : ∀ w7, u2.grownBy w7 (some gx) → w7.cell? ⟨b1, o1 + i * 6 + 2, none⟩ = some (.int .i64 x.l) := fun w7 h7 => ((BW w7 h7).cell (p := ⟨b1, o1 + i * 6 + 2, none⟩) hb1).trans c2
          have E3 : ∀ w7, u2.grownBy w7 (some gx) → w7.cell? ⟨b1, o1 + i * 6 + 3, none⟩ = some (.int .i64 x.a) := fun w7 h7 => ((BW w7 h7).cell (p := ⟨b1, o1 + i * 6 + 3, none⟩) hb1).trans c3
          have E4 : ∀ w7, u2.grownBy w7 (some gx) → w7.cell? ⟨b1, o1 + i * 6 + 4, none⟩ = some (.int .i64 x.x) := fun w7 h7 => ((BW w7 h7).cell (p := ⟨b1, o1 + i * 6 + 4, none⟩) hb1).trans c4
          have E5 : ∀ w7, u2.grownBy w7 (some gx) → w7.cell? ⟨b1, o1 + i * 6 + 5, none⟩ = some (.int .i64 x.y) := fun w7 h7 => ((BW w7 h7).cell (p := ⟨b1, o1 + i * 6 + 5, none⟩) hb1).trans c5
          clear c0 c1 c2 c3 c4 c5 hx
          have F0 := E0 wr G9.out
          have F1 := E1 wr G9.out
          have F2 := E2 wr G9.out
          have F3 := E3 wr G9.out
          have F4 := E4 wr G9.out
          have F5 := E5 wr G9.out
          go_upto_region 14 with fail
          clear k0 F0 F1 F2 F3 F4 F5
          change Code.wp _ _ _ _ (wr.alloc (.cells #[sV x.n, .int .i64 x.k, .int .i64 x.l, .int .i64 x.a, .int .i64 x.x, .int .i64 x.y] 141))
          have hW := fresh1 wr (.cells #[sV x.n, .int .i64 x.k, .int .i64 x.l, .int .i64 x.a, .int .i64 x.x, .int .i64 x.y] 141)
          have OW := Whole.fresh wr 141 #[sV x.n, .int .i64 x.k, .int .i64 x.l, .int .i64 x.a, .int .i64 x.x, .int .i64 x.y]
          have X1 := Lib.hid (X9.out.below hW X9.out.inside)
          have O1 := Lib.hid (HO9.out.below hW)
          have G1 := Lib.hid (grown_own G9.out (grown_below hW (row := none)) (fun j e => by cases e))
          have AW := Lib.hid (OwnG.away HO9.out (Nat.le_refl _))
          have hS1 := Nat.le_trans S9.out hW.size
          have hxr : gx < wr.heap.size := X9.out.inside
          clear hW X9 HO9 G9 S9
          generalize wr.alloc (.cells #[sV x.n, .int .i64 x.k, .int .i64 x.l, .int .i64 x.a, .int .i64 x.x, .int .i64 x.y] 141) = w5 at OW X1 O1 G1 hS1 ⊢
          generalize wr.heap.size = r at OW AW hxr ⊢
          have r0 := OW.read 0
          have r1 := OW.read 1
          have r2 := OW.read 2
          have r3 := OW.read 3
          have r4 := OW.read 4
          have r5 := OW.read 5
          have x2 : w5.cell? ⟨gx, 2, none⟩ = some (.slice A2 i C2) := X1.out.read 2
          have hS1' := Lib.hid hS1
          clear OW
          go_wp2_with (at_builtin; refine wpList_append_own _ rfl _ _ 24 rfl u2.heap.size 145 i2 (.agg #[sV [], .int .i64 0, .int .i64 0, .int .i64 0, .int .i64 0, .int .i64 0]) 6 56 Tryz.underlying24 hi2 hz20 hz21 hz22 rfl (by decide) _ _ _ rfl (O1.out.below (fresh1 _ (.cells (cOq x).toArray 145))) ⟨_, 0, none⟩ 1 1 (cOq x) rfl rfl (whole_cells (Whole.fresh _ _ _)) (CELLS_cOq.one x) (by have := hNi.out; unfold maxLen; omega) (by have := hNi.out; omega) (by have := hS1'.out; simp; omega) ?_; intro v' w6 hown' hgrow _; obtain ⟨g', cap', rfl⟩ := OwnG.succ hown'; have hxo : some gx ≠ (Value.slice A2 i C2).ownBlock := fun e => by { have := OwnG.above O1.out e.symm; have := GX.out; omega }; have hgw := Lib.hid (grown_own G1.out (grown_below (fresh1 w5 (.cells (cOq x).toArray 145)) (row := none)) (fun j e => by cases e)); have G6 := Lib.hid (grown_own hgw.out hgrow (fun j e => OwnG.above O1.out e)); have X6 := Lib.hid ((X1.out.alloc (.cells (cOq x).toArray 145)).grown hgrow hxo); have O6 := Lib.hid (show OwnG 145 6 cOq w6 u2.heap.size (.slice (some ⟨g', 0, none⟩) (N ++ [x]).length cap') (N ++ [x]) by have := hown'; simpa [OwnG] using this); clear hown' hgrow hxo hgw; have y2 : w6.cell? ⟨gx, 2, none⟩ = some (.slice A2 i C2) := X6.out.read 2; have y3 : w6.frozen? ⟨gx, 2, none⟩ = false := X6.out.soft 2)
          go_roundw
          case rel => exact ⟨i + 1, N ++ [x], some ⟨g', 0, none⟩, cap', hlt, Lib.hid (by simp [hNi.out]), by go_num, HN2, (by have := X6.out.store 2 (.slice (some ⟨g', 0, none⟩) (N.length + 1) cap'); rw [← hNi.out]; exact Lib.hid this), (by have := O6.out.keptG (only_store (only_of_below (Below.refl _ w6) (some gx)) (i := 2) (.slice (some ⟨g', 0, none⟩) (N.length + 1) cap')) GX.out; rw [List.length_append] at this; rw [← hNi.out]; exact Lib.hid this), Lib.hid (only_store G6.out _)⟩
          case measure => simp [intOf]; omega
        obtain rfl : N = g.o := by rw [HN.out, hin, List.take_length]
        subst hin
        clear hNi HN
        have hlt : ¬ ((g.o.length : Int) < g.o.length) := by omega
        have RM2 := Lib.hid HO9.out.room
        have LG2 := Lib.hid (OwnG.lg CELLS_cOq HO9.out)
        have GP2 : Hid (∀ a, A2 = some a → gx < a.block) := Lib.hid fun a e => by have := HO9.out.gap a e; have := GX.out; omega
        replace LG0 := Lib.hid (lg_past LG0.out G9.out (fun a e => by have := GP0.out a e; omega))
        replace LG1 := Lib.hid (lg_past LG1.out G9.out (fun a e => by have := GP1.out a e; omega))
        go_upto_region 15 with fail
        replace OR3 := Lib.hid (OR3.out.grown G9.out (by have := hGR.out; simp; omega))
        replace OG3 := Lib.hid (OG3.out.grown G9.out (by have := hGR.out; simp; omega))
        replace B4 := Lib.hid (below_only B4.out G9.out B4.out.size (by have := hGR.out; have := hG0.out; omega))
        replace GX := Lib.hid X9.out.inside
        replace X0 := X9
        clear X9 G9 S9 HO9 k0 hlt
        obtain ⟨u3, hnw⟩ : ∃ u3, u3 = wr := ⟨_, rfl⟩
        subst hnw
        go_wp2_with fail
        go_loopw [8] (fun a wr => ∃ (i : Nat) (N : List Ch) (A3 : Option Addr) (C3 : Nat), i ≤ g.h.length ∧ Hid (N.length = i) ∧ a = .int .i64 i ∧ Hid (N = g.h.take i) ∧ Hid (Whole wr gx 27 #[.slice A0 g.c.length C0, .slice A1 g.l.length C1, .slice A2 g.o.length C2, (.slice A3 i C3)]) ∧ Hid (OwnG 61 2 cCh wr u3.heap.size (.slice A3 i C3) N) ∧ Hid (u3.grownBy wr (some gx))) (fun a _ => (g.h.length - intOf a).toNat)
        case atStart => exact ⟨0, [], none, 0, by omega, Lib.hid rfl, rfl, Lib.hid rfl, X0, Lib.hid (ownG_nil _ _), Lib.hid (World.grownBy.refl _ _)⟩
        case round =>
          obtain ⟨i, N, A3, C3, hil, hNi, rfl, HN, X9, HO9, G9⟩ := hrel
          have S9 := Lib.hid G9.out.size
          have k0 : wr.cell? ⟨gg, 3, none⟩ = some (.slice ve g.h.length vm) := (OG3.out.grown G9.out (by have := hGR.out; simp; omega)).read 3
          by_cases hin : i = g.h.length
          case neg =>
            have hlt : i < g.h.length := by omega
            obtain ⟨x, hx⟩ : ∃ x, g.h[i]? = some x := ⟨g.h[i], List.getElem?_eq_getElem hlt⟩
            obtain ⟨b1, o1, hA, hb1, c0, c1⟩ := at_ch H.out.h hx
            change ve = _ at hA
            subst hA
            have HN2 : Hid (N ++ [x] = g.h.take (i + 1)) := Lib.hid (by rw [List.take_add_one, hx, HN.out]; rfl)
            have BW : ∀ w7, u3.grownBy w7 (some gx) → Below w.heap.size w w7 := fun w7 h7 => below_only B4.out h7 B4.out.size (by have := hGR.out; have := hG0.out; omega)
            have SR : ∀ w7, u3.grownBy w7 (some gx) → w7.cell? ⟨gg, 3, none⟩ = some (.slice (some ⟨b1, o1, none⟩) g.h.length vm) := fun w7 h7 => (OG3.out.grown h7 (by have := hGR.out; simp; omega)).read 3
            have E0 : ∀ w7, u3.grownBy w7 (some gx) → w7.cell? ⟨b1, o1 + i * 2, none⟩ = some (.int .i64 x.f) := fun w7 h7 => ((BW w7 h7).cell (p := ⟨b1, o1 + i * 2, none⟩) hb1).trans c0
            have E1 : ∀ w7, u3.grownBy w7 (some gx) → w7.cell? ⟨b1, o1 + i * 2 + 1, none⟩ = some (.int .i64 x.t) := fun w7 h7 => ((BW w7 h7).cell (p := ⟨b1, o1 + i * 2 + 1, none⟩) hb1).trans c1
            clear c0 c1 hx
            go_upto_region 18 with fail
            clear k0
            refine region_full 121 [(16, 18)] [(16, 1), (18, 1), (18, 16)] (fun k => k == 1 || k == 16 || k == 18) (fun w7 => u3.grownBy w7 (some gx) ∧ wr.heap.size ≤ w7.heap.size) ?hR ?r0 [pdOne 0 (Is (.pointer (some ⟨gx, 3, none⟩))), pdOne 1 (Is (.slice A3 i C3)), pdOne 2 (Is (.pointer (some ⟨gg, 3, none⟩))), pdOne 3 (Is (.slice (some ⟨b1, o1, none⟩) g.h.length vm)), pdOne 4 (Is (.int .i64 i)), pdOne 5 (Is (.pointer (some ⟨b1, o1 + i * 2, none⟩))), pdOne 6 (Is (.pointer (some ⟨b1, o1 + i * 2, none⟩))), pdOne 7 (Is (.int .i64 x.f)), pdOne 8 (Is (.pointer (some ⟨gg, 3, none⟩))), pdOne 9 (Is (.slice (some ⟨b1, o1, none⟩) g.h.length vm)), pdOne 10 (Is (.int .i64 i)), pdOne 11 (Is (.pointer (some ⟨b1, o1 + i * 2, none⟩))), pdOne 12 (Is (.pointer (some ⟨b1, o1 + i * 2 + 1, none⟩))), pdOne 13 (Is (.int .i64 x.t)), pdOne 14 (Is (.agg (cCh x).toArray)), pdOne 15 (LoneG 61 cCh wr.heap.size x), pdOne 16 (NewG 61 2 cCh u3.heap.size (N ++ [x])), pdOne 17 (Is (.pointer (some ⟨gx, 3, none⟩))), pdOne 18 (LaidG 61 2 cCh gx 27 (fun u => #[.slice A0 g.c.length C0, .slice A1 g.l.length C1, .slice A2 g.o.length C2, u]) u3.heap.size (N ++ [x]))] (fun k w7 => (k = 1 → Whole w7 gx 27 ((fun u => #[.slice A0 g.c.length C0, .slice A1 g.l.length C1, .slice A2 g.o.length C2, u]) (.slice A3 i C3))) ∧ (k = 16 → OwnG 61 2 cCh w7 u3.heap.size (.slice A3 i C3) N) ∧ (k = 18 → ∃ u, Whole w7 gx 27 ((fun u => #[.slice A0 g.c.length C0, .slice A1 g.l.length C1, .slice A2 g.o.length C2, u]) u))) (by kernel_rfl) rfl (by kernel_rfl) (by kernel_rfl) (by kernel_rfl) (by kernel_rfl) ?keep ?hO ?h0 ?tell
            case hR => exact fun w7 w8 hb ⟨h1, h2⟩ => ⟨grown_own h1 (grown_below hb (row := none)) (fun j e => by cases e), Nat.le_trans h2 hb.size⟩
            case r0 => exact ⟨G9.out, Nat.le_refl _⟩
            case keep => exact ⟨keep_one (keeps_is _), keep_one (keeps_is _), keep_one (keeps_is _), keep_one (keeps_is _), keep_one (keeps_is _), keep_one (keeps_is _), keep_one (keeps_is _), keep_one (keeps_is _), keep_one (keeps_is _), keep_one (keeps_is _), keep_one (keeps_is _), keep_one (keeps_is _), keep_one (keeps_is _), keep_one (keeps_is _), keep_one (keeps_is _), keep_one (keeps_loneG _ _), keep_one (keeps_newG _ _), keep_one (keeps_is _), keep_one (keeps_laidG _ _ _ _ _), trivial⟩
            case hO => exact fun k w7 w8 hb ⟨h1, h2, h3⟩ => ⟨fun e => (h1 e).below hb (h1 e).inside, fun e => (h2 e).below hb, fun e => (h3 e).imp fun u hx => hx.below hb hx.inside⟩
            case h0 => exact fun k _ => ⟨fun _ => X9.out, fun _ => HO9.out, fun _ => ⟨_, X9.out⟩⟩
            case tell =>
              intro fin hfin
              simp [lexPut, Act.put] at hfin
              simp only [TellF]
              refine ⟨⟨?_, ?_, ?_, ?_, ?_, ?_, ?_, ?_, ?_, ?_, ?_, ?_, ?_, ?_, ?_, ?_, ?_, ?_, ?_, trivial⟩, ?_⟩
              · intro v2 w7 hr hd
                refine yields_run (u := .pointer (some ⟨gx, 3, none⟩)) (w' := w7) ?_ (Below.refl _ _) rfl
                unfold execOp
                simp [go_sem, Act.eval]
              · intro v2 w7 hr ho hd
                have h0 : v2 0 = _ := hd 0 (by kernel_rfl)
                have hc : w7.cell? ⟨gx, 3, none⟩ = some (.slice A3 i C3) := (ho.1 trivial).read 3
                refine .inl (.inl ⟨.slice A3 i C3, w7, ?_, hr, fun _ _ _ _ hu => hu, fun _ _ _ _ hu => hu, rfl⟩)
                unfold execOp
                simp [go_sem, Act.eval, Act.put, h0, hc]
              · intro v2 w7 hr hd
                refine yields_run (u := .pointer (some ⟨gg, 3, none⟩)) (w' := w7) ?_ (Below.refl _ _) rfl
                unfold execOp
                simp [go_sem, Act.eval, Act.put]
              · intro v2 w7 hr hd
                have h2 : v2 2 = _ := hd 2 (by kernel_rfl)
                have hc := SR w7 hr.1
                refine yields_run (u := .slice (some ⟨b1, o1, none⟩) g.h.length vm) (w' := w7) ?_ (Below.refl _ _) rfl
                unfold execOp
                simp [go_sem, Act.eval, Act.put, h2, hc]
              · intro v2 w7 hr hd
                refine yields_run (u := .int .i64 i) (w' := w7) ?_ (Below.refl _ _) rfl
                unfold execOp
                simp [go_sem, Act.eval, Act.put]
              · intro v2 w7 hr hd
                have h3 : v2 3 = _ := hd 3 (by kernel_rfl)
                have h4 : v2 4 = _ := hd 4 (by kernel_rfl)
                exact yields_index (b := b1) (off := o1) (n := g.h.length) (c := vm) (i := i) (m := 2) rfl (by simp [Act.eval, Act.put, h3]) (by simp [Act.eval, Act.put, h4]) hlt Tryz.underlying34 (by intro w; simp [Tryz.sizeOf142])
              · intro v2 w7 hr hd
                have h5 : v2 5 = _ := hd 5 (by kernel_rfl)
                refine yields_run (u := .pointer (some ⟨b1, o1 + i * 2, none⟩)) (w' := w7) ?_ (Below.refl _ _) rfl
                unfold execOp
                simp [go_sem, Act.eval, Act.put, h5]
              · intro v2 w7 hr hd
                have h6 : v2 6 = _ := hd 6 (by kernel_rfl)
                have hc := E0 w7 hr.1
                refine yields_run (u := .int .i64 x.f) (w' := w7) ?_ (Below.refl _ _) rfl
                unfold execOp
                simp [go_sem, Act.eval, Act.put, h6, hc]
              · intro v2 w7 hr hd
                refine yields_run (u := .pointer (some ⟨gg, 3, none⟩)) (w' := w7) ?_ (Below.refl _ _) rfl
                unfold execOp
                simp [go_sem, Act.eval, Act.put]
              · intro v2 w7 hr hd
                have h8 : v2 8 = _ := hd 8 (by kernel_rfl)
                have hc := SR w7 hr.1
                refine yields_run (u := .slice (some ⟨b1, o1, none⟩) g.h.length vm) (w' := w7) ?_ (Below.refl _ _) rfl
                unfold execOp
                simp [go_sem, Act.eval, Act.put, h8, hc]
              · intro v2 w7 hr hd
                refine yields_run (u := .int .i64 i) (w' := w7) ?_ (Below.refl _ _) rfl
                unfold execOp
                simp [go_sem, Act.eval, Act.put]
              · intro v2 w7 hr hd
                have h9 : v2 9 = _ := hd 9 (by kernel_rfl)
                have h10 : v2 10 = _ := hd 10 (by kernel_rfl)
                exact yields_index (b := b1) (off := o1) (n := g.h.length) (c := vm) (i := i) (m := 2) rfl (by simp [Act.eval, Act.put, h9]) (by simp [Act.eval, Act.put, h10]) hlt Tryz.underlying34 (by intro w; simp [Tryz.sizeOf142])
              · intro v2 w7 hr hd
                have h11 : v2 11 = _ := hd 11 (by kernel_rfl)
                refine yields_run (u := .pointer (some ⟨b1, o1 + i * 2 + 1, none⟩)) (w' := w7) ?_ (Below.refl _ _) rfl
                unfold execOp
                simp [go_sem, Act.eval, Act.put, h11]
              · intro v2 w7 hr hd
                have h12 : v2 12 = _ := hd 12 (by kernel_rfl)
                have hc := E1 w7 hr.1
                refine yields_run (u := .int .i64 x.t) (w' := w7) ?_ (Below.refl _ _) rfl
                unfold execOp
                simp [go_sem, Act.eval, Act.put, h12, hc]
              · intro v2 w7 hr hd
                have h7 : v2 7 = _ := hd 7 (by kernel_rfl)
                have h13 : v2 13 = _ := hd 13 (by kernel_rfl)
                refine yields_run (u := .agg (cCh x).toArray) (w' := w7) ?_ (Below.refl _ _) rfl
                unfold execOp
                simp [go_sem, Act.eval, Act.put, h7, h13, cCh]
              · intro v2 w7 hr hd
                have h14 : v2 14 = _ := hd 14 (by kernel_rfl)
                refine yields_run (u := .slice (some ⟨w7.heap.size, 0, none⟩) 1 1) (w' := w7.alloc (.cells (cCh x).toArray 61)) ?_ (fresh1 w7 _) ⟨w7.heap.size, rfl, hr.2, Whole.fresh w7 _ _⟩
                unfold execOp
                simp [go_sem, Act.eval, Act.put, h14, cCh]
              · intro v2 w7 hr ho hd
                have h1 : v2 1 = _ := hd 1 (by kernel_rfl)
                obtain ⟨gy, hz, hyl, hw⟩ : LoneG 61 cCh wr.heap.size x (v2 15) w7 := hd 15 (by kernel_rfl)
                have ho7 := ho.2.1 trivial
                refine .inl (yields_append (.tmp 103) (.tmp 117) 25 rfl u3.heap.size 61 i3 (.agg #[.int .i64 0, .int .i64 0]) 2 16 Tryz.underlying25 hi3 hz30 hz31 hz32 rfl (by decide) (.slice A3 i C3) N.length (N.flatMap cCh) (by simp [Act.eval, Act.put, h1]) ho7 ⟨gy, 0, none⟩ 1 1 (cCh x) (by simp [Act.eval, Act.put, hz]) rfl (whole_cells hw) (CELLS_cCh.one x) (by decide) (by have := hNi.out; unfold maxLen; omega) (by have := hNi.out; omega) (by have := hr.2; have := S9.out; omega) ?_)
                intro g8 cap8 w8 hown hgrow
                have hab : ∀ j, (Value.slice A3 i C3).ownBlock = some j → u3.heap.size ≤ j := fun j e => OwnG.above ho7 e
                have hxn : some gx ≠ (Value.slice A3 i C3).ownBlock := fun e => by have := hab gx e.symm; have := GX.out; omega
                refine ⟨⟨grown_own hr.1 hgrow (fun j e => hab j e), Nat.le_trans hr.2 hgrow.size⟩, ?_, ?_, (show NewG 61 2 cCh u3.heap.size (N ++ [x]) (.slice (some ⟨g8, 0, none⟩) (N.length + 1) cap8) w8 from ⟨g8, cap8, by simp, by unfold OwnG; simpa using hown⟩)⟩
                · intro k2 v' hk2 hc hu
                  exact match k2, hk2, hc, hu with
                    | 0, _, _, hu => hu
                    | 1, _, _, hu => hu
                    | 2, _, _, hu => hu
                    | 3, _, _, hu => hu
                    | 4, _, _, hu => hu
                    | 5, _, _, hu => hu
                    | 6, _, _, hu => hu
                    | 7, _, _, hu => hu
                    | 8, _, _, hu => hu
                    | 9, _, _, hu => hu
                    | 10, _, _, hu => hu
                    | 11, _, _, hu => hu
                    | 12, _, _, hu => hu
                    | 13, _, _, hu => hu
                    | 14, _, _, hu => hu
                    | 15, _, _, ⟨gy, h1, h2, h3⟩ => ⟨gy, h1, h2, h3.grown hgrow (HO9.out.away h2)⟩
                    | 16, hk2, _, _ => absurd rfl hk2
                    | 17, _, _, hu => hu
                    | 18, _, hc, _ => absurd hc (by decide)
                    | _ + 19, _, _, _ => trivial
                · intro k2 hk2 hn hc2 ⟨h1, h2, h3⟩
                  exact ⟨fun e => by subst e; exact absurd hc2 (by decide), fun e => absurd e hk2, fun e => (h3 e).imp fun u hx => hx.grown hgrow hxn⟩
              · intro v2 w7 hr hd
                refine yields_run (u := .pointer (some ⟨gx, 3, none⟩)) (w' := w7) ?_ (Below.refl _ _) rfl
                unfold execOp
                simp [go_sem, Act.eval, Act.put]
              · intro v2 w7 hr ho hd
                have h17 : v2 17 = _ := hd 17 (by kernel_rfl)
                obtain ⟨g', c2, h7, hn7⟩ : NewG 61 2 cCh u3.heap.size (N ++ [x]) (v2 16) w7 := hd 16 (by kernel_rfl)
                obtain ⟨u, hu⟩ := ho.2.2 trivial
                rw [h7] at hn7
                have hc : w7.cell? ⟨gx, 3, none⟩ = some u := hu.read 3
                have hf : w7.frozen? ⟨gx, 3, none⟩ = false := hu.soft 3
                have hg : w7.grownBy (w7.setCell ⟨gx, 3, none⟩ (.slice (some ⟨g', 0, none⟩) (N ++ [x]).length c2)) (some gx) := only_store (only_of_below (Below.refl _ w7) (some gx)) _
                refine .inr ⟨w7.setCell ⟨gx, 3, none⟩ (.slice (some ⟨g', 0, none⟩) (N ++ [x]).length c2), ?_, ⟨only_trans hr.1 hg, Nat.le_trans hr.2 hg.size⟩, ?_, ?_, some ⟨g', 0, none⟩, c2, hu.store 3 _, hn7.keptG hg GX.out⟩
                · unfold execOp
                  simp [go_sem, Act.eval, Act.put, h17, h7, hc, hf]
                · intro k2 v' hk2 hc hu
                  exact match k2, hk2, hc, hu with
                    | 0, _, _, hu => hu
                    | 1, _, _, hu => hu
                    | 2, _, _, hu => hu
                    | 3, _, _, hu => hu
                    | 4, _, _, hu => hu
                    | 5, _, _, hu => hu
                    | 6, _, _, hu => hu
                    | 7, _, _, hu => hu
                    | 8, _, _, hu => hu
                    | 9, _, _, hu => hu
                    | 10, _, _, hu => hu
                    | 11, _, _, hu => hu
                    | 12, _, _, hu => hu
                    | 13, _, _, hu => hu
                    | 14, _, _, hu => hu
                    | 15, _, _, ⟨gy, h1, h2, h3⟩ => ⟨gy, h1, h2, h3.grown hg (by have := GX.out; have := S9.out; simp; omega)⟩
                    | 16, _, _, ⟨g', c', h1, h2⟩ => ⟨g', c', h1, h2.keptG hg GX.out⟩
                    | 17, _, _, hu => hu
                    | 18, hk2, _, _ => absurd rfl hk2
                    | _ + 19, _, _, _ => trivial
                · intro k2 hk2 hn hc2 ⟨h1, h2, h3⟩
                  exact ⟨fun e => by subst e; exact absurd hc2 (by decide), fun e => by subst e; exact absurd hc2 (by decide), fun e => absurd e hk2⟩
              · intro v2 w7 hr hv
                obtain ⟨D, c2, hl1, hl2⟩ : LaidG 61 2 cCh gx 27 (fun u => #[.slice A0 g.c.length C0, .slice A1 g.l.length C1, .slice A2 g.o.length C2, u]) u3.heap.size (N ++ [x]) (v2 18) w7 := hv 18 (by decide)
                have X10 := Lib.hid hl1
                have O10 := Lib.hid hl2
                have R10 := Lib.hid hr
                rw [hfin]
                clear hfin hv hl1 hl2 hr
                generalize v2 16 = v7
                generalize v2 15 = v6
                go_wp2_with fail
                go_roundw
                case rel => exact ⟨i + 1, N ++ [x], D, c2, hlt, Lib.hid (by simp [hNi.out]), by go_num, HN2, (by have := X10.out; rw [List.length_append, hNi.out] at this; exact Lib.hid this), (by have := O10.out; rw [List.length_append, hNi.out] at this; exact Lib.hid this), Lib.hid R10.out.1⟩
                case measure => simp [intOf]; omega
          obtain rfl : N = g.h := by rw [HN.out, hin, List.take_length]
          subst hin
          clear hNi HN
          have hlt : ¬ ((g.h.length : Int) < g.h.length) := by omega
          have RM3 := Lib.hid HO9.out.room
          have LG3 := Lib.hid (OwnG.lg CELLS_cCh HO9.out)
          have GP3 : Hid (∀ a, A3 = some a → gx < a.block) := Lib.hid fun a e => by have := HO9.out.gap a e; have := GX.out; omega
          replace LG0 := Lib.hid (lg_past LG0.out G9.out (fun a e => by have := GP0.out a e; omega))
          replace LG1 := Lib.hid (lg_past LG1.out G9.out (fun a e => by have := GP1.out a e; omega))
          replace LG2 := Lib.hid (lg_past LG2.out G9.out (fun a e => by have := GP2.out a e; omega))
          have OR4 := Lib.hid (OR3.out.grown G9.out (by have := hGR.out; simp; omega))
          have B5 := Lib.hid (below_only B4.out G9.out B4.out.size (by have := hGR.out; have := hG0.out; omega))
          have x0 := X9.out.read 0
          have x1 := X9.out.read 1
          have x2 := X9.out.read 2
          have x3 := X9.out.read 3
          have q0 := OR4.out.read 0
          have q1 := OR4.out.read 1
          have q2 := OR4.out.read 2
          have q3 := OR4.out.read 3
          have s0 := OR4.out.soft 0
          have s1 := OR4.out.soft 1
          have s2 := OR4.out.soft 2
          have s3 := OR4.out.soft 3
          go_upto_region 19 with fail
          have GW := Lib.hid (only_store (only_store (only_store (only_store (World.grownBy.refl wr (some gr)) (i := 0) (.slice A0 g.c.length C0)) (i := 1) (.slice A1 g.l.length C1)) (i := 2) (.slice A2 g.o.length C2)) (i := 3) (.slice A3 g.h.length C3))
          go_wp2_with fail
          refine bodyPost_ret (v := gV ⟨A0, A1, A2, A3, C0, C1, C2, C3⟩ g) (by simp [results, Tryz.results22, go_sem, q0, q1, q2, q3]) rfl ?_
          refine ⟨⟨A0, A1, A2, A3, C0, C1, C2, C3⟩, rfl, ⟨lg_past LG0.out GW.out (fun a e => by have := GP0.out a e; have := hGR.out; omega), lg_past LG1.out GW.out (fun a e => by have := GP1.out a e; have := hGR.out; omega), lg_past LG2.out GW.out (fun a e => by have := GP2.out a e; have := hGR.out; omega), lg_past LG3.out GW.out (fun a e => by have := GP3.out a e; have := hGR.out; omega)⟩, ⟨RM0.out, RM1.out, RM2.out, RM3.out⟩, below_only B5.out GW.out B5.out.size (by have := hGR.out; have := hG0.out; omega)⟩
end Go.Proofs.YtpblpjopinllcaaGreatDoor.graph
