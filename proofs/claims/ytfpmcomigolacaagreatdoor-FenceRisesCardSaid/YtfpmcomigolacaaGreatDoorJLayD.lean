/-
  DERIVED: THE SHELF's CONTRACTS AT THIS DUMP, IN PLAIN WORDS (tools/lay-plain.mjs out of 'TryzShelfX.lean', which tools/lay-shelf.mjs wrote): THE SAME DECLARATIONS UNDER THE SAME NAMES: 'import', 'namespace', 'open', 'def', 'theorem' AND NOTHING ELSE: no command of the shelf's: FOR A HAND-IN. Each laying: the table of numbers ('.._ren') and one theorem, a field a fact of the dump's own or the kernel's comparison; each contract: ONE APPLICATION.
  slices.Delete at the front of a log's own rows.
  The contract of dropFirst.
-/
import Derived.Shelf.SlicesG.Delete
import Derived.Ground.SlgnProg
import Derived.Test.YtfpmcomigolacaaGreatDoorProg
import Derived.Test.YtfpmcomigolacaaGreatDoorJUw9
import Derived.Test.YtfpmcomigolacaaGreatDoorJRt5
set_option linter.unusedSimpArgs false
set_option linter.unusedVariables false
namespace Go.Proofs
open Go.Shelf
def Tryz.lD72_ren : Go.Shelf.Ren := ⟨fun | 45 => 71 | n => n, fun | 22 => 23 | 23 => 3 | 3 => 3 | 4 => 4 | 0 => 0 | n => n, fun | n => n⟩
theorem Tryz.lD72 : Go.Proofs.SlLaysN.n45 Tryz.prog Tryz.lD72_ren := {
  mixed := by kernel_rfl
  f45 := ⟨Tryz.f71.name, by decide, Tryz.func71.trans (congrArg some (by kernel_rfl))⟩
  t0 := Tryz.underlying0
  a0 := Tryz.isAgg0
  z0 := Tryz.sizeOf0
  v0 := Tryz.zeroValue0
  t3 := Tryz.underlying3
  a3 := Tryz.isAgg3
  z3 := Tryz.sizeOf3
  v3 := Tryz.zeroValue3
  t4 := Tryz.underlying4
  a4 := Tryz.isAgg4
  z4 := Tryz.sizeOf4
  v4 := Tryz.zeroValue4
  t22 := Tryz.underlying23
  a22 := Tryz.isAgg23
  z22 := Tryz.sizeOf23
  v22 := Tryz.zeroValue23
  t23 := Tryz.underlying3
  a23 := Tryz.isAgg3
  z23 := Tryz.sizeOf3
  v23 := Tryz.zeroValue3
  i23 := by kernel_rfl }
def Tryz.lD71_ren : Go.Shelf.Ren := ⟨fun | 46 => 70 | n => n, fun | 25 => 45 | 26 => 9 | 3 => 3 | 4 => 4 | 0 => 0 | n => n, fun | n => n⟩
theorem Tryz.lD71 : Go.Proofs.SlLaysN.n46 Tryz.prog Tryz.lD71_ren := {
  mixed := by kernel_rfl
  f46 := ⟨Tryz.f70.name, by decide, Tryz.func70.trans (congrArg some (by kernel_rfl))⟩
  t0 := Tryz.underlying0
  a0 := Tryz.isAgg0
  z0 := Tryz.sizeOf0
  v0 := Tryz.zeroValue0
  t3 := Tryz.underlying3
  a3 := Tryz.isAgg3
  z3 := Tryz.sizeOf3
  v3 := Tryz.zeroValue3
  t4 := Tryz.underlying4
  a4 := Tryz.isAgg4
  z4 := Tryz.sizeOf4
  v4 := Tryz.zeroValue4
  t25 := Tryz.underlying45
  a25 := Tryz.isAgg45
  z25 := Tryz.sizeOf45
  v25 := Tryz.zeroValue45
  t26 := Tryz.underlying9
  a26 := Tryz.isAgg9
  z26 := Tryz.sizeOf9
  v26 := Tryz.zeroValue9
  i26 := by kernel_rfl }
end Go.Proofs
set_option linter.unusedSimpArgs false
set_option linter.unusedVariables false
namespace Go.Proofs.YtfpmcomigolacaaGreatDoor.wal
open Go.ChangeShapes Go.WideShapes Go.ChangeAt Go.RowKit Go.Maps Go.WideMaps Go.Sort
open Go.Proofs.YtfpmcomigolacaaGreatDoor.opened Go.Proofs.YtfpmcomigolacaaGreatDoor.block Go.Proofs.YtfpmcomigolacaaGreatDoor.words Go.Proofs.YtfpmcomigolacaaGreatDoor.disk Go.Proofs.YtfpmcomigolacaaGreatDoor.tailed Go.Proofs.YtfpmcomigolacaaGreatDoor.enc Go.Proofs.YtfpmcomigolacaaGreatDoor.code
section
variable {α : Type} [Inhabited α] {enc : α → Value} {w : World} {base : Nat} {e : TypeId} {b cap : Nat} {zs : List α}
theorem own_holds (h : w.ownsRow base e 1 (.slice (some ⟨b, 0, none⟩) zs.length cap) zs.length (zs.map enc)) : Holds enc w b 0 zs.toArray ∧ zs.length ≤ cap ∧ cap ≤ 9223372036854775807 := by
  rcases h.2 with ⟨hv, -⟩ | ⟨g, cap', cur, hv, hg, hh, hc, hm, hs, ht⟩
  · cases hv
  · injection hv with h1 h2 h3
    injection h1 with h1
    injection h1 with h1
    subst h1 h3
    refine ⟨fun j hj => ?_, hc, by unfold maxLen at hm; omega⟩
    have hj' : j < zs.length := by simpa using hj
    have hW : Whole w b e cur := hh
    have hx : cur[j]? = some (enc zs[j]) := by
      have h2 : (zs.map enc)[j]? = some (enc zs[j]) := by rw [List.getElem?_map, List.getElem?_eq_getElem hj']; rfl
      rw [← ht, List.getElem?_take, if_pos (by simp; omega), Array.getElem?_toList] at h2
      exact h2
    refine ⟨?_, hW.soft _⟩
    rw [hW.read, Nat.zero_add, hx]
    congr 2
    rw [getElem!_pos zs.toArray j (by simpa using hj')]
    simp
theorem own_put (h : w.ownsRow base e 1 (.slice (some ⟨b, 0, none⟩) zs.length cap) zs.length (zs.map enc)) (q : Nat) (ys : List α) (hy : ys.length = zs.length) (m : Nat) (hm : m ≤ zs.length) :
    (putRow enc (Sort.ahead w q) b 0 ys.toArray).ownsRow base e 1 (.slice (some ⟨b, 0, none⟩) m cap) m ((ys.take m).map enc) ∧ w.grownBy (putRow enc (Sort.ahead w q) b 0 ys.toArray) (some b) := by
  rcases h.2 with ⟨hv, -⟩ | ⟨g, cap', cur, hv, hg, hh, hc, hcm, hs, ht⟩
  · cases hv
  · injection hv with h1 h2 h3
    injection h1 with h1
    injection h1 with h1
    subst h1 h3
    have hcz : cur.size = cap := by simpa using hs
    have hb : (putRow enc (Sort.ahead w q) b 0 ys.toArray).heap[b]? = some (.cells (putCells enc 0 ys.toArray cur) e (0, 0)) := by
      show (w.heap.modify b (onCells (putCells enc 0 ys.toArray)))[b]? = _
      rw [Array.getElem?_modify, if_pos rfl, hh]
      rfl
    refine ⟨⟨by simp; omega, .inr ⟨b, cap, putCells enc 0 ys.toArray cur, rfl, hg, hb, by omega, hcm, by simp [putCells, hcz], ?_⟩⟩, ⟨rfl, rfl, rfl, by show w.heap.size ≤ (w.heap.modify b _).size; simp, fun k hk hne => ?_⟩⟩
    · refine List.ext_getElem? fun i => ?_
      rw [List.getElem?_take]
      by_cases hi : i < m
      · rw [if_pos (by simp; omega), Array.getElem?_toList, List.getElem?_map, List.getElem?_take, if_pos hi]
        have hiy : i < ys.length := by omega
        have hic : i < cur.size := by omega
        rw [List.getElem?_eq_getElem hiy]
        simp only [putCells, Array.getElem?_mapIdx, Array.getElem?_eq_getElem hic, Option.map_some]
        rw [if_pos ⟨Nat.zero_le _, by simpa using hiy⟩, Nat.sub_zero, getElem!_pos ys.toArray i (by simpa using hiy)]
        simp
      · rw [if_neg (by simp; omega), List.getElem?_eq_none (by simp; omega)]
    · show (w.heap.modify b _)[k]? = _
      rw [Array.getElem?_modify, if_neg (fun e => hne (by rw [e]))]
end
section
variable {R : Option Addr} {d : Nat} {w : World}
theorem del_recs {N : List Bs} (h : OwnS w 0 (.slice R N.length d) N) (n : Nat) (hn : n ≤ N.length) :
    Calls Tryz.prog 70 #[.slice R N.length d, .int .i64 0, .int .i64 (n : Int)] w fun e w' => e = .returned (.slice R (N.length - n) d) ∧ w'.ownsRow 0 9 1 (.slice R (N.length - n) d) (N.length - n) ((N.drop n).map sV) ∧ w.grownBy w' (R.map Addr.block) := by
  rcases h.2 with ⟨hv, hz⟩ | ⟨g, cap, cur, hv, hg, hh, rest⟩
  · injection hv with h1 h2 h3
    subst h1 h3
    have hN : N = [] := List.eq_nil_of_length_eq_zero hz
    subst hN
    obtain rfl : n = 0 := by simpa using hn
    have H := Lib.hid h
    clear h hz hn
    go_enter Tryz.func70, Tryz.ntmps70
    go_wp2_with fail
    go_ret
    exact ⟨rfl, H.out, World.grownBy.refl w _⟩
  · injection hv with h1 h2 h3
    subst h1
    obtain ⟨q1, q2, q3⟩ := own_holds h
    refine (AnyG.slices_Delete_string Tryz.lD71 g 0 d 0 n N w q1 q2 q3 (Nat.zero_le _) hn).mono ?_
    rintro e w' ⟨rfl, q, rfl⟩
    have hl : (N.take 0 ++ N.drop n ++ List.replicate (n - 0) []).length = N.length := by simp; omega
    obtain ⟨p1, p2⟩ := own_put h q _ hl (N.length - n) (by omega)
    have ht : (N.take 0 ++ N.drop n ++ List.replicate (n - 0) ([] : Bs)).take (N.length - n) = N.drop n := by
      rw [List.take_zero, List.nil_append]
      have : N.length - n = (N.drop n).length := by simp
      rw [this, List.take_left]
    rw [ht] at p1
    exact ⟨rfl, p1, p2⟩
theorem del_heads {A : Option Addr} {c : Nat} {N : List Int} (h : w.ownsRow 0 3 1 (.slice A N.length c) N.length (N.map (Value.int .i64))) (hn : 1 ≤ N.length) :
    Calls Tryz.prog 71 #[.slice A N.length c, .int .i64 0, .int .i64 1] w fun e w' => e = .returned (.slice A (N.length - 1) c) ∧ w'.ownsRow 0 3 1 (.slice A (N.length - 1) c) (N.length - 1) (N.tail.map (Value.int .i64)) ∧ w.grownBy w' (A.map Addr.block) := by
  rcases h.2 with ⟨hv, hz⟩ | ⟨g, cap, cur, hv, hg, hh, rest⟩
  · omega
  · injection hv with h1 h2 h3
    subst h1
    obtain ⟨q1, q2, q3⟩ := own_holds h
    refine (AnyG.slices_Delete_int Tryz.lD72 g 0 c 0 1 N w q1 q2 q3 (Nat.zero_le _) hn).mono ?_
    rintro e w' ⟨rfl, q, rfl⟩
    have hl : (N.take 0 ++ N.drop 1 ++ List.replicate (1 - 0) (0 : Int)).length = N.length := by simp; omega
    obtain ⟨p1, p2⟩ := own_put h q _ hl (N.length - 1) (by omega)
    have ht : (N.take 0 ++ N.drop 1 ++ List.replicate (1 - 0) (0 : Int)).take (N.length - 1) = N.tail := by
      rw [List.take_zero, List.nil_append]
      have : N.length - 1 = (N.drop 1).length := by simp
      rw [this, List.take_left, List.drop_one]
    rw [ht] at p1
    exact ⟨rfl, p1, p2⟩
end
end Go.Proofs.YtfpmcomigolacaaGreatDoor.wal
set_option linter.unusedSimpArgs false
set_option linter.unusedVariables false
namespace Go.Proofs.YtfpmcomigolacaaGreatDoor.wal
open Go.ChangeShapes Go.WideShapes Go.ChangeAt Go.RowKit Go.Maps Go.WideMaps
open Go.Proofs.YtfpmcomigolacaaGreatDoor.opened Go.Proofs.YtfpmcomigolacaaGreatDoor.block Go.Proofs.YtfpmcomigolacaaGreatDoor.words Go.Proofs.YtfpmcomigolacaaGreatDoor.disk Go.Proofs.YtfpmcomigolacaaGreatDoor.tailed Go.Proofs.YtfpmcomigolacaaGreatDoor.enc Go.Proofs.YtfpmcomigolacaaGreatDoor.code Go.Proofs.YtfpmcomigolacaaGreatDoor.region
theorem yieldsW_callR {P : Program} {w : World} {o : Oper} {ρ : Operand → Value} {f : FuncId} {xs : Array Operand} {ts : Array TypeId} {T : Value → World → Prop} (ho : o.op = .call { callee := .value (.func f), args := xs, argTypes := ts }) {vs : Array Value} (hx : xs.map ρ = vs) (hf : ρ (.func f) = .func (.func f) #[] #[]) {fn : Func} (hfn : P.funcs[f]? = some fn) (hname : (fn.name == "runtime.NumGoroutine") = false) (hbody : fn.body.isNone = false)
    (h : Calls P f vs w fun e w' => ∃ u, e = .returned u ∧ T u w') : YieldsW P o ρ w T := by
  have h1 : ¬ fn.name = "runtime.NumGoroutine" := by simpa using hname
  have h2 : ¬ fn.body = none := by
    intro e
    rw [e] at hbody
    cases hbody
  refine .inr ⟨f, vs, ?_, h⟩
  unfold execOp
  simp [ho, hx, hf, resolve, go_sem, callFunc, hfn, h1, h2]
theorem yields_index {P : Program} {w : World} {o : Oper} {ρ : Operand → Value} {ty : TypeId} {x y : Operand} (ho : o.op = .indexAddr ty x y) {b off n c i m : Nat} {e : TypeId} (hx : ρ x = .slice (some ⟨b, off, none⟩) n c) (hy : ρ y = .int .i64 i) (hi : i < n)
    (ht : P.underlying ty = some (.slice e)) (hs : ∀ w, (sizeOf e).run P w = .ok m w) : Go.Proofs.YtfpmcomigolacaaGreatDoor.region.Yields P o ρ w (Go.Proofs.YtfpmcomigolacaaGreatDoor.region.Is (.pointer (some ⟨b, off + i * m, none⟩))) := by
  refine Go.Proofs.YtfpmcomigolacaaGreatDoor.region.yields_run (u := .pointer (some ⟨b, off + i * m, none⟩)) (w' := w) ?_ (Below.refl _ _) rfl
  have h1 : 0 ≤ (i : Int) ∧ (i : Int) < (n : Int) := by omega
  unfold execOp
  simp [ho, hx, hy, go_sem, Instr.indexAt, Sem.run_bind, run_underlying ht, hs, h1, asIntOf, hi]
theorem cell_lt {w : World} {g i : Nat} {v : Value} (h : w.cell? ⟨g, i, none⟩ = some v) : g < w.heap.size := by
  rcases Nat.lt_or_ge g w.heap.size with q | q
  · exact q
  · unfold World.cell? at h
    rw [Array.getElem?_eq_none q] at h
    cases h
def OwnD (R : Option Addr) (d rl : Nat) (N : List Bs) (w : World) : Prop := w.ownsRow 0 9 1 (.slice R rl d) rl (N.map sV)
theorem own_below {w w' : World} {base : Nat} {e : TypeId} {size : Nat} {v : Value} {n : Nat} {xs : List Value} (h : w.ownsRow base e size v n xs) (hb : Below w.heap.size w w') : w'.ownsRow base e size v n xs := own_same h fun k hk => by
  obtain ⟨cs, q⟩ := own_type h hk
  exact hb.block k q.inside
theorem OwnD.below {R : Option Addr} {d rl : Nat} {N : List Bs} {w w' : World} (h : OwnD R d rl N w) (hb : Below w.heap.size w w') : OwnD R d rl N w' := own_below h hb
def DelR (R : Option Addr) (d rl n : Nat) (N : List Bs) : Value → World → Prop := fun u w => u = .slice R (rl - n) d ∧ w.ownsRow 0 9 1 (.slice R (rl - n) d) (rl - n) ((N.drop n).map sV)
theorem keeps_delR (R : Option Addr) (d rl n : Nat) (N : List Bs) : Keeps (DelR R d rl n N) := fun _ _ _ hb ⟨h1, h2⟩ => ⟨h1, own_below h2 hb⟩
/-- What does not turn in the region: the block's cells but the fifth, by a function of it. -/
structure RS (gl : Nat) (C5 : Value → Array Value) (hl c : Nat) (ga : Nat) (R : Option Addr) : Prop where
  four : ∀ v, (C5 v)[4]? = some (.slice (some ⟨ga, 0, none⟩) hl c)
  five : ∀ v, (C5 v)[5]? = some v
  set : ∀ u v, (C5 u).setIfInBounds 5 v = C5 v
  gag : ga ≠ gl
  gar : ∀ a, R = some a → ga ≠ a.block
  glr : ∀ a, R = some a → a.block ≠ gl
structure RD (wx : World) (gl : Nat) (R : Option Addr) (C5 : Value → Array Value) (ga : Nat) (x0 x1 : Int) (hl c : Nat) (w7 : World) : Prop where
  rs : RS gl C5 hl c ga R
  os : w7.os = wx.os
  tape : w7.tape = wx.tape
  output : w7.output = wx.output
  size : wx.heap.size ≤ w7.heap.size
  glx : gl < wx.heap.size
  rx : ∀ a, R = some a → a.block < wx.heap.size
  old : ∀ k, k < wx.heap.size → k ≠ gl → (∀ a, R = some a → k ≠ a.block) → w7.heap[k]? = wx.heap[k]?
  cells : ∃ v5, Whole w7 gl 67 (C5 v5)
  w0 : wx.cell? ⟨ga, 0, none⟩ = some (.int .i64 x0)
  w1 : wx.cell? ⟨ga, 1, none⟩ = some (.int .i64 x1)
section
variable {wx : World} {gl : Nat} {R : Option Addr} {C5 : Value → Array Value} {ga : Nat} {x0 x1 : Int} {hl c : Nat} {w7 w8 : World}
theorem RD.whole (h : RD wx gl R C5 ga x0 x1 hl c w7) : ∃ v5, Whole w7 gl 67 (C5 v5) := h.cells
theorem RD.c4 (h : RD wx gl R C5 ga x0 x1 hl c w7) : w7.cell? ⟨gl, 4, none⟩ = some (.slice (some ⟨ga, 0, none⟩) hl c) := by
  obtain ⟨v5, hv⟩ := h.cells
  exact (hv.read 4).trans (h.rs.four v5)
theorem RD.get5 (h : RD wx gl R C5 ga x0 x1 hl c w7) : ∃ v5, w7.cell? ⟨gl, 5, none⟩ = some v5 := by
  obtain ⟨v5, hv⟩ := h.cells
  exact ⟨v5, (hv.read 5).trans (h.rs.five v5)⟩
theorem RD.soft5 (h : RD wx gl R C5 ga x0 x1 hl c w7) : w7.frozen? ⟨gl, 5, none⟩ = false := by
  obtain ⟨v5, hv⟩ := h.cells
  exact hv.soft 5
theorem RD.rx0 (h : RD wx gl R C5 ga x0 x1 hl c w7) : w7.cell? ⟨ga, 0, none⟩ = some (.int .i64 x0) := (World.cell?_of_block (a := ⟨ga, 0, none⟩) (h.old ga (cell_lt h.w0) h.rs.gag h.rs.gar)).trans h.w0
theorem RD.rx1 (h : RD wx gl R C5 ga x0 x1 hl c w7) : w7.cell? ⟨ga, 1, none⟩ = some (.int .i64 x1) := (World.cell?_of_block (a := ⟨ga, 1, none⟩) (h.old ga (cell_lt h.w0) h.rs.gag h.rs.gar)).trans h.w1
theorem RD.below (h : RD wx gl R C5 ga x0 x1 hl c w7) (hb : Below w7.heap.size w7 w8) : RD wx gl R C5 ga x0 x1 hl c w8 :=
  ⟨h.rs, hb.os.trans h.os, hb.tape.trans h.tape, hb.output.trans h.output, Nat.le_trans h.size hb.size, h.glx, h.rx, fun k hk h1 h2 => (hb.block k (Nat.lt_of_lt_of_le hk h.size)).trans (h.old k hk h1 h2), by
    obtain ⟨v5, hv⟩ := h.cells
    exact ⟨v5, hv.below hb hv.inside⟩, h.w0, h.w1⟩
theorem RD.row (h : RD wx gl R C5 ga x0 x1 hl c w7) (hg : w7.grownBy w8 (R.map Addr.block)) (hne : ∀ a, R = some a → a.block ≠ gl) : RD wx gl R C5 ga x0 x1 hl c w8 := by
  have ne : ∀ k, (∀ a, R = some a → k ≠ a.block) → some k ≠ R.map Addr.block := fun k hk e => by
    cases R with
    | none => cases e
    | some a => exact hk a rfl (by simpa using e)
  refine ⟨h.rs, hg.os.trans h.os, hg.tape.trans h.tape, hg.output.trans h.output, Nat.le_trans h.size hg.size, h.glx, h.rx, fun k hk h1 h2 => (hg.block k (Nat.lt_of_lt_of_le hk h.size) (ne k h2)).trans (h.old k hk h1 h2), ?_, h.w0, h.w1⟩
  obtain ⟨v5, hv⟩ := h.cells
  exact ⟨v5, hv.grown hg (ne gl fun a ha e => hne a ha e.symm)⟩
theorem RD.store (h : RD wx gl R C5 ga x0 x1 hl c w7) (v : Value) : RD wx gl R C5 ga x0 x1 hl c (w7.setCell ⟨gl, 5, none⟩ v) := by
  refine ⟨h.rs, h.os, h.tape, h.output, by have := h.size; simpa [World.setCell] using this, h.glx, h.rx, fun k hk h1 h2 => (Below.heap_setCell w7 _ v k (by simpa using h1)).trans (h.old k hk h1 h2), ?_, h.w0, h.w1⟩
  obtain ⟨v5, hv⟩ := h.cells
  have := hv.store 5 v
  rw [h.rs.set] at this
  exact ⟨v, this⟩
theorem DelR.store {d rl n : Nat} {N : List Bs} {u : Value} (h : DelR R d rl n N u w7) (hw : ∃ v5, Whole w7 gl 67 (C5 v5)) : DelR R d rl n N u (w7.setCell ⟨gl, 5, none⟩ (.slice R (rl - n) d)) := by
  obtain ⟨v5, hv⟩ := hw
  refine ⟨h.1, own_same h.2 fun k hk => Below.heap_setCell w7 _ _ k fun e => ?_⟩
  obtain ⟨cs, q⟩ := own_type h.2 hk
  have e' : k = gl := e
  rw [e'] at q
  exact absurd (whole_type q hv) (by decide)
/-- What the region leaves. -/
def DelF (gl : Nat) (R : Option Addr) (d rl n : Nat) (N : List Bs) (C5 : Value → Array Value) (w : World) : Prop := Whole w gl 67 (C5 (.slice R (rl - n) d)) ∧ w.ownsRow 0 9 1 (.slice R (rl - n) d) (rl - n) ((N.drop n).map sV)
theorem DelF.below {d rl n : Nat} {N : List Bs} (h : DelF gl R d rl n N C5 w7) (hb : Below w7.heap.size w7 w8) : DelF gl R d rl n N C5 w8 := ⟨h.1.below hb h.1.inside, own_below h.2 hb⟩
theorem DelF.made {d rl n : Nat} {N : List Bs} (h : RD wx gl R C5 ga x0 x1 hl c w7) (ho : w7.ownsRow 0 9 1 (.slice R (rl - n) d) (rl - n) ((N.drop n).map sV)) : DelF gl R d rl n N C5 (w7.setCell ⟨gl, 5, none⟩ (.slice R (rl - n) d)) := by
  refine ⟨?_, (DelR.store (u := .slice R (rl - n) d) ⟨rfl, ho⟩ h.cells).2⟩
  obtain ⟨v5, hv⟩ := h.cells
  have := hv.store 5 (.slice R (rl - n) d)
  rwa [h.rs.set] at this
end
section
variable {gl gd : Nat} {L : Lg} {A : Option Addr} {c : Nat} {R : Option Addr} {d : Nat} {w : World} {B : Nat} {D : Dk}
theorem frame_old (h : LogE w gl gd L A c R d) (hD : DiskB w B gd D) (hlb : ∀ k, lblk gl A R k → B ≤ k) {w' : World} (ho : w'.os = w.os) (ht : w'.tape = w.tape) (hu : w'.output = w.output) (hsz : w.heap.size ≤ w'.heap.size) (hB : B ≤ w.heap.size) (old : ∀ k, k < w.heap.size → ¬ lblk gl A R k → w'.heap[k]? = w.heap[k]?) :
    DiskB w' B gd D ∧ WT w w' (lblk gl A R) ∧ Below B w w' := by
  refine ⟨?_, ⟨ho, ht, hu, hsz, fun k o' hk hn _ => (old k (Array.getElem?_eq_some_iff.1 hk).1 hn).trans hk⟩, ⟨ho, ht, hu, hsz, fun k hk => old k (by omega) (fun hn => by have := hlb k hn; omega)⟩⟩
  obtain ⟨mb, E, h1, h2⟩ := hD
  refine ⟨mb, E, h1.same fun k hk => old k (h1.inside hk) fun hn => ?_, h2⟩
  obtain ⟨t, cs, q1, q2⟩ := h.obj hn
  obtain ⟨o', q3, q4⟩ := disk_obj h1 hk
  rw [q1] at q3
  cases q3
  exact not_dobj (tyL q2).1 (tyL q2).2 q4
set_option maxRecDepth 100000 in
set_option maxHeartbeats 4000000 in
theorem dropFirst_any {m : Int} (G : GoodL L) (hn : nextN L ≤ 1125899906842624) (hm : pastB L m = true) (GD : GoodD D) (hE : EnvB B w) (h : LogE w gl gd L A c R d) (hD : DiskB w B gd D) (hlb : ∀ k, lblk gl A R k → B ≤ k) :
    Calls Tryz.prog 41 #[.pointer (some ⟨gl, 0, none⟩)] w fun e w' => e = .returned (.int .i64 (dfE L D)) ∧ LTurn B gl gd A R (if dfE L D ≠ 0 then L else dfV L) (dfD L D) w w' := by
  have hB := hE.le
  have n0 := G.lo
  have n1 := G.hi
  obtain ⟨GV, p1, p2, p3, p4, p5⟩ := good_df G hm
  have hbl : L.least ≤ 1000 := by unfold nextF at n1; omega
  have HFi : Hid (∀ w1, Below w.heap.size w w1 → Calls Tryz.prog 36 #[.pointer (some ⟨gl, 0, none⟩), .int .i64 L.least] w1 fun e w' => e = .returned (sV (fn L.nm L.least)) ∧ Below w1.heap.size w1 w') := Lib.hid fun w1 b => file_any G.len L.least (by omega) (by omega) (h.below b) (hE.below b).env
  have HRm : Hid (∀ w1, Below w.heap.size w w1 → Calls Tryz.prog 35 #[.pointer (some ⟨gd, 0, none⟩), sV (fn L.nm L.least)] w1 fun e w' => e = .returned (.int .i64 (dfE L D)) ∧ LogE w' gl gd L A c R d ∧ LTurn B gl gd A R L (dfD L D) w w') := Lib.hid fun w1 b =>
    (remW GD _ (by have := fn_len (nm := L.nm) (k := L.least) (by omega) (by omega); have := G.len; omega) (Nat.le_trans hB b.size) (hD.below b)).mono fun e w' ⟨e1, e2, e3, e4⟩ => ⟨e1, (h.below b).wt e3 fun _ _ hf => hf, LTurn.pre b hB (LTurn.disk_call (lturn_of (h.below b) (hD.below b) (WT.refl _ _) (Below.refl _ _)) ⟨e2, e3, e4⟩)⟩
  have c0x : ∀ x : Since w, x.1.cell? ⟨gl, 0, none⟩ = some (.pointer (some ⟨gd, 0, none⟩)) := fun x => (h.below x.2).cells.read 0
  have f0x : ∀ x : Since w, x.1.frozen? ⟨gl, 0, none⟩ = false := fun x => (h.below x.2).cells.soft 0
  have c3x : ∀ x : Since w, x.1.cell? ⟨gl, 3, none⟩ = some (.int .i64 L.least) := fun x => (h.below x.2).cells.read 3
  have f3x : ∀ x : Since w, x.1.frozen? ⟨gl, 3, none⟩ = false := fun x => (h.below x.2).cells.soft 3
  have hgl := hlb gl (.inl rfl)
  -- the two rows
  obtain ⟨y0, y1, yr, hh⟩ : ∃ a b r, L.heads = a :: b :: r := by
    cases e : L.heads with
    | nil => unfold pastB at hm; rw [e] at hm; cases hm
    | cons a t =>
      cases e2 : t with
      | nil => unfold pastB at hm; rw [e, e2] at hm; cases hm
      | cons b r => exact ⟨a, b, r, rfl⟩
  have e0 : h0 L = y0 := by unfold h0; rw [hh]; rfl
  have e1 : h1 L = y1 := by unfold h1; rw [hh]; rfl
  rw [e0, e1] at p1 p2
  obtain ⟨n, hnn⟩ : ∃ n : Nat, y1 - y0 = (n : Int) := ⟨(y1 - y0).toNat, by omega⟩
  have hnl : n ≤ L.recs.length := by omega
  have hw : wrap64 (y1 - y0) = (n : Int) := by unfold wrap64; unfold nextN at hn; have := G.base; omega
  have hw3 : IntKind.i64.wrap (y1 - y0) = (n : Int) := by rw [IntKind.wrap_i64]; unfold wrap64 at hw; omega
  have hl2 : 2 ≤ L.heads.length := by rw [hh]; simp
  obtain ⟨ga, hA, hga, hc0⟩ := own_at h.heads (k := 0) (x := .int .i64 y0) (by rw [hh]; rfl)
  obtain ⟨ga', hA', -, hc1⟩ := own_at h.heads (k := 1) (x := .int .i64 y1) (by rw [hh]; rfl)
  rw [hA] at hA'
  injection hA' with hA'
  injection hA' with hA'
  subst hA'
  obtain ⟨m1, m2, m3⟩ := row_ne h
  have HR : Hid (∀ w1, LogE w1 gl gd L A c R d → RD w1 gl R (fun v => #[.pointer (some ⟨gd, 0, none⟩), sV L.nm, .int .i64 L.per, .int .i64 L.least, .slice (some ⟨ga, 0, none⟩) L.heads.length c, v, .bool L.torn, .int .i64 L.syn, .bool L.fail]) ga y0 y1 L.heads.length c w1 ∧ OwnD R d L.recs.length L.recs w1 ∧ w1.cell? ⟨gl, 5, none⟩ = some (.slice R L.recs.length d)) := Lib.hid fun w1 k => by
    obtain ⟨g1, hg1, -, q0⟩ := own_at k.heads (k := 0) (x := .int .i64 y0) (by rw [hh]; rfl)
    obtain ⟨g2, hg2, -, q1⟩ := own_at k.heads (k := 1) (x := .int .i64 y1) (by rw [hh]; rfl)
    rw [hA] at hg1 hg2
    injection hg1 with hg1
    injection hg1 with hg1
    injection hg2 with hg2
    injection hg2 with hg2
    subst hg1 hg2
    have kc := k.cells
    rw [hA] at kc
    exact ⟨⟨⟨fun _ => rfl, fun _ => rfl, fun _ _ => rfl, m1 _ hA, fun a ha e => m3 _ a hA ha e, m2⟩, rfl, rfl, rfl, Nat.le_refl _, kc.inside, fun a ha => k.inside (.inr (.inr ⟨a, ha, rfl⟩)), fun _ _ _ _ => rfl, ⟨_, kc⟩, q0, q1⟩, k.recs, k.cells.read 5⟩
  have HDel : Hid (∀ w1, OwnD R d L.recs.length L.recs w1 → Calls Tryz.prog 70 #[.slice R L.recs.length d, .int .i64 0, .int .i64 (n : Int)] w1 fun e w' => e = .returned (.slice R (L.recs.length - n) d) ∧ w'.ownsRow 0 9 1 (.slice R (L.recs.length - n) d) (L.recs.length - n) ((L.recs.drop n).map sV) ∧ w1.grownBy w' (R.map Addr.block)) := Lib.hid fun w1 k => del_recs k n hnl
  have hRne := m2
  -- behind the region
  have hdl : (L.recs.drop n).length = L.recs.length - n := by simp
  have HF4 : Hid (∀ w1 w2, LogE w1 gl gd L A c R d → LTurn B gl gd A R L (dfD L D) w w1 → RD w1 gl R (fun v => #[.pointer (some ⟨gd, 0, none⟩), sV L.nm, .int .i64 L.per, .int .i64 L.least, .slice (some ⟨ga, 0, none⟩) L.heads.length c, v, .bool L.torn, .int .i64 L.syn, .bool L.fail]) ga y0 y1 L.heads.length c w2 → DelF gl R d L.recs.length n L.recs (fun v => #[.pointer (some ⟨gd, 0, none⟩), sV L.nm, .int .i64 L.per, .int .i64 L.least, .slice (some ⟨ga, 0, none⟩) L.heads.length c, v, .bool L.torn, .int .i64 L.syn, .bool L.fail]) w2 →
      LogE w2 gl gd { L with recs := L.recs.drop n } A c R d ∧ LTurn B gl gd A R { L with recs := L.recs.drop n } (dfD L D) w w2) := Lib.hid fun w1 w2 k t r f => by
    have old : ∀ j, j < w1.heap.size → ¬ lblk gl A R j → w2.heap[j]? = w1.heap[j]? := fun j hj hne => r.old j hj (fun e => hne (.inl e)) (fun a ha e => hne (.inr (.inr ⟨a, ha, e⟩)))
    obtain ⟨u1, u2, u3⟩ := frame_old k t.disk hlb r.os r.tape r.output r.size (Nat.le_trans hB t.wt.size) old
    have LE : LogE w2 gl gd { L with recs := L.recs.drop n } A c R d := by
      refine ⟨?_, own_same k.heads fun j hj => ?_, ?_⟩
      · have := f.1
        show Whole w2 gl _ #[.pointer (some ⟨gd, 0, none⟩), sV L.nm, .int .i64 L.per, .int .i64 L.least, .slice A L.heads.length c, .slice R (L.recs.drop n).length d, .bool L.torn, .int .i64 L.syn, .bool L.fail]
        rw [hA, hdl]
        exact this
      · obtain ⟨a, ha, rfl⟩ := own_blk hj
        have hlt := k.inside (.inr (.inl ⟨a, ha, rfl⟩))
        exact r.old a.block hlt (m1 a ha) (fun b hb e => m3 a b ha hb e)
      · have := f.2
        show w2.ownsRow 0 9 1 (.slice R (L.recs.drop n).length d) (L.recs.drop n).length _
        rw [hdl]
        exact this
    exact ⟨LE, t.then_ (fun j hj => .inl hj) ⟨⟨A, c, R, d, LE, fun j hj => .inl hj⟩, u1, u2, u3⟩⟩
  have HDh : Hid (∀ w1, LogE w1 gl gd { L with recs := L.recs.drop n } A c R d → LTurn B gl gd A R { L with recs := L.recs.drop n } (dfD L D) w w1 → Calls Tryz.prog 71 #[.slice A L.heads.length c, .int .i64 0, .int .i64 1] w1 fun e w' => e = .returned (.slice A (L.heads.length - 1) c) ∧ w'.cell? ⟨gl, 4, none⟩ = some (.slice A L.heads.length c) ∧ w'.frozen? ⟨gl, 4, none⟩ = false ∧
      LogE (w'.setCell ⟨gl, 4, none⟩ (.slice A (L.heads.length - 1) c)) gl gd { L with recs := L.recs.drop n, heads := L.heads.tail } A c R d ∧ LTurn B gl gd A R { L with recs := L.recs.drop n, heads := L.heads.tail } (dfD L D) w (w'.setCell ⟨gl, 4, none⟩ (.slice A (L.heads.length - 1) c))) := Lib.hid fun w1 k t => by
    refine (del_heads k.heads (by show 1 ≤ L.heads.length; omega)).mono fun e w' ⟨q1, q2, q3⟩ => ?_
    have hnt : L.heads.tail.length = L.heads.length - 1 := by simp
    have ne : ∀ j, (∀ a, A = some a → j ≠ a.block) → some j ≠ A.map Addr.block := fun j hj e => by
      cases A with
      | none => cases e
      | some a => exact hj a rfl (by simpa using e)
    have W1 : Whole w' gl 67 _ := k.cells.grown q3 (ne gl fun a ha e => m1 a ha e.symm)
    have old : ∀ j, j < w1.heap.size → ¬ lblk gl A R j → (w'.setCell ⟨gl, 4, none⟩ (.slice A (L.heads.length - 1) c)).heap[j]? = w1.heap[j]? := fun j hj hne =>
      (Below.heap_setCell w' _ _ j fun e => hne (.inl e)).trans (q3.block j hj (ne j fun a ha e => hne (.inr (.inl ⟨a, ha, e⟩))))
    obtain ⟨u1, u2, u3⟩ := frame_old k t.disk hlb (w' := w'.setCell ⟨gl, 4, none⟩ (.slice A (L.heads.length - 1) c)) q3.os q3.tape q3.output (by have := q3.size; simpa [World.setCell] using this) (Nat.le_trans hB t.wt.size) old
    have LE : LogE (w'.setCell ⟨gl, 4, none⟩ (.slice A (L.heads.length - 1) c)) gl gd { L with recs := L.recs.drop n, heads := L.heads.tail } A c R d := by
      refine ⟨?_, ?_, own_same k.recs fun j hj => ?_⟩
      · have := W1.store 4 (.slice A (L.heads.length - 1) c)
        show Whole _ gl _ #[.pointer (some ⟨gd, 0, none⟩), sV L.nm, .int .i64 L.per, .int .i64 L.least, .slice A L.heads.tail.length c, .slice R (L.recs.drop n).length d, .bool L.torn, .int .i64 L.syn, .bool L.fail]
        rw [hnt]
        exact this
      · show World.ownsRow _ 0 3 1 (.slice A L.heads.tail.length c) L.heads.tail.length (L.heads.tail.map _)
        rw [hnt]
        refine own_same q2 fun j hj => Below.heap_setCell w' _ _ j fun e => ?_
        obtain ⟨a, ha, rfl⟩ := own_blk hj
        exact m1 a ha e
      · obtain ⟨a, ha, rfl⟩ := own_blk hj
        have hlt := k.inside (.inr (.inr ⟨a, ha, rfl⟩))
        exact (Below.heap_setCell w' _ _ a.block fun e => m2 a ha e).trans (q3.block a.block hlt (ne _ fun b hb e => m3 b a hb ha e.symm))
    exact ⟨q1, W1.read 4, W1.soft 4, LE, t.then_ (fun j hj => .inl hj) ⟨⟨A, c, R, d, LE, fun j hj => .inl hj⟩, u1, u2, u3⟩⟩
  have HLe : Hid (∀ w1, LogE w1 gl gd { L with recs := L.recs.drop n, heads := L.heads.tail } A c R d → LTurn B gl gd A R { L with recs := L.recs.drop n, heads := L.heads.tail } (dfD L D) w w1 → w1.cell? ⟨gl, 3, none⟩ = some (.int .i64 L.least) ∧ w1.frozen? ⟨gl, 3, none⟩ = false ∧ LTurn B gl gd A R (dfV L) (dfD L D) w (w1.setCell ⟨gl, 3, none⟩ (.int .i64 (L.least + 1)))) := Lib.hid fun w1 k t => by
    have hdf : dfV L = { L with recs := L.recs.drop n, heads := L.heads.tail, least := L.least + 1 } := by
      unfold dfV
      rw [e0, e1, hnn, Int.toNat_natCast]
    rw [hdf]
    obtain ⟨u1, u2⟩ := k.set 3 (.int .i64 (L.least + 1)) { L with recs := L.recs.drop n, heads := L.heads.tail, least := L.least + 1 } rfl rfl rfl
    exact ⟨k.cells.read 3, k.cells.soft 3, t.own_set hB hgl (fun j hj => .inl hj) k u1 u2⟩
  have c4w : Hid (∀ w1, LogE w1 gl gd { L with recs := L.recs.drop n } A c R d → w1.cell? ⟨gl, 4, none⟩ = some (.slice A L.heads.length c) ∧ w1.frozen? ⟨gl, 4, none⟩ = false) := Lib.hid fun w1 k => ⟨k.cells.read 4, k.cells.soft 4⟩
  have hwl : wrap64 (L.least + 1) = L.least + 1 := by unfold wrap64; omega
  clear h hD hE G GV GD n0 n1 hn hm hlb p1 p2 p3 p4 p5 e0 e1 hnn hnl hc0 hc1 m1 m2 m3 hdl hh yr hga
  subst hA
  generalize dfE L D = fe at HRm ⊢
  generalize dfD L D = fd at HRm HF4 HDh HLe ⊢
  generalize dfV L = M at HLe ⊢
  generalize fn L.nm L.least = fname at HFi HRm
  by_cases q : fe = 0
  case neg =>
    rw [if_pos q]
    have q2 : (fe != 0) = true := by simpa using q
    clear q HR HDel HF4 HDh HLe c4w
    go_enter Tryz.func41, Tryz.ntmps41
    go_upto_region 1 with fail
    refine region_since_tail w 10 (by kernel_rfl) (by kernel_rfl) (Below.refl _ _) ?_
    simp only [List.take_succ_cons, List.take_zero, List.drop_succ_cons, List.drop_zero]
    repeat (go_big_quiet_step ((go_at_call 36; with_reducible exact since_callW HFi.out _)))
    refine wpQuiet_nil ?_
    rintro w4 ⟨z, rfl⟩
    have hz := z.2
    clear c0x f0x c3x f3x
    go_wp2_with (go_at_call 35; refine (HRm.out _ hz).mono ?_; rintro e w6 ⟨rfl, l6, t6⟩; have T6 := Lib.hid t6; clear t6 l6)
    go_ret
    exact ⟨rfl, T6.out⟩
  rw [if_neg (by simpa using q)]
  subst q
  go_enter Tryz.func41, Tryz.ntmps41
  go_upto_region 1 with fail
  refine region_since_tail w 10 (by kernel_rfl) (by kernel_rfl) (Below.refl _ _) ?_
  simp only [List.take_succ_cons, List.take_zero, List.drop_succ_cons, List.drop_zero]
  repeat (go_big_quiet_step ((go_at_call 36; with_reducible exact since_callW HFi.out _)))
  refine wpQuiet_nil ?_
  rintro w4 ⟨z, rfl⟩
  have hz := z.2
  clear c0x f0x c3x f3x
  go_upto_region 4 with (go_at_call 35; refine (HRm.out _ hz).mono ?_; rintro e w6 ⟨rfl, l6, t6⟩; have T6 := Lib.hid t6; have L6 := Lib.hid l6; clear t6 l6)
  obtain ⟨wx, hwx⟩ : ∃ wx, wx = w6 := ⟨_, rfl⟩
  rw [← hwx] at T6 L6 ⊢
  clear hwx hz
  obtain ⟨r0, r1, r2⟩ := HR.out wx L6.out
  have HR0 := Lib.hid r0
  have HO18 := Lib.hid r1
  have HO4 := Lib.hid r2
  clear r0 r1 r2 HR HRm HFi hgl hbl
  generalize hC5 : (fun v => #[.pointer (some ⟨gd, 0, none⟩), sV L.nm, .int .i64 L.per, .int .i64 L.least, .slice (some ⟨ga, 0, none⟩) L.heads.length c, v, .bool L.torn, .int .i64 L.syn, .bool L.fail] : Value → Array Value) = C5 at HR0 HF4
  clear hC5
  generalize hN : L.recs = N at *
  generalize hrl : N.length = rl at *
  generalize hhl : L.heads.length = hl at *
  refine region_full 54 [(18, 21)] [(21, 4), (21, 18), (18, 4)] (fun k => k == 4 || k == 18 || k == 21) (RD wx gl R C5 ga y0 y1 hl c) ?hR ?r0 [pdOne 0 (Is (.pointer (some ⟨gl, 0, none⟩))), pdOne 1 (Is (.pointer (some ⟨gl, 0, none⟩))), pdOne 2 (Is (.pointer (some ⟨gl, 0, none⟩))), pdOne 3 (Is (.pointer (some ⟨gl, 5, none⟩))), pdOne 4 (Is (.slice R rl d)), pdOne 5 (Is (.pointer (some ⟨gl, 0, none⟩))), pdOne 6 (Is (.pointer (some ⟨gl, 0, none⟩))), pdOne 7 (Is (.pointer (some ⟨gl, 4, none⟩))), pdOne 8 (Is (.slice (some ⟨ga, 0, none⟩) hl c)), pdOne 9 (Is (.pointer (some ⟨ga, 1, none⟩))), pdOne 10 (Is (.int .i64 y1)), pdOne 11 (Is (.pointer (some ⟨gl, 0, none⟩))), pdOne 12 (Is (.pointer (some ⟨gl, 0, none⟩))), pdOne 13 (Is (.pointer (some ⟨gl, 4, none⟩))), pdOne 14 (Is (.slice (some ⟨ga, 0, none⟩) hl c)), pdOne 15 (Is (.pointer (some ⟨ga, 0, none⟩))), pdOne 16 (Is (.int .i64 y0)), pdOne 17 (Is (.int .i64 (n : Int))), pdOne 18 (DelR R d rl n N), pdOne 19 (Is (.pointer (some ⟨gl, 0, none⟩))), pdOne 20 (Is (.pointer (some ⟨gl, 5, none⟩))), pdOne 21 (fun _ w => DelF gl R d rl n N C5 w)] (fun k w7 => (k = 4 → w7.cell? ⟨gl, 5, none⟩ = some (.slice R rl d)) ∧ (k = 18 → OwnD R d rl N w7) ∧ (k = 21 → True)) (by kernel_rfl) rfl (by kernel_rfl) (by kernel_rfl) (by kernel_rfl) (by kernel_rfl) ?keep ?hO ?h0 ?tell
  case hR => exact fun _ _ hb h => RD.below h hb
  case r0 => exact HR0.out
  case keep => exact ⟨keep_one (keeps_is _), keep_one (keeps_is _), keep_one (keeps_is _), keep_one (keeps_is _), keep_one (keeps_is _), keep_one (keeps_is _), keep_one (keeps_is _), keep_one (keeps_is _), keep_one (keeps_is _), keep_one (keeps_is _), keep_one (keeps_is _), keep_one (keeps_is _), keep_one (keeps_is _), keep_one (keeps_is _), keep_one (keeps_is _), keep_one (keeps_is _), keep_one (keeps_is _), keep_one (keeps_is _), keep_one (keeps_delR _ _ _ _ _), keep_one (keeps_is _), keep_one (keeps_is _), keep_one (fun _ _ _ hb h => DelF.below h hb), trivial⟩
  case hO => exact fun k w7 w8 hb ⟨q1, q2, q3⟩ => ⟨fun e => (hb.cell (p := ⟨gl, 5, none⟩) (cell_lt (q1 e))).trans (q1 e), fun e => OwnD.below (q2 e) hb, q3⟩
  case h0 => exact fun _ _ => ⟨fun _ => HO4.out, fun _ => HO18.out, fun _ => trivial⟩
  case tell =>
    intro fin hfin
    simp [lexPut, Act.put] at hfin
    simp only [TellF]
    refine ⟨⟨?_, ?_, ?_, ?_, ?_, ?_, ?_, ?_, ?_, ?_, ?_, ?_, ?_, ?_, ?_, ?_, ?_, ?_, ?_, ?_, ?_, ?_, trivial⟩, ?_⟩
    · intro v w7 hr hd
      refine yields_run (u := .pointer (some ⟨gl, 0, none⟩)) (w' := w7) ?_ (Below.refl _ _) rfl
      unfold execOp
      simp [go_sem, Act.eval]
    · intro v w7 hr hd
      refine yields_run (u := .pointer (some ⟨gl, 0, none⟩)) (w' := w7) ?_ (Below.refl _ _) rfl
      unfold execOp
      simp [go_sem, Act.eval, Act.put]
    · intro v w7 hr hd
      have h1 : v 1 = _ := hd 1 (by kernel_rfl)
      refine yields_run (u := .pointer (some ⟨gl, 0, none⟩)) (w' := w7) ?_ (Below.refl _ _) rfl
      unfold execOp
      simp [go_sem, Act.eval, Act.put, h1]
    · intro v w7 hr hd
      have h2 : v 2 = _ := hd 2 (by kernel_rfl)
      refine yields_run (u := .pointer (some ⟨gl, 5, none⟩)) (w' := w7) ?_ (Below.refl _ _) rfl
      unfold execOp
      simp [go_sem, Act.eval, Act.put, h2]
    · intro v w7 hr ho hd
      have h3 : v 3 = _ := hd 3 (by kernel_rfl)
      have c5 := ho.1 trivial
      refine .inl (.inl ⟨.slice R rl d, w7, ?_, hr, fun _ _ _ _ hu => hu, fun _ _ _ _ hu => hu, rfl⟩)
      unfold execOp
      simp [go_sem, Act.eval, Act.put, h3, c5]
    · intro v w7 hr hd
      refine yields_run (u := .pointer (some ⟨gl, 0, none⟩)) (w' := w7) ?_ (Below.refl _ _) rfl
      unfold execOp
      simp [go_sem, Act.eval, Act.put]
    · intro v w7 hr hd
      have h5 : v 5 = _ := hd 5 (by kernel_rfl)
      refine yields_run (u := .pointer (some ⟨gl, 0, none⟩)) (w' := w7) ?_ (Below.refl _ _) rfl
      unfold execOp
      simp [go_sem, Act.eval, Act.put, h5]
    · intro v w7 hr hd
      have h6 : v 6 = _ := hd 6 (by kernel_rfl)
      refine yields_run (u := .pointer (some ⟨gl, 4, none⟩)) (w' := w7) ?_ (Below.refl _ _) rfl
      unfold execOp
      simp [go_sem, Act.eval, Act.put, h6]
    · intro v w7 hr hd
      have h7 : v 7 = _ := hd 7 (by kernel_rfl)
      have hc := hr.c4
      refine yields_run (u := .slice (some ⟨ga, 0, none⟩) hl c) (w' := w7) ?_ (Below.refl _ _) rfl
      unfold execOp
      simp [go_sem, Act.eval, Act.put, h7, hc]
    · intro v w7 hr hd
      have h8 : v 8 = _ := hd 8 (by kernel_rfl)
      exact yields_index (b := ga) (off := 0) (n := hl) (c := c) (i := 1) (m := 1) rfl (by simp [Act.eval, Act.put, h8]) (by simp [Act.eval, Act.put, h8]) (by omega) Tryz.underlying23 (by intro w; simp [Tryz.sizeOf3])
    · intro v w7 hr hd
      have h9 : v 9 = _ := hd 9 (by kernel_rfl)
      have hc := hr.rx1
      refine yields_run (u := .int .i64 y1) (w' := w7) ?_ (Below.refl _ _) rfl
      unfold execOp
      simp [go_sem, Act.eval, Act.put, h9, hc]
    · intro v w7 hr hd
      refine yields_run (u := .pointer (some ⟨gl, 0, none⟩)) (w' := w7) ?_ (Below.refl _ _) rfl
      unfold execOp
      simp [go_sem, Act.eval, Act.put]
    · intro v w7 hr hd
      have h11 : v 11 = _ := hd 11 (by kernel_rfl)
      refine yields_run (u := .pointer (some ⟨gl, 0, none⟩)) (w' := w7) ?_ (Below.refl _ _) rfl
      unfold execOp
      simp [go_sem, Act.eval, Act.put, h11]
    · intro v w7 hr hd
      have h12 : v 12 = _ := hd 12 (by kernel_rfl)
      refine yields_run (u := .pointer (some ⟨gl, 4, none⟩)) (w' := w7) ?_ (Below.refl _ _) rfl
      unfold execOp
      simp [go_sem, Act.eval, Act.put, h12]
    · intro v w7 hr hd
      have h13 : v 13 = _ := hd 13 (by kernel_rfl)
      have hc := hr.c4
      refine yields_run (u := .slice (some ⟨ga, 0, none⟩) hl c) (w' := w7) ?_ (Below.refl _ _) rfl
      unfold execOp
      simp [go_sem, Act.eval, Act.put, h13, hc]
    · intro v w7 hr hd
      have h14 : v 14 = _ := hd 14 (by kernel_rfl)
      exact yields_index (b := ga) (off := 0) (n := hl) (c := c) (i := 0) (m := 1) rfl (by simp [Act.eval, Act.put, h14]) (by simp [Act.eval, Act.put, h14]) (by omega) Tryz.underlying23 (by intro w; simp [Tryz.sizeOf3])
    · intro v w7 hr hd
      have h15 : v 15 = _ := hd 15 (by kernel_rfl)
      have hc := hr.rx0
      refine yields_run (u := .int .i64 y0) (w' := w7) ?_ (Below.refl _ _) rfl
      unfold execOp
      simp [go_sem, Act.eval, Act.put, h15, hc]
    · intro v w7 hr hd
      have h10 : v 10 = _ := hd 10 (by kernel_rfl)
      have h16 : v 16 = _ := hd 16 (by kernel_rfl)
      refine yields_run (u := .int .i64 (n : Int)) (w' := w7) ?_ (Below.refl _ _) rfl
      unfold execOp
      simp [go_sem, Act.eval, Act.put, h10, h16, hw3]
    · intro v w7 hr ho hd
      have h4 : v 4 = _ := hd 4 (by kernel_rfl)
      have h17 : v 17 = _ := hd 17 (by kernel_rfl)
      have hown := ho.2.1 trivial
      refine .inl (yieldsW_callR (f := 70) rfl (vs := #[.slice R rl d, .int .i64 0, .int .i64 (n : Int)]) (by simp [Act.eval, Act.put, h4, h17]) rfl Tryz.func70 (by kernel_rfl) (by kernel_rfl) ?_)
      refine (HDel.out w7 hown).mono fun e w8 ⟨he, ho8, hg8⟩ => ⟨_, he, hr.row hg8 (fun a ha => hRne a ha), ?_, ?_, rfl, ho8⟩
      · intro k2 v' hk2 hc hu
        exact match k2, hk2, hc, hu with
          | 0, hk2, hc, hu => hu
          | 1, hk2, hc, hu => hu
          | 2, hk2, hc, hu => hu
          | 3, hk2, hc, hu => hu
          | 4, hk2, hc, hu => hu
          | 5, hk2, hc, hu => hu
          | 6, hk2, hc, hu => hu
          | 7, hk2, hc, hu => hu
          | 8, hk2, hc, hu => hu
          | 9, hk2, hc, hu => hu
          | 10, hk2, hc, hu => hu
          | 11, hk2, hc, hu => hu
          | 12, hk2, hc, hu => hu
          | 13, hk2, hc, hu => hu
          | 14, hk2, hc, hu => hu
          | 15, hk2, hc, hu => hu
          | 16, hk2, hc, hu => hu
          | 17, hk2, hc, hu => hu
          | 18, hk2, hc, hu => absurd rfl hk2
          | 19, hk2, hc, hu => hu
          | 20, hk2, hc, hu => hu
          | 21, hk2, hc, hu => absurd hc (by decide)
          | _ + 22, _, _, _ => trivial
      · intro k2 hk2 hn hc2 ⟨h1, h2, h3⟩
        exact ⟨fun e => by subst e; exact absurd hc2 (by decide), fun e => absurd e hk2, fun _ => trivial⟩
    · intro v w7 hr hd
      have h0 : v 0 = _ := hd 0 (by kernel_rfl)
      refine yields_run (u := .pointer (some ⟨gl, 0, none⟩)) (w' := w7) ?_ (Below.refl _ _) rfl
      unfold execOp
      simp [go_sem, Act.eval, Act.put, h0]
    · intro v w7 hr hd
      have h19 : v 19 = _ := hd 19 (by kernel_rfl)
      refine yields_run (u := .pointer (some ⟨gl, 5, none⟩)) (w' := w7) ?_ (Below.refl _ _) rfl
      unfold execOp
      simp [go_sem, Act.eval, Act.put, h19]
    · intro v w7 hr ho hd
      have h20 : v 20 = _ := hd 20 (by kernel_rfl)
      obtain ⟨h18, hown⟩ : DelR R d rl n N (v 18) w7 := hd 18 (by kernel_rfl)
      have c5 := hr.get5
      have f5 := hr.soft5
      obtain ⟨v5, c5⟩ := c5
      refine .inr ⟨w7.setCell ⟨gl, 5, none⟩ (.slice R (rl - n) d), ?_, hr.store _, ?_, fun k hk hn hc => ?_, DelF.made hr hown⟩
      · unfold execOp
        simp [go_sem, Act.eval, Act.put, h20, h18, c5, f5]
      · intro k2 v' hk2 hc hu
        exact match k2, hk2, hc, hu with
          | 0, hk2, hc, hu => hu
          | 1, hk2, hc, hu => hu
          | 2, hk2, hc, hu => hu
          | 3, hk2, hc, hu => hu
          | 4, hk2, hc, hu => hu
          | 5, hk2, hc, hu => hu
          | 6, hk2, hc, hu => hu
          | 7, hk2, hc, hu => hu
          | 8, hk2, hc, hu => hu
          | 9, hk2, hc, hu => hu
          | 10, hk2, hc, hu => hu
          | 11, hk2, hc, hu => hu
          | 12, hk2, hc, hu => hu
          | 13, hk2, hc, hu => hu
          | 14, hk2, hc, hu => hu
          | 15, hk2, hc, hu => hu
          | 16, hk2, hc, hu => hu
          | 17, hk2, hc, hu => hu
          | 18, hk2, hc, hu => DelR.store hu hr.whole
          | 19, hk2, hc, hu => hu
          | 20, hk2, hc, hu => hu
          | 21, hk2, hc, hu => absurd rfl hk2
          | _ + 22, _, _, _ => trivial
      · have hk4 : k = 4 ∨ k = 18 ∨ k = 21 := by simpa [or_assoc] using hn
        rcases hk4 with rfl | rfl | rfl
        · exact absurd hc (by decide)
        · exact absurd hc (by decide)
        · exact absurd rfl hk
    · intro v w7 hr hv
      have hF : DelF gl R d rl n N C5 w7 := hv 21 (by simp)
      obtain ⟨l8, t8⟩ := HF4.out wx w7 L6.out T6.out hr hF
      have L8 := Lib.hid l8
      have T8 := Lib.hid t8
      rw [hfin]
      clear hfin hv hr hF l8 t8 HF4 HO4 HO18 HR0 HDel hw hw3
      generalize v 18 = v18
      obtain ⟨c4, f4⟩ := c4w.out w7 L8.out
      have HX := Lib.hid (HDh.out w7 L8.out T8.out)
      clear HDh c4w L6 T6
      go_upto_region 6 with (go_at_call 71; refine HX.out.mono ?_; rintro e w9 ⟨rfl, c4y, f4y, l9, t9⟩; have L9 := Lib.hid l9; have T9 := Lib.hid t9; clear l9 t9)
      generalize w9.setCell ⟨gl, 4, none⟩ (.slice (some ⟨ga, 0, none⟩) (hl - 1) c) = w10 at L9 T9 ⊢
      clear c4y f4y HX
      obtain ⟨c3, f3, t11⟩ := HLe.out w10 L9.out T9.out
      have T11 := Lib.hid t11
      clear t11
      go_wp2_with fail
      go_ret
      exact ⟨rfl, T11.out⟩
end
end Go.Proofs.YtfpmcomigolacaaGreatDoor.wal
