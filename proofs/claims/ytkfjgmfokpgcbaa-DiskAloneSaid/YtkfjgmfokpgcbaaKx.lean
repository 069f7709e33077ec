/-
  A disk, all of it; what turns in the world while something is done to it.
-/
import Derived.Test.YtkfjgmfokpgcbaaKw
namespace Go.Proofs.Ytkfjgmfokpgcbaa.disk
open Go.ChangeShapes Go.WideShapes Go.ChangeAt Go.RowKit Go.Maps Go.WideMaps
open Go.Proofs.Ytkfjgmfokpgcbaa.words Go.Proofs.Ytkfjgmfokpgcbaa.opened Go.Proofs.Ytkfjgmfokpgcbaa.block

/-- Of what was there nothing has turned but blocks of S. -/
structure Turn (w w' : World) (S : Nat → Prop) : Prop where
  os : w'.os = w.os
  tape : w'.tape = w.tape
  output : w'.output = w.output
  size : w.heap.size ≤ w'.heap.size
  block : ∀ k, k < w.heap.size → ¬ S k → w'.heap[k]? = w.heap[k]?
theorem Turn.refl (w : World) (S : Nat → Prop) : Turn w w S := ⟨rfl, rfl, rfl, Nat.le_refl _, fun _ _ _ => rfl⟩
theorem Turn.wide {w w' : World} {S Q : Nat → Prop} (h : Turn w w' S) (hs : ∀ k, S k → Q k) : Turn w w' Q := ⟨h.os, h.tape, h.output, h.size, fun k hk hn => h.block k hk fun hS => hn (hs k hS)⟩
theorem Turn.trans {a b c : World} {S Q : Nat → Prop} (h : Turn a b S) (k : Turn b c Q) (hq : ∀ j, Q j → S j ∨ a.heap.size ≤ j) : Turn a c S :=
  ⟨k.os.trans h.os, k.tape.trans h.tape, k.output.trans h.output, Nat.le_trans h.size k.size, fun j hj hn =>
    (k.block j (Nat.lt_of_lt_of_le hj h.size) fun hQ => by
      rcases hq j hQ with h1 | h1
      · exact hn h1
      · omega).trans (h.block j hj hn)⟩
theorem turn_below {w w' : World} (h : Below w.heap.size w w') (S : Nat → Prop) : Turn w w' S := ⟨h.os, h.tape, h.output, h.size, fun k hk _ => h.block k hk⟩
theorem turn_grown {w w' : World} {row : Option Nat} (h : w.grownBy w' row) {S : Nat → Prop} (hs : ∀ k, row = some k → S k) : Turn w w' S :=
  ⟨h.os, h.tape, h.output, h.size, fun k hk hn => h.block k hk fun e => hn (hs k e.symm)⟩
theorem Turn.below {w w' : World} {S : Nat → Prop} (h : Turn w w' S) {B : Nat} (hB : B ≤ w.heap.size) (hs : ∀ k, S k → B ≤ k) : Below B w w' :=
  ⟨h.os, h.tape, h.output, h.size, fun i hi => h.block i (by omega) fun hS => by have := hs i hS; omega⟩
theorem Whole.turn {w w' : World} {g : Nat} {t : TypeId} {cs : Array Value} {S : Nat → Prop} (h : Whole w g t cs) (ht : Turn w w' S) (hg : ¬ S g) : Whole w' g t cs := (ht.block g h.inside hg).trans h

def RowE (w : World) (e : Fe) : Prop := w.ownsRow 0 5 1 e.row e.f.b.length (bsC e.f.b) ∧ (e.f.b = [] → e.A = none)
theorem RowE.ok {w : World} {e : Fe} (h : RowE w e) : e.Ok := by
  rcases h.1.2 with ⟨hv, -⟩ | ⟨g, cap, cur, hv, -⟩
  · injection hv with h1
    exact .inl h1
  · injection hv with h1
    exact .inr ⟨g, h1⟩
theorem RowE.lt {w : World} {e : Fe} (h : RowE w e) {a : Addr} (ha : e.A = some a) : a.block < w.heap.size := by
  have := World.ownsRow.lt h.1 a.block (by show Value.ownBlock (.slice e.A _ _) = _; rw [ha]; rfl)
  exact this.2
theorem RowE.same {w w' : World} {e : Fe} (h : RowE w e) (hb : ∀ a, e.A = some a → w'.heap[a.block]? = w.heap[a.block]?) : RowE w' e := by
  refine ⟨⟨h.1.1, ?_⟩, h.2⟩
  rcases h.1.2 with hn | ⟨g, cap, cur, hv, hg, hh, rest⟩
  · exact .inl hn
  · refine .inr ⟨g, cap, cur, hv, hg, ?_, rest⟩
    injection hv with h1
    exact (hb _ h1).trans hh
theorem RowE.cap {w : World} {e : Fe} (h : RowE w e) : e.f.b.length ≤ e.c ∧ e.c ≤ maxLen := by
  rcases h.1.2 with ⟨hv, hn⟩ | ⟨g, cap, cur, hv, -, -, h1, h2, -⟩
  · injection hv with h1 h2 h3
    omega
  · injection hv with h3 h4 h5
    omega

structure DiskE (w : World) (g mb : Nat) (D : Dk) (E : List Fe) : Prop where
  fs : E.map Fe.f = D.F
  cells : Whole w g 54 #[.map (some mb), .bool D.off, .int .i64 D.left]
  own : OwnF w mb E
  rows : ∀ e ∈ E, RowE w e
  apart : E.Pairwise fun x y => ∀ a b, x.A = some a → y.A = some b → a.block ≠ b.block
  gm : g ≠ mb
  far : ∀ e ∈ E, ∀ a, e.A = some a → a.block ≠ g ∧ a.block ≠ mb
/-- The blocks that a disk lies in. -/
def blk (g mb : Nat) (E : List Fe) (k : Nat) : Prop := k = g ∨ k = mb ∨ ∃ e ∈ E, ∃ a, e.A = some a ∧ k = a.block
def DiskP (w : World) (S : Nat → Prop) (g : Nat) (D : Dk) : Prop := ∃ mb E, DiskE w g mb D E ∧ ∀ k, blk g mb E k → S k
theorem DiskE.ok {w : World} {g mb : Nat} {D : Dk} {E : List Fe} (h : DiskE w g mb D E) : ∀ e ∈ E, e.Ok := fun e he => (h.rows e he).ok
theorem DiskE.same {w w' : World} {g mb : Nat} {D : Dk} {E : List Fe} (h : DiskE w g mb D E) (hb : ∀ k, blk g mb E k → w'.heap[k]? = w.heap[k]?) : DiskE w' g mb D E :=
  ⟨h.fs, (hb g (.inl rfl)).trans h.cells, h.own.same (hb mb (.inr (.inl rfl))), fun e he => (h.rows e he).same fun a ha => hb a.block (.inr (.inr ⟨e, he, a, ha, rfl⟩)), h.apart, h.gm, h.far⟩
theorem DiskE.inside {w : World} {g mb : Nat} {D : Dk} {E : List Fe} (h : DiskE w g mb D E) {k : Nat} (hk : blk g mb E k) : k < w.heap.size := by
  rcases hk with rfl | rfl | ⟨e, he, a, ha, rfl⟩
  · exact h.cells.inside
  · exact h.own.lt
  · exact (h.rows e he).lt ha
theorem DiskE.turn {w w' : World} {g mb : Nat} {D : Dk} {E : List Fe} {S : Nat → Prop} (h : DiskE w g mb D E) (ht : Turn w w' S) (hs : ∀ k, blk g mb E k → ¬ S k) : DiskE w' g mb D E :=
  h.same fun k hk => ht.block k (h.inside hk) (hs k hk)
theorem DiskE.below {w w' : World} {g mb : Nat} {D : Dk} {E : List Fe} (h : DiskE w g mb D E) (hb : Below w.heap.size w w') : DiskE w' g mb D E := h.same fun k hk => hb.block k (h.inside hk)
theorem DiskP.turn {w w' : World} {g : Nat} {D : Dk} {S Q : Nat → Prop} (h : DiskP w Q g D) (ht : Turn w w' S) (hs : ∀ k, Q k → ¬ S k) : DiskP w' Q g D := by
  obtain ⟨mb, E, h1, h2⟩ := h
  exact ⟨mb, E, h1.turn ht fun k hk => hs k (h2 k hk), h2⟩
theorem DiskP.below {w w' : World} {g : Nat} {D : Dk} {S : Nat → Prop} (h : DiskP w S g D) (hb : Below w.heap.size w w') : DiskP w' S g D := by
  obtain ⟨mb, E, h1, h2⟩ := h
  exact ⟨mb, E, h1.below hb, h2⟩
theorem DiskP.wide {w : World} {g : Nat} {D : Dk} {S Q : Nat → Prop} (h : DiskP w S g D) (hs : ∀ k, S k → Q k) : DiskP w Q g D := by
  obtain ⟨mb, E, h1, h2⟩ := h
  exact ⟨mb, E, h1, fun k hk => hs k (h2 k hk)⟩
theorem DiskP.at {w : World} {g : Nat} {D : Dk} {S : Nat → Prop} (h : DiskP w S g D) : S g ∧ g < w.heap.size := by
  obtain ⟨mb, E, h1, h2⟩ := h
  exact ⟨h2 g (.inl rfl), h1.cells.inside⟩
/-- What is done to a disk writes in the disk's blocks, and in new ones. -/
def More (w : World) (S : Nat → Prop) : Nat → Prop := fun k => S k ∨ w.heap.size ≤ k
/-- The cells of the disk itself are written. -/
theorem DiskE.write {w w' : World} {g mb : Nat} {D : Dk} {E : List Fe} (h : DiskE w g mb D E) (D' : Dk) (hF : D'.F = D.F) (hc : Whole w' g 54 #[.map (some mb), .bool D'.off, .int .i64 D'.left]) (hg : w.grownBy w' (some g)) : DiskE w' g mb D' E := by
  have ht : ∀ k, k ≠ g → blk g mb E k → w'.heap[k]? = w.heap[k]? := fun k hk hb => hg.block k (h.inside hb) (by simpa using hk)
  exact ⟨h.fs.trans hF.symm, hc, h.own.same (ht mb h.gm.symm (.inr (.inl rfl))), fun e he => (h.rows e he).same fun a ha => ht a.block (h.far e he a ha).1 (.inr (.inr ⟨e, he, a, ha, rfl⟩)), h.apart, h.gm, h.far⟩
/-- A file is put into the map; its row is one that no other file has. -/
theorem DiskE.put {w w' : World} {g mb : Nat} {D : Dk} {E : List Fe} {e : Fe} (h : DiskE w g mb D E) (ho : OwnF w' mb (putE e E)) (hg : w.grownBy w' (some mb)) (hr : RowE w e) (hn : ∀ x ∈ E, x.f.n ≠ e.f.n → ∀ a b, x.A = some a → e.A = some b → a.block ≠ b.block) (hf : ∀ a, e.A = some a → a.block ≠ g ∧ a.block ≠ mb) :
    DiskE w' g mb { D with F := put e.f D.F } (putE e E) := by
  have ht : ∀ k, k < w.heap.size → k ≠ mb → w'.heap[k]? = w.heap[k]? := fun k hk hb => hg.block k hk (by simpa using hb)
  refine ⟨by rw [map_putE, h.fs], (ht g h.cells.inside h.gm).trans h.cells, ho, fun x hx => ?_, ?_, h.gm, fun x hx => ?_⟩
  · rcases mem_putE.1 hx with rfl | ⟨hx, _⟩
    · exact hr.same fun a ha => ht a.block (hr.lt ha) (hf a ha).2
    · exact (h.rows x hx).same fun a ha => ht a.block ((h.rows x hx).lt ha) (h.far x hx a ha).2
  · refine ((putE_perm e E).pairwise_iff (fun {a b} hab x y hx hy => (hab y x hy hx).symm)).2 (List.pairwise_cons.2 ⟨fun x hx => ?_, h.apart.filter _⟩)
    obtain ⟨hx1, hx2⟩ := mem_delE.1 hx
    exact fun a b ha hb => (hn x hx1 hx2 b a hb ha).symm
  · rcases mem_putE.1 hx with rfl | ⟨hx, _⟩
    · exact hf
    · exact h.far x hx
theorem DiskE.del {w w' : World} {g mb : Nat} {D : Dk} {E : List Fe} {n : Bs} (h : DiskE w g mb D E) (ho : OwnF w' mb (delE n E)) (hg : w.grownBy w' (some mb)) : DiskE w' g mb { D with F := del n D.F } (delE n E) := by
  have ht : ∀ k, k < w.heap.size → k ≠ mb → w'.heap[k]? = w.heap[k]? := fun k hk hb => hg.block k hk (by simpa using hb)
  refine ⟨by rw [map_delE, h.fs], (ht g h.cells.inside h.gm).trans h.cells, ho, fun x hx => ?_, h.apart.filter _, h.gm, fun x hx => h.far x (mem_delE.1 hx).1⟩
  obtain ⟨hx, -⟩ := mem_delE.1 hx
  exact (h.rows x hx).same fun a ha => ht a.block ((h.rows x hx).lt ha) (h.far x hx a ha).2
theorem blk_put {g mb : Nat} {E : List Fe} {e : Fe} {k : Nat} (h : blk g mb (putE e E) k) : blk g mb E k ∨ ∃ a, e.A = some a ∧ k = a.block := by
  rcases h with rfl | rfl | ⟨x, hx, a, ha, rfl⟩
  · exact .inl (.inl rfl)
  · exact .inl (.inr (.inl rfl))
  · rcases mem_putE.1 hx with rfl | ⟨hx, _⟩
    · exact .inr ⟨a, ha, rfl⟩
    · exact .inl (.inr (.inr ⟨x, hx, a, ha, rfl⟩))
theorem blk_del {g mb : Nat} {E : List Fe} {n : Bs} {k : Nat} (h : blk g mb (delE n E) k) : blk g mb E k := by
  rcases h with rfl | rfl | ⟨x, hx, a, ha, rfl⟩
  · exact .inl rfl
  · exact .inr (.inl rfl)
  · exact .inr (.inr ⟨x, (mem_delE.1 hx).1, a, ha, rfl⟩)
theorem DiskE.len {w : World} {g mb : Nat} {D : Dk} {E : List Fe} (h : DiskE w g mb D E) : E.length = D.F.length := by rw [← h.fs, List.length_map]
end Go.Proofs.Ytkfjgmfokpgcbaa.disk
