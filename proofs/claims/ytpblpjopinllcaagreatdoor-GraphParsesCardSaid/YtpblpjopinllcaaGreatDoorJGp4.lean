/-
  The draft of a graph in the world: its cells, its four rows, its three maps; what turns while something is added.
  What a line adds to the draft of a graph (by gen_gp5.py).
-/
import Derived.Test.YtpblpjopinllcaaGreatDoorJGp1
import Derived.Test.YtpblpjopinllcaaGreatDoorJOg
import Derived.StillTailTactics
import Derived.BigQuiet
set_option linter.unusedSimpArgs false
set_option linter.unusedVariables false
namespace Go.Proofs.YtpblpjopinllcaaGreatDoor.graph
open Go.ChangeShapes Go.WideShapes Go.ChangeAt Go.RowKit
open Go.Proofs.YtpblpjopinllcaaGreatDoor.opened Go.Proofs.YtpblpjopinllcaaGreatDoor.block Go.Proofs.YtpblpjopinllcaaGreatDoor.words Go.Proofs.YtpblpjopinllcaaGreatDoor.region

end Go.Proofs.YtpblpjopinllcaaGreatDoor.graph
namespace Go.Proofs.YtpblpjopinllcaaGreatDoor.region
open Go.ChangeShapes Go.WideShapes Go.ChangeAt Go.RowKit
open Go.Proofs.YtpblpjopinllcaaGreatDoor.opened Go.Proofs.YtpblpjopinllcaaGreatDoor.block
/-- Of what was there nothing has turned but blocks of S. -/
structure TurnS (w w' : World) (S : Nat → Prop) : Prop where
  os : w'.os = w.os
  tape : w'.tape = w.tape
  output : w'.output = w.output
  size : w.heap.size ≤ w'.heap.size
  block : ∀ k, k < w.heap.size → ¬ S k → w'.heap[k]? = w.heap[k]?
theorem TurnS.refl (w : World) (S : Nat → Prop) : TurnS w w S := ⟨rfl, rfl, rfl, Nat.le_refl _, fun _ _ _ => rfl⟩
theorem TurnS.below {w w' : World} {S : Nat → Prop} (h : TurnS w w' S) {B : Nat} (hB : B ≤ w.heap.size) (hs : ∀ k, S k → B ≤ k) : Below B w w' :=
  ⟨h.os, h.tape, h.output, h.size, fun i hi => h.block i (by omega) fun hS => by have := hs i hS; omega⟩
theorem TurnS.later {a b c : World} {S : Nat → Prop} (h : TurnS a b S) (k : Below b.heap.size b c) : TurnS a c S :=
  ⟨k.os.trans h.os, k.tape.trans h.tape, k.output.trans h.output, Nat.le_trans h.size k.size, fun j hj hn => (k.block j (Nat.lt_of_lt_of_le hj h.size)).trans (h.block j hj hn)⟩
theorem TurnS.grown {a b c : World} {S : Nat → Prop} {row : Option Nat} (h : TurnS a b S) (k : b.grownBy c row) (hs : ∀ j, row = some j → S j ∨ a.heap.size ≤ j) : TurnS a c S :=
  ⟨k.os.trans h.os, k.tape.trans h.tape, k.output.trans h.output, Nat.le_trans h.size k.size, fun j hj hn => (k.block j (Nat.lt_of_lt_of_le hj h.size) fun e => by
    rcases hs j e.symm with h1 | h1
    · exact hn h1
    · omega).trans (h.block j hj hn)⟩
theorem turnS_grown {w w' : World} {row : Option Nat} (h : w.grownBy w' row) {S : Nat → Prop} (hs : ∀ k, row = some k → S k) : TurnS w w' S :=
  (TurnS.refl w S).grown h fun j e => .inl (hs j e)
section
variable {α : Type} {m : Nat} {f : α → List Value} {T : TypeId}
/-- The block of a row that is one's own is cells of the row's type. -/
theorem OwnG.shape {w : World} {base : Nat} {v : Value} {N : List α} (h : OwnG T m f w base v N) {k : Nat} (e : v.ownBlock = some k) : ∃ cur, w.heap[k]? = some (.cells cur T (0, 0)) := by
  rcases h.2 with ⟨rfl, _⟩ | ⟨g, cap, cur, rfl, hb, hh, _⟩
  · simp [Value.ownBlock] at e
  · obtain rfl : g = k := by simpa [Value.ownBlock] using e
    exact ⟨cur, hh⟩
theorem OwnG.turn {w w' : World} {base : Nat} {v : Value} {N : List α} {S : Nat → Prop} (h : OwnG T m f w base v N) (ht : TurnS w w' S) (hn : ∀ k, v.ownBlock = some k → ¬ S k) : OwnG T m f w' base v N := by
  refine ⟨h.1, ?_⟩
  rcases h.2 with hx | ⟨g', cap, cur, hv, hg0, hh, rest⟩
  · exact .inl hx
  · exact .inr ⟨g', cap, cur, hv, hg0, (ht.block g' (Array.getElem?_eq_some_iff.1 hh).1 (hn g' (by rw [hv]; rfl))).trans hh, rest⟩
end
end Go.Proofs.YtpblpjopinllcaaGreatDoor.region
namespace Go.Proofs.YtpblpjopinllcaaGreatDoor.graph
open Go.ChangeShapes Go.WideShapes Go.ChangeAt Go.RowKit
open Go.Proofs.YtpblpjopinllcaaGreatDoor.opened Go.Proofs.YtpblpjopinllcaaGreatDoor.block Go.Proofs.YtpblpjopinllcaaGreatDoor.words Go.Proofs.YtpblpjopinllcaaGreatDoor.region
theorem OwnS.turnS {w w' : World} {base : Nat} {v : Value} {N : List Bs} {S : Nat → Prop} (h : OwnS w base v N) (ht : TurnS w w' S) (hn : ∀ k, v.ownBlock = some k → ¬ S k) : OwnS w' base v N := by
  refine ⟨h.1, ?_⟩
  rcases h.2 with hx | ⟨g', cap, cur, hv, hg0, hh, rest⟩
  · exact .inl hx
  · exact .inr ⟨g', cap, cur, hv, hg0, (ht.block g' (Array.getElem?_eq_some_iff.1 hh).1 (hn g' (by rw [hv]; rfl))).trans hh, rest⟩
theorem OwnS.shapeS {w : World} {base : Nat} {v : Value} {N : List Bs} (h : OwnS w base v N) {k : Nat} (e : v.ownBlock = some k) : ∃ cur, w.heap[k]? = some (.cells cur 9 (0, 0)) := by
  rcases h.2 with ⟨rfl, _⟩ | ⟨g, cap, cur, rfl, hb, hh, _⟩
  · simp [Value.ownBlock] at e
  · obtain rfl : g = k := by simpa [Value.ownBlock] using e
    exact ⟨cur, hh⟩
/-- The draft of a graph. -/
structure DrE (w : World) (B gd : Nat) (v : Gv) (mc ml mo : Nat) (g : Gr) (Nc Nl No : List Bs) : Prop where
  cells : Whole w gd 130 #[.slice v.a g.c.length v.i, .slice v.b g.l.length v.j, .slice v.d g.o.length v.k, .slice v.e g.h.length v.m, .map (some mc), .map (some ml), .map (some mo)]
  oc : OwnG 143 2 cCl w B (.slice v.a g.c.length v.i) g.c
  ol : OwnG 144 3 cLo w B (.slice v.b g.l.length v.j) g.l
  oo : OwnG 145 6 cOq w B (.slice v.d g.o.length v.k) g.o
  oh : OwnG 61 2 cCh w B (.slice v.e g.h.length v.m) g.h
  mC : OwnI w mc Nc
  mL : OwnI w ml Nl
  mO : OwnI w mo No
  bd : B ≤ gd
  bc : B ≤ mc
  bl : B ≤ ml
  bo : B ≤ mo
  n1 : mc ≠ ml
  n2 : mc ≠ mo
  n3 : ml ≠ mo
theorem cells_ne {w : World} {a b : Nat} {x : Array Value} {t : TypeId} {p : Nat × Nat} {xs : Array (Value × Value × Nat)} {o : Obj} (h1 : w.heap[a]? = some (.cells x t p)) (h2 : w.heap[b]? = some o) (hne : (.cells x t p : Obj) ≠ o) : a ≠ b := by
  rintro rfl
  exact hne (Option.some.inj (h1.symm.trans h2))
theorem obj_ne {w : World} {a b : Nat} {o1 o2 : Obj} (h1 : w.heap[a]? = some o1) (h2 : w.heap[b]? = some o2) (hne : o1 ≠ o2) : a ≠ b := by
  rintro rfl
  exact hne (Option.some.inj (h1.symm.trans h2))
theorem ty_ne {x y : Array Value} {t u : TypeId} {p q : Nat × Nat} (h : t ≠ u) : (.cells x t p : Obj) ≠ .cells y u q := by
  intro e
  injection e with _ e _
  exact h e
section
variable {w w' : World} {B gd mc ml mo : Nat} {v : Gv} {g : Gr} {Nc Nl No : List Bs}
/-- The draft stays where nothing of it turns. -/
theorem DrE.turn (h : DrE w B gd v mc ml mo g Nc Nl No) {S : Nat → Prop} (ht : TurnS w w' S) (h0 : ¬ S gd) (h1 : ¬ S mc) (h2 : ¬ S ml) (h3 : ¬ S mo)
    (a1 : ∀ k, (Value.slice v.a g.c.length v.i).ownBlock = some k → ¬ S k) (a2 : ∀ k, (Value.slice v.b g.l.length v.j).ownBlock = some k → ¬ S k) (a3 : ∀ k, (Value.slice v.d g.o.length v.k).ownBlock = some k → ¬ S k) (a4 : ∀ k, (Value.slice v.e g.h.length v.m).ownBlock = some k → ¬ S k) : DrE w' B gd v mc ml mo g Nc Nl No :=
  ⟨(ht.block gd h.cells.inside h0).trans h.cells, h.oc.turn ht a1, h.ol.turn ht a2, h.oo.turn ht a3, h.oh.turn ht a4, h.mC.same (ht.block _ h.mC.lt h1), h.mL.same (ht.block _ h.mL.lt h2), h.mO.same (ht.block _ h.mO.lt h3), h.bd, h.bc, h.bl, h.bo, h.n1, h.n2, h.n3⟩
theorem DrE.below (h : DrE w B gd v mc ml mo g Nc Nl No) (hb : Below w.heap.size w w') : DrE w' B gd v mc ml mo g Nc Nl No :=
  h.turn (S := fun _ => False) ⟨hb.os, hb.tape, hb.output, hb.size, fun k hk _ => hb.block k hk⟩ (fun x => x) (fun x => x) (fun x => x) (fun x => x) (fun _ _ x => x) (fun _ _ x => x) (fun _ _ x => x) (fun _ _ x => x)
theorem DrE.size (h : DrE w B gd v mc ml mo g Nc Nl No) : B ≤ w.heap.size := Nat.le_of_lt (Nat.lt_of_le_of_lt h.bd h.cells.inside)
/-- A map is no block of cells. -/
theorem map_ne {b k : Nat} {N : List Bs} {o : Array Value} {t : TypeId} {p : Nat × Nat} (h : OwnI w b N) (hk : w.heap[k]? = some (.cells o t p)) : k ≠ b := by
  obtain ⟨xs, c, hm⟩ := h.shape
  exact obj_ne hk hm (by intro e; cases e)
theorem whole_shape {k : Nat} {t : TypeId} {cs : Array Value} (h : Whole w k t cs) : ∃ p, w.heap[k]? = some (.cells cs t p) := ⟨_, h⟩
/-- One of the maps has turned. -/
theorem DrE.map_turn (h : DrE w B gd v mc ml mo g Nc Nl No) {b : Nat} (hb : (∃ N, OwnI w b N)) (hg : w.grownBy w' (some b)) : Whole w' gd 130 #[.slice v.a g.c.length v.i, .slice v.b g.l.length v.j, .slice v.d g.o.length v.k, .slice v.e g.h.length v.m, .map (some mc), .map (some ml), .map (some mo)] ∧
    OwnG 143 2 cCl w' B (.slice v.a g.c.length v.i) g.c ∧ OwnG 144 3 cLo w' B (.slice v.b g.l.length v.j) g.l ∧ OwnG 145 6 cOq w' B (.slice v.d g.o.length v.k) g.o ∧ OwnG 61 2 cCh w' B (.slice v.e g.h.length v.m) g.h := by
  obtain ⟨N, hN⟩ := hb
  have ht : TurnS w w' (fun k => k = b) := turnS_grown hg fun k e => by cases e; rfl
  obtain ⟨p, hp⟩ := whole_shape h.cells
  have d : ¬ gd = b := map_ne hN hp
  refine ⟨(ht.block gd h.cells.inside d).trans h.cells, h.oc.turn ht fun k e hk => ?_, h.ol.turn ht fun k e hk => ?_, h.oo.turn ht fun k e hk => ?_, h.oh.turn ht fun k e hk => ?_⟩
  · obtain ⟨cur, hc⟩ := h.oc.shape e
    exact map_ne hN hc hk
  · obtain ⟨cur, hc⟩ := h.ol.shape e
    exact map_ne hN hc hk
  · obtain ⟨cur, hc⟩ := h.oo.shape e
    exact map_ne hN hc hk
  · obtain ⟨cur, hc⟩ := h.oh.shape e
    exact map_ne hN hc hk
theorem DrE.put_c (h : DrE w B gd v mc ml mo g Nc Nl No) {N : List Bs} (hg : w.grownBy w' (some mc)) (ho : OwnI w' mc N) : DrE w' B gd v mc ml mo g N Nl No := by
  obtain ⟨h0, h1, h2, h3, h4⟩ := h.map_turn ⟨_, h.mC⟩ hg
  exact ⟨h0, h1, h2, h3, h4, ho, h.mL.kept hg (by simpa using h.n1.symm), h.mO.kept hg (by simpa using h.n2.symm), h.bd, h.bc, h.bl, h.bo, h.n1, h.n2, h.n3⟩
theorem DrE.put_l (h : DrE w B gd v mc ml mo g Nc Nl No) {N : List Bs} (hg : w.grownBy w' (some ml)) (ho : OwnI w' ml N) : DrE w' B gd v mc ml mo g Nc N No := by
  obtain ⟨h0, h1, h2, h3, h4⟩ := h.map_turn ⟨_, h.mL⟩ hg
  exact ⟨h0, h1, h2, h3, h4, h.mC.kept hg (by simpa using h.n1), ho, h.mO.kept hg (by simpa using h.n3.symm), h.bd, h.bc, h.bl, h.bo, h.n1, h.n2, h.n3⟩
theorem DrE.put_o (h : DrE w B gd v mc ml mo g Nc Nl No) {N : List Bs} (hg : w.grownBy w' (some mo)) (ho : OwnI w' mo N) : DrE w' B gd v mc ml mo g Nc Nl N := by
  obtain ⟨h0, h1, h2, h3, h4⟩ := h.map_turn ⟨_, h.mO⟩ hg
  exact ⟨h0, h1, h2, h3, h4, h.mC.kept hg (by simpa using h.n2), h.mL.kept hg (by simpa using h.n3), ho, h.bd, h.bc, h.bl, h.bo, h.n1, h.n2, h.n3⟩
/-- What an append to one of the rows may turn. -/
def RowS (gd : Nat) (row : Value) (k : Nat) : Prop := k = gd ∨ row.ownBlock = some k
theorem DrE.rowS_maps (h : DrE w B gd v mc ml mo g Nc Nl No) {α : Type} {T : TypeId} {m : Nat} {f : α → List Value} {row : Value} {N : List α} (hr : OwnG T m f w B row N) : ¬ RowS gd row mc ∧ ¬ RowS gd row ml ∧ ¬ RowS gd row mo := by
  obtain ⟨p, hp⟩ := whole_shape h.cells
  refine ⟨?_, ?_, ?_⟩
  · rintro (e | e)
    · exact map_ne h.mC hp e.symm
    · obtain ⟨cur, hc⟩ := hr.shape e
      exact map_ne h.mC hc rfl
  · rintro (e | e)
    · exact map_ne h.mL hp e.symm
    · obtain ⟨cur, hc⟩ := hr.shape e
      exact map_ne h.mL hc rfl
  · rintro (e | e)
    · exact map_ne h.mO hp e.symm
    · obtain ⟨cur, hc⟩ := hr.shape e
      exact map_ne h.mO hc rfl
/-- A row of another type is not what an append turns. -/
theorem row_apart {α β : Type} {T U D : TypeId} {m n : Nat} {f : α → List Value} {q : β → List Value} {row r2 : Value} {N : List α} {M : List β} {cs : Array Value} (hr : OwnG T m f w B row N) (h2 : OwnG U n q w B r2 M) (hd : Whole w gd D cs) (h1 : U ≠ T) (h3 : U ≠ D) : ∀ k, r2.ownBlock = some k → ¬ RowS gd row k := by
  intro k e
  obtain ⟨p, hp⟩ := whole_shape hd
  obtain ⟨cur, hc⟩ := h2.shape e
  rintro (e2 | e2)
  · exact obj_ne hc hp (ty_ne h3) e2
  · obtain ⟨c2, hc2⟩ := hr.shape e2
    exact obj_ne hc hc2 (ty_ne h1) rfl
theorem words_apart {α : Type} {T D : TypeId} {m : Nat} {f : α → List Value} {row r2 : Value} {N : List α} {M : List Bs} {cs : Array Value} {b2 : Nat} (hr : OwnG T m f w B row N) (h2 : OwnS w b2 r2 M) (hd : Whole w gd D cs) (h1 : 9 ≠ T) (h3 : 9 ≠ D) : ∀ k, r2.ownBlock = some k → ¬ RowS gd row k := by
  intro k e
  obtain ⟨p, hp⟩ := whole_shape hd
  obtain ⟨cur, hc⟩ := OwnS.shapeS h2 e
  rintro (e2 | e2)
  · exact obj_ne hc hp (ty_ne h3) e2
  · obtain ⟨c2, hc2⟩ := hr.shape e2
    exact obj_ne hc hc2 (ty_ne h1) rfl
theorem rowS_above {α : Type} {T : TypeId} {m : Nat} {f : α → List Value} {row : Value} {N : List α} (hr : OwnG T m f w B row N) (hd : B ≤ gd) : ∀ k, RowS gd row k → B ≤ k := by
  rintro k (e | e)
  · omega
  · exact hr.above e
theorem rowS_ne {α : Type} {T D : TypeId} {m : Nat} {f : α → List Value} {row : Value} {N : List α} {cs : Array Value} (hr : OwnG T m f w B row N) (hd : Whole w gd D cs) (h : T ≠ D) : some gd ≠ row.ownBlock := by
  intro e
  obtain ⟨p, hp⟩ := whole_shape hd
  obtain ⟨cur, hc⟩ := hr.shape e.symm
  exact obj_ne hc hp (ty_ne h) rfl
end
end Go.Proofs.YtpblpjopinllcaaGreatDoor.graph
set_option linter.unusedSimpArgs false
set_option linter.unusedVariables false
namespace Go.Proofs.YtpblpjopinllcaaGreatDoor.graph
open Go.ChangeShapes Go.WideShapes Go.ChangeAt Go.RowKit
open Go.Proofs.YtpblpjopinllcaaGreatDoor.opened Go.Proofs.YtpblpjopinllcaaGreatDoor.block Go.Proofs.YtpblpjopinllcaaGreatDoor.words Go.Proofs.YtpblpjopinllcaaGreatDoor.region
abbrev DrP (w : World) (B gd mc ml mo : Nat) (v : Gv) (g : Gr) : Prop := DrE w B gd v mc ml mo g (g.c.map (·.n)) (g.l.map (·.n)) (g.o.map (·.n))
/-- What comes of a line: an error, and a draft. -/
def Added (B gd mc ml mo : Nat) (g : Gr) (r : Int × Gr) (e : Ending) (w' : World) : Prop := e = .returned (.int .i64 r.1) ∧ ∃ v', DrP w' B gd mc ml mo v' r.2
theorem added_bad {B gd mc ml mo : Nat} {v : Gv} {g : Gr} {w' : World} {x : Int} (h : DrP w' B gd mc ml mo v g) : Added B gd mc ml mo g (x, g) (.returned (.int .i64 x)) w' := ⟨rfl, v, h⟩
/-- Rows of words are kept. -/
def KeepS (w w' : World) : Prop := ∀ (b2 : Nat) (r2 : Value) (M : List Bs), OwnS w b2 r2 M → OwnS w' b2 r2 M
structure Kept (B : Nat) (w w' : World) : Prop where
  b : Below B w w'
  k : KeepS w w'
theorem kept_refl (B : Nat) (w : World) : Kept B w w := ⟨Below.refl _ _, fun _ _ _ h => h⟩
theorem kept_of {w w' : World} {B : Nat} (h : Below w.heap.size w w') (hB : B ≤ w.heap.size) : Kept B w w' := ⟨h.mono hB, fun _ _ _ k => k.below h⟩
theorem Kept.map {w W w' : World} {B b : Nat} {N : List Bs} (h : Kept B w W) (hm : OwnI W b N) (hg : W.drew.grownBy w' (some b)) (hB : B ≤ W.heap.size) (hb : B ≤ b) : Kept B w w' := by
  have h1 : Below B W w' := ⟨hg.os, hg.tape, hg.output, hg.size, fun i hi => hg.block i (by show i < W.heap.size; omega) (by intro e; cases e; omega)⟩
  refine ⟨h.b.trans h1, fun b2 r2 M k => ?_⟩
  have k2 : OwnS W.drew b2 r2 M := (h.k b2 r2 M k).below (Below.refl _ W).drew
  refine OwnS.turnS (S := fun j => j = b) k2 (turnS_grown hg fun j e => by cases e; rfl) fun j e hj => ?_
  obtain ⟨cur, hc⟩ := OwnS.shapeS k2 e
  have hc2 : W.heap[j]? = some (.cells cur 9 (0, 0)) := hc
  exact map_ne hm hc2 hj
theorem Kept.row {w W w' : World} {B gd b2 : Nat} {α : Type} {T D : TypeId} {m : Nat} {f : α → List Value} {row : Value} {N : List α} {cs : Array Value} (h : Kept B w W) (hr : OwnG T m f W b2 row N) (hd : Whole W gd D cs) (ht : TurnS W w' (RowS gd row)) (hB : B ≤ W.heap.size) (hab : ∀ k, RowS gd row k → B ≤ k) (h1 : 9 ≠ T) (h3 : 9 ≠ D) : Kept B w w' :=
  ⟨h.b.trans (ht.below hB hab), fun b3 r2 M k => OwnS.turnS (h.k b3 r2 M k) ht (words_apart hr (h.k b3 r2 M k) hd h1 h3)⟩
theorem own_words {w : World} {B : Nat} {A : Option Addr} {c : Nat} {ws : List Bs} (h : OwnS w B (.slice A ws.length c) ws) (h0 : 0 < ws.length) : ∃ b1, A = some ⟨b1, 0, none⟩ ∧ b1 < w.heap.size ∧ ∀ (w7 : World), w7.heap[b1]? = w.heap[b1]? → ∀ k x, ws[k]? = some x → w7.cell? ⟨b1, k, none⟩ = some (sV x) := by
  rcases h.2 with ⟨-, hn⟩ | ⟨b1, cap, cur, hv, hb, hg, hc, hcm, hs, ht⟩
  · omega
  · injection hv with h1 h2 h3
    subst h1
    refine ⟨b1, rfl, (Array.getElem?_eq_some_iff.1 hg).1, fun w7 h7 k x hx => ?_⟩
    have hk := (List.getElem?_eq_some_iff.1 hx).1
    have h5 : (cur.toList.take (ws.length * 1))[k]? = some (sV x) := by rw [ht, List.getElem?_map, hx]; rfl
    rw [List.getElem?_take, if_pos (by omega), Array.getElem?_toList] at h5
    simp only [World.cell?, h7, hg]
    exact h5
theorem clF_not {g : Gr} {ws : List Bs} (h : ws.length ≠ 3) : clF g ws = (6, g) := by
  unfold clF
  split
  · exact absurd rfl h
  · rfl
theorem len3 {ws : List Bs} (h : ws.length = 3) : ∃ a b c, ws = [a, b, c] := by
  match ws, h with
  | [a, b, c], _ => exact ⟨a, b, c, rfl⟩
theorem len4 {ws : List Bs} (h : ws.length = 4) : ∃ a b c d, ws = [a, b, c, d] := by
  match ws, h with
  | [a, b, c, d], _ => exact ⟨a, b, c, d, rfl⟩
set_option maxRecDepth 100000 in
theorem loopOf_any {B gd mc ml mo : Nat} {v : Gv} {g : Gr} (x : Bs) (hx : x.length ≤ 100000) (w : World) (hD : DrP w B gd mc ml mo v g) :
    Calls Tryz.prog 220 #[.pointer (some ⟨gd, 0, none⟩), .string ⟨x.toArray⟩] w fun e w' => e = .returned (.tuple #[.int .i64 (lpV lastIx (g.l.map (·.n)) x), .int .i64 (lpE lastIx (g.l.map (·.n)) x)]) ∧ w = w' := by
  unfold lpE lpV
  by_cases he : x = kwInNo
  · subst he
    rw [if_pos rfl, if_pos rfl]
    go_enter Tryz.func220, Tryz.ntmps220
    go_wp2_with fail
    go_ret2
    exact ⟨rfl, rfl⟩
  · rw [if_neg he, if_neg he]
    have hne : (x == [105, 110, 61, 45]) = false := by rw [beq_eq_false_iff_ne]; exact he
    have PL := Lib.hid (placeP_any x kwIn hx (g.l.map (·.n)) ml w hD.mL)
    have km : w.cell? ⟨gd, 5, none⟩ = some (.map (some ml)) := hD.cells.read 5
    have hgd := hD.cells.inside
    clear hD he
    generalize plV lastIx kwIn (g.l.map (·.n)) x = y at PL ⊢
    generalize plE lastIx kwIn (g.l.map (·.n)) x = z at PL ⊢
    go_enter Tryz.func220, Tryz.ntmps220
    go_wp2_with (go_at_call 222; refine PL.out.mono ?_; rintro e w2 ⟨rfl, rfl⟩)
    go_ret2
    exact ⟨rfl, rfl⟩
theorem since_eq {P : Program} {f : FuncId} {args : Array Value} {v : Value} {w0 : World} (x : Since w0) (h : Calls P f args x.1 fun e w' => e = .returned v ∧ x.1 = w') :
    Calls P f args x.1 fun e w' => e = .returned v ∧ ∃ y : Since w0, w' = y.1 := h.mono fun _ _ ⟨he, hb⟩ => ⟨he, x, hb.symm⟩
theorem loF_not {g : Gr} {ws : List Bs} (h : ws.length ≠ 4) : loF lastIx g ws = (6, g) := by
  unfold loF
  split
  · exact absurd rfl h
  · rfl
theorem chF_not {g : Gr} {ws : List Bs} (h : ws.length ≠ 4) : chF lastIx g ws = (6, g) := by
  unfold chF
  split
  · exact absurd rfl h
  · rfl
theorem opF_not {g : Gr} {ws : List Bs} (h : ws.length < 5) : opF lastIx g ws = (6, g) := by
  unfold opF
  split
  · exfalso
    simp at h
    omega
  · rfl
theorem len5 {ws : List Bs} (h : ¬ ws.length < 5) : ∃ a b c d e r, ws = a :: b :: c :: d :: e :: r := by
  match ws, h with
  | a :: b :: c :: d :: e :: r, _ => exact ⟨a, b, c, d, e, r, rfl⟩
  | [], h => simp at h
  | [_], h => simp at h
  | [_, _], h => simp at h
  | [_, _, _], h => simp at h
  | [_, _, _, _], h => simp at h
end Go.Proofs.YtpblpjopinllcaaGreatDoor.graph
