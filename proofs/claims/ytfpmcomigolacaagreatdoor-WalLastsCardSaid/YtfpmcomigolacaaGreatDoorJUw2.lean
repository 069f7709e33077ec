/-
  A log in the world: its block, its two rows; what turns while something is done to it.
  The contracts of a log's small functions: Files, Base, Next, nextFile, Synced, file, note, Get, closed, isPast.
-/
import Derived.Test.YtfpmcomigolacaaGreatDoorJKco
import Derived.Test.YtfpmcomigolacaaGreatDoorJUk0
import Derived.Test.YtfpmcomigolacaaGreatDoorJUf0
import Derived.Test.YtfpmcomigolacaaGreatDoorJUw4
import Derived.Test.YtfpmcomigolacaaGreatDoorJUt
import Derived.Test.YtfpmcomigolacaaGreatDoorJLayL
import Derived.Test.YtfpmcomigolacaaGreatDoorJRdA2
import Derived.Deep.QuietTactic
import Derived.BigQuiet
set_option linter.unusedSimpArgs false
set_option linter.unusedVariables false
namespace Go.Proofs.YtfpmcomigolacaaGreatDoor.wal
open Go.ChangeShapes Go.WideShapes Go.ChangeAt Go.RowKit Go.Maps Go.WideMaps
open Go.Proofs.YtfpmcomigolacaaGreatDoor.opened Go.Proofs.YtfpmcomigolacaaGreatDoor.block Go.Proofs.YtfpmcomigolacaaGreatDoor.words Go.Proofs.YtfpmcomigolacaaGreatDoor.disk

/-! ### Rows that are one's own -/
theorem own_same {w w' : World} {base : Nat} {e : TypeId} {size : Nat} {v : Value} {n : Nat} {xs : List Value} (h : w.ownsRow base e size v n xs) (hb : ∀ k, v.ownBlock = some k → w'.heap[k]? = w.heap[k]?) : w'.ownsRow base e size v n xs := by
  refine ⟨h.1, ?_⟩
  rcases h.2 with hn | ⟨g, cap, cur, hv, hg, hh, rest⟩
  · exact .inl hn
  · exact .inr ⟨g, cap, cur, hv, hg, (hb g (by rw [hv]; rfl)).trans hh, rest⟩
theorem own_low {w : World} {base base' : Nat} {e : TypeId} {size : Nat} {v : Value} {n : Nat} {xs : List Value} (h : w.ownsRow base e size v n xs) (hb : ∀ k, v.ownBlock = some k → base' ≤ k) : w.ownsRow base' e size v n xs := by
  refine ⟨h.1, ?_⟩
  rcases h.2 with hn | ⟨g, cap, cur, hv, hg, hh, rest⟩
  · exact .inl hn
  · exact .inr ⟨g, cap, cur, hv, hb g (by rw [hv]; rfl), hh, rest⟩
theorem own_type {w : World} {base : Nat} {e : TypeId} {size : Nat} {v : Value} {n : Nat} {xs : List Value} (h : w.ownsRow base e size v n xs) {k : Nat} (hk : v.ownBlock = some k) : ∃ cs, Whole w k e cs := by
  rcases h.2 with ⟨hv, -⟩ | ⟨g, cap, cur, hv, hg, hh, rest⟩
  · rw [hv] at hk
    simp [Value.ownBlock] at hk
  · rw [hv] at hk
    obtain rfl : g = k := by simpa [Value.ownBlock] using hk
    exact ⟨cur, hh⟩
theorem own_shape {w : World} {base : Nat} {e : TypeId} {size : Nat} {v : Value} {n : Nat} {xs : List Value} (h : w.ownsRow base e size v n xs) : ∃ A c, v = .slice A n c := by
  rcases h.2 with ⟨hv, hn⟩ | ⟨g, cap, cur, hv, -⟩
  · exact ⟨none, 0, by rw [hv, hn]⟩
  · exact ⟨_, _, hv⟩
theorem own_at {w : World} {base : Nat} {e : TypeId} {n c : Nat} {A : Option Addr} {xs : List Value} (h : w.ownsRow base e 1 (.slice A n c) n xs) {k : Nat} {x : Value} (hk : xs[k]? = some x) : ∃ g, A = some ⟨g, 0, none⟩ ∧ g < w.heap.size ∧ w.cell? ⟨g, k, none⟩ = some x := by
  obtain ⟨hL, -⟩ := lies_own h
  obtain ⟨b, off, hA, hb, hc⟩ := lies_at hL hk
  rcases h.2 with ⟨hv, -⟩ | ⟨g, cap, cur, hv, hg, hh, rest⟩
  · injection hv with h1
    rw [h1] at hA
    cases hA
  · injection hv with h1
    rw [h1] at hA
    cases hA
    rw [Nat.zero_add] at hc
    exact ⟨_, h1, hb, hc⟩
theorem own_none {w : World} {base : Nat} {e : TypeId} {n c : Nat} {A : Option Addr} {xs : List Value} (h : w.ownsRow base e 1 (.slice A n c) n xs) : n = xs.length := by
  have := h.1
  omega

/-! ### What turns -/
/-- An object that a disk lies in. -/
def DObj (o : Obj) : Prop := (∃ cs f, o = .cells cs 64 f) ∨ (∃ cs f, o = .cells cs 5 f) ∨ ∃ es n, o = .map es n
/-- Of what was there nothing has turned but blocks of Q, and what disks lie in. -/
structure WT (w w' : World) (Q : Nat → Prop) : Prop where
  os : w'.os = w.os
  tape : w'.tape = w.tape
  output : w'.output = w.output
  size : w.heap.size ≤ w'.heap.size
  block : ∀ k o, w.heap[k]? = some o → ¬ Q k → ¬ DObj o → w'.heap[k]? = some o
theorem WT.refl (w : World) (Q : Nat → Prop) : WT w w Q := ⟨rfl, rfl, rfl, Nat.le_refl _, fun _ _ h _ _ => h⟩
theorem WT.wide {w w' : World} {Q R : Nat → Prop} (h : WT w w' Q) (hq : ∀ k, Q k → R k) : WT w w' R := ⟨h.os, h.tape, h.output, h.size, fun k o ho hn hd => h.block k o ho (fun x => hn (hq k x)) hd⟩
theorem WT.trans {a b c : World} {Q R : Nat → Prop} (h : WT a b Q) (k : WT b c R) (hr : ∀ j, R j → Q j ∨ a.heap.size ≤ j) : WT a c Q :=
  ⟨k.os.trans h.os, k.tape.trans h.tape, k.output.trans h.output, Nat.le_trans h.size k.size, fun j o ho hn hd => k.block j o (h.block j o ho hn hd) (fun hR => by
    have hj := (Array.getElem?_eq_some_iff.1 ho).1
    rcases hr j hR with h1 | h1
    · exact hn h1
    · omega) hd⟩
theorem wt_below {w w' : World} (h : Below w.heap.size w w') (Q : Nat → Prop) : WT w w' Q := ⟨h.os, h.tape, h.output, h.size, fun k o ho _ _ => (h.block k (Array.getElem?_eq_some_iff.1 ho).1).trans ho⟩
theorem wt_grown {w w' : World} {row : Option Nat} (h : w.grownBy w' row) {Q : Nat → Prop} (hq : ∀ k, row = some k → Q k) : WT w w' Q :=
  ⟨h.os, h.tape, h.output, h.size, fun k o ho hn _ => (h.block k (Array.getElem?_eq_some_iff.1 ho).1 (fun e => hn (hq k e.symm))).trans ho⟩
theorem disk_obj {w : World} {g mb : Nat} {D : Dk} {E : List Fe} (h : DiskE w g mb D E) {k : Nat} (hk : blk g mb E k) : ∃ o, w.heap[k]? = some o ∧ DObj o := by
  rcases hk with rfl | rfl | ⟨e, he, a, ha, rfl⟩
  · exact ⟨_, h.cells, .inl ⟨_, _, rfl⟩⟩
  · obtain ⟨es, -, xs, clock, hm, -⟩ := h.own
    exact ⟨_, hm, .inr (.inr ⟨_, _, rfl⟩)⟩
  · have hr := (h.rows e he).1
    rcases hr.2 with ⟨hv, -⟩ | ⟨b, cap, cur, hv, -, hg, -⟩
    · unfold Fe.row at hv
      injection hv with h1
      rw [h1] at ha
      cases ha
    · unfold Fe.row at hv
      injection hv with h1
      rw [h1] at ha
      cases ha
      exact ⟨_, hg, .inr (.inl ⟨_, _, rfl⟩)⟩
theorem wt_turn {w w' : World} {g mb : Nat} {D : Dk} {E : List Fe} (h : DiskE w g mb D E) (ht : Turn w w' (blk g mb E)) (Q : Nat → Prop) : WT w w' Q :=
  ⟨ht.os, ht.tape, ht.output, ht.size, fun k o ho _ hd => (ht.block k (Array.getElem?_eq_some_iff.1 ho).1 (fun hk => by
    obtain ⟨o', h1, h2⟩ := disk_obj h hk
    rw [ho] at h1
    cases h1
    exact hd h2)).trans ho⟩
theorem not_dobj {cs : Array Value} {t : TypeId} {f : Nat × Nat} (h1 : t ≠ 64) (h2 : t ≠ 5) : ¬ DObj (.cells cs t f) := by
  rintro (⟨_, _, h⟩ | ⟨_, _, h⟩ | ⟨_, _, h⟩)
  · injection h with _ h; exact h1 h
  · injection h with _ h; exact h2 h
  · cases h
theorem Whole.wt {w w' : World} {g : Nat} {t : TypeId} {cs : Array Value} {Q : Nat → Prop} (h : Whole w g t cs) (k : WT w w' Q) (hn : ¬ Q g) (h1 : t ≠ 64) (h2 : t ≠ 5) : Whole w' g t cs := k.block g _ h hn (not_dobj h1 h2)
/-- A call of the disk. -/
theorem stepW {B gd : Nat} {D D' : Dk} {w : World} {f : FuncId} {args : Array Value} {R : Ending → Prop} (hB : B ≤ w.heap.size) (h : DiskB w B gd D)
    (hc : ∀ S, DiskP w S gd D → Calls Tryz.prog f args w fun e w' => R e ∧ DiskP w' (More w S) gd D' ∧ Turn w w' S) :
    Calls Tryz.prog f args w fun e w' => R e ∧ DiskB w' B gd D' ∧ WT w w' (fun _ => False) ∧ Below B w w' := by
  obtain ⟨mb, E, h1, h2⟩ := h
  refine (hc (blk gd mb E) ⟨mb, E, h1, fun k hk => hk⟩).mono fun e w' ⟨e1, e2, ht⟩ => ?_
  obtain ⟨u1, u2⟩ := up hB e2 h2 ht
  exact ⟨e1, u1, wt_turn h1 ht _, u2⟩

/-! ### A log -/
structure LogE (w : World) (gl gd : Nat) (L : Lg) (A : Option Addr) (c : Nat) (R : Option Addr) (d : Nat) : Prop where
  cells : Whole w gl 67 #[.pointer (some ⟨gd, 0, none⟩), sV L.nm, .int .i64 L.per, .int .i64 L.least, .slice A L.heads.length c, .slice R L.recs.length d, .bool L.torn, .int .i64 L.syn, .bool L.fail]
  heads : w.ownsRow 0 3 1 (.slice A L.heads.length c) L.heads.length (L.heads.map (Value.int .i64))
  recs : OwnS w 0 (.slice R L.recs.length d) L.recs
def lblk (gl : Nat) (A R : Option Addr) (k : Nat) : Prop := k = gl ∨ (∃ a, A = some a ∧ k = a.block) ∨ ∃ a, R = some a ∧ k = a.block
def LP (w : World) (Q : Nat → Prop) (gl gd : Nat) (L : Lg) : Prop := ∃ A c R d, LogE w gl gd L A c R d ∧ ∀ k, lblk gl A R k → Q k
theorem own_blk {A : Option Addr} {n c : Nat} {k : Nat} (h : (Value.slice A n c).ownBlock = some k) : ∃ a, A = some a ∧ k = a.block := by
  cases A with
  | none => simp [Value.ownBlock] at h
  | some a => exact ⟨a, rfl, by simpa [Value.ownBlock] using h.symm⟩
theorem blk_own {A : Option Addr} {n c : Nat} {a : Addr} (h : A = some a) : (Value.slice A n c).ownBlock = some a.block := by subst h; rfl
theorem LogE.same {w w' : World} {gl gd : Nat} {L : Lg} {A : Option Addr} {c : Nat} {R : Option Addr} {d : Nat} (h : LogE w gl gd L A c R d) (hb : ∀ k, lblk gl A R k → w'.heap[k]? = w.heap[k]?) : LogE w' gl gd L A c R d :=
  ⟨(hb gl (.inl rfl)).trans h.cells, own_same h.heads fun k hk => hb k (.inr (.inl (own_blk hk))), own_same h.recs fun k hk => hb k (.inr (.inr (own_blk hk)))⟩
theorem LogE.obj {w : World} {gl gd : Nat} {L : Lg} {A : Option Addr} {c : Nat} {R : Option Addr} {d : Nat} (h : LogE w gl gd L A c R d) {k : Nat} (hk : lblk gl A R k) : ∃ t cs, Whole w k t cs ∧ (t = 67 ∨ t = 3 ∨ t = 9) := by
  rcases hk with rfl | ⟨a, ha, rfl⟩ | ⟨a, ha, rfl⟩
  · exact ⟨_, _, h.cells, .inl rfl⟩
  · obtain ⟨cs, hcs⟩ := own_type h.heads (blk_own ha)
    exact ⟨_, cs, hcs, .inr (.inl rfl)⟩
  · obtain ⟨cs, hcs⟩ := own_type h.recs (blk_own ha)
    exact ⟨_, cs, hcs, .inr (.inr rfl)⟩
theorem tyL {t : TypeId} (h : t = 67 ∨ t = 3 ∨ t = 9) : t ≠ 64 ∧ t ≠ 5 := by
  rcases h with rfl | rfl | rfl <;> decide
theorem LogE.inside {w : World} {gl gd : Nat} {L : Lg} {A : Option Addr} {c : Nat} {R : Option Addr} {d : Nat} (h : LogE w gl gd L A c R d) {k : Nat} (hk : lblk gl A R k) : k < w.heap.size := by
  obtain ⟨t, cs, h1, -⟩ := h.obj hk
  exact h1.inside
theorem LogE.wt {w w' : World} {gl gd : Nat} {L : Lg} {A : Option Addr} {c : Nat} {R : Option Addr} {d : Nat} {Q : Nat → Prop} (h : LogE w gl gd L A c R d) (k : WT w w' Q) (hq : ∀ j, lblk gl A R j → ¬ Q j) : LogE w' gl gd L A c R d :=
  h.same fun j hj => by
    obtain ⟨t, cs, h1, h2⟩ := h.obj hj
    exact (Whole.wt h1 k (hq j hj) (tyL h2).1 (tyL h2).2).trans h1.symm
theorem LogE.below {w w' : World} {gl gd : Nat} {L : Lg} {A : Option Addr} {c : Nat} {R : Option Addr} {d : Nat} (h : LogE w gl gd L A c R d) (hb : Below w.heap.size w w') : LogE w' gl gd L A c R d := h.same fun k hk => hb.block k (h.inside hk)
theorem LP.wt {w w' : World} {Q P : Nat → Prop} {gl gd : Nat} {L : Lg} (h : LP w Q gl gd L) (k : WT w w' P) (hq : ∀ j, Q j → ¬ P j) : LP w' Q gl gd L := by
  obtain ⟨A, c, R, d, h1, h2⟩ := h
  exact ⟨A, c, R, d, h1.wt k (fun j hj => hq j (h2 j hj)), h2⟩
theorem LP.below {w w' : World} {Q : Nat → Prop} {gl gd : Nat} {L : Lg} (h : LP w Q gl gd L) (hb : Below w.heap.size w w') : LP w' Q gl gd L := by
  obtain ⟨A, c, R, d, h1, h2⟩ := h
  exact ⟨A, c, R, d, h1.below hb, h2⟩
theorem LP.wide {w : World} {Q P : Nat → Prop} {gl gd : Nat} {L : Lg} (h : LP w Q gl gd L) (hq : ∀ j, Q j → P j) : LP w P gl gd L := by
  obtain ⟨A, c, R, d, h1, h2⟩ := h
  exact ⟨A, c, R, d, h1, fun j hj => hq j (h2 j hj)⟩
theorem LP.exact {w : World} {Q : Nat → Prop} {gl gd : Nat} {L : Lg} (h : LP w Q gl gd L) : LP w (fun k => Q k ∧ k < w.heap.size) gl gd L := by
  obtain ⟨A, c, R, d, h1, h2⟩ := h
  exact ⟨A, c, R, d, h1, fun j hj => ⟨h2 j hj, h1.inside hj⟩⟩
/-- A disk, while a block turns that is none of its own. -/
theorem DiskB.own {w w' : World} {B gd : Nat} {D : Dk} {row : Option Nat} (h : DiskB w B gd D) (hg : w.grownBy w' row) (hr : ∀ k, row = some k → k < w.heap.size → ∃ t cs, Whole w k t cs ∧ t ≠ 64 ∧ t ≠ 5) : DiskB w' B gd D := by
  obtain ⟨mb, E, h1, h2⟩ := h
  refine ⟨mb, E, h1.same fun k hk => hg.block k (h1.inside hk) fun e => ?_, h2⟩
  obtain ⟨t, cs, q1, q2, q3⟩ := hr k e.symm (h1.inside hk)
  obtain ⟨o, q4, q5⟩ := disk_obj h1 hk
  rw [q1] at q4
  cases q4
  exact not_dobj q2 q3 q5
theorem DiskB.lower {w : World} {B B' gd : Nat} {D : Dk} (h : DiskB w B gd D) (hb : B' ≤ B) : DiskB w B' gd D := DiskP.wide h fun k hk => Nat.le_trans hb hk
section
variable {B gd : Nat} {D : Dk} {w : World}
theorem appW (G : GoodD D) (hF : D.F.length ≤ 1000) (n s : Bs) (hn : n.length ≤ 100000) (hs : s.length ≤ 100000) (hB : B ≤ w.heap.size) (h : DiskB w B gd D) :
    Calls Tryz.prog 66 #[.pointer (some ⟨gd, 0, none⟩), sV n, sV s] w fun e w' => e = .returned (.int .i64 (appE D n s)) ∧ DiskB w' B gd (appV D n s) ∧ WT w w' (fun _ => False) ∧ Below B w w' :=
  stepW hB h fun S hS => append_any G hF n s hn hs w hS
theorem synW (G : GoodD D) (hF : D.F.length ≤ 1000) (n : Bs) (hn : n.length ≤ 100000) (hB : B ≤ w.heap.size) (h : DiskB w B gd D) :
    Calls Tryz.prog 69 #[.pointer (some ⟨gd, 0, none⟩), sV n] w fun e w' => e = .returned (.int .i64 (onE D n)) ∧ DiskB w' B gd (synV D n) ∧ WT w w' (fun _ => False) ∧ Below B w w' :=
  stepW hB h fun S hS => sync_any G hF n hn w hS
theorem remW (G : GoodD D) (n : Bs) (hn : n.length ≤ 100000) (hB : B ≤ w.heap.size) (h : DiskB w B gd D) :
    Calls Tryz.prog 35 #[.pointer (some ⟨gd, 0, none⟩), sV n] w fun e w' => e = .returned (.int .i64 (onE D n)) ∧ DiskB w' B gd (remV D n) ∧ WT w w' (fun _ => False) ∧ Below B w w' :=
  stepW hB h fun S hS => remove_any G n hn w hS
end
end Go.Proofs.YtfpmcomigolacaaGreatDoor.wal
set_option linter.unusedSimpArgs false
set_option linter.unusedVariables false
namespace Go.Proofs.YtfpmcomigolacaaGreatDoor.wal
open Go.ChangeShapes Go.WideShapes Go.ChangeAt Go.RowKit Go.Maps Go.WideMaps
open Go.Proofs.YtfpmcomigolacaaGreatDoor.opened Go.Proofs.YtfpmcomigolacaaGreatDoor.block Go.Proofs.YtfpmcomigolacaaGreatDoor.words Go.Proofs.YtfpmcomigolacaaGreatDoor.disk Go.Proofs.YtfpmcomigolacaaGreatDoor.tailed Go.Proofs.YtfpmcomigolacaaGreatDoor.enc Go.Proofs.YtfpmcomigolacaaGreatDoor.code

theorem region_since_tail {P : Program} {id : Nat} {Q : Exit → Act → World → Prop} {a : Act} (w0 : World) {w : World} {l : List Oper} (n : Nat) (hm : P.follows .mixedOrders = true) (hB : Region.lexTailB .any l.toArray n = true) (hw : Below w0.heap.size w0 w)
    (h : wpQuiet P l.toArray (fun w' => ∃ x : Since w0, w' = x.1) (fun a' => ∀ w', (∃ x : Since w0, w' = x.1) → wpList P l.toArray Q (l.drop n) a' w') (l.take n) a) : (Code.region id l.toArray true).wp P Q a w :=
  region_tail (C := fun w' => ∃ x : Since w0, w' = x.1) n hm hB ⟨⟨_, hw.drew⟩, rfl⟩ h
theorem since_callW {P : Program} {f : FuncId} {args : Array Value} {v : Value} {w0 : World} (h : ∀ w, Below w0.heap.size w0 w → Calls P f args w fun e w' => e = .returned v ∧ Below w.heap.size w w') (x : Since w0) :
    Calls P f args x.1 fun e w' => e = .returned v ∧ ∃ y : Since w0, w' = y.1 :=
  (h x.1 x.2).mono fun _ w' ⟨he, hb⟩ => ⟨he, ⟨w', then_below x.2 hb⟩, rfl⟩

section
variable {gl gd : Nat} {L : Lg} {A : Option Addr} {c : Nat} {R : Option Addr} {d : Nat} {w : World}
theorem files_any (h : LogE w gl gd L A c R d) :
    Calls Tryz.prog 18 #[.pointer (some ⟨gl, 0, none⟩)] w fun e w' => e = .returned (.int .i64 (L.heads.length : Int)) ∧ Below w.heap.size w w' := by
  have c4 : w.cell? ⟨gl, 4, none⟩ = some (.slice A L.heads.length c) := h.cells.read 4
  have f4 : w.frozen? ⟨gl, 4, none⟩ = false := h.cells.soft 4
  clear h
  generalize L.heads.length = n at c4 ⊢
  go_enter Tryz.func18, Tryz.ntmps18
  go_wp2_with fail
  go_ret
  exact ⟨rfl, Below.refl _ _⟩
theorem synced_any (h : LogE w gl gd L A c R d) :
    Calls Tryz.prog 17 #[.pointer (some ⟨gl, 0, none⟩)] w fun e w' => e = .returned (.int .i64 L.syn) ∧ Below w.heap.size w w' := by
  have c4 : w.cell? ⟨gl, 7, none⟩ = some (.int .i64 L.syn) := h.cells.read 7
  have f4 : w.frozen? ⟨gl, 7, none⟩ = false := h.cells.soft 7
  clear h
  generalize L.syn = n at c4 ⊢
  go_enter Tryz.func17, Tryz.ntmps17
  go_wp2_with fail
  go_ret
  exact ⟨rfl, Below.refl _ _⟩
theorem base_any (h : LogE w gl gd L A c R d) :
    Calls Tryz.prog 19 #[.pointer (some ⟨gl, 0, none⟩)] w fun e w' => e = .returned (.int .i64 (baseN L)) ∧ Below w.heap.size w w' := by
  have HF := Lib.hid (files_any h)
  have c4 : ∀ w1, Below w.heap.size w w1 → w1.cell? ⟨gl, 4, none⟩ = some (.slice A L.heads.length c) ∧ w1.frozen? ⟨gl, 4, none⟩ = false := fun w1 b => ⟨(h.below b).cells.read 4, (h.below b).cells.soft 4⟩
  have hh : ∀ w1, Below w.heap.size w w1 → ∀ k x, L.heads[k]? = some x → ∃ g, A = some ⟨g, 0, none⟩ ∧ g < w1.heap.size ∧ w1.cell? ⟨g, k, none⟩ = some (.int .i64 x) := fun w1 b k x hk => own_at (h.below b).heads (by rw [List.getElem?_map, hk]; rfl)
  clear h
  unfold baseN
  cases e : L.heads with
  | nil =>
    rw [e] at HF c4
    clear hh e c4
    go_enter Tryz.func19, Tryz.ntmps19
    go_wp2_with (go_at_call 18; refine HF.out.mono ?_; rintro e w1 ⟨rfl, b1⟩; have B1 := Lib.hid b1; clear b1)
    go_ret
    exact ⟨rfl, B1.out⟩
  | cons x r =>
    rw [e] at HF c4 hh
    have hh0 := fun w1 b => hh w1 b 0 x rfl
    clear hh e
    have hz : (((x :: r).length : Int) == 0) = false := by simp; omega
    have hz2 : 0 < (x :: r).length := by simp
    have HX : Hid (((x :: r).head?.getD 0 : Int) = x) := Lib.hid rfl
    generalize (x :: r).length = n at HF c4 hz hz2
    generalize ((x :: r).head?.getD 0 : Int) = y at HX ⊢
    obtain rfl : y = x := HX.out
    go_enter Tryz.func19, Tryz.ntmps19
    go_upto_region 3 with (go_at_call 18; refine HF.out.mono ?_; rintro e w1 ⟨rfl, b1⟩; have B1 := Lib.hid b1; clear b1)
    obtain ⟨c5, f5⟩ := c4 w1 B1.out
    obtain ⟨g, rfl, -, c6⟩ := hh0 w1 B1.out
    clear c4 hh0
    go_wp2_with fail
    go_ret
    exact ⟨rfl, B1.out⟩
theorem next_any (G : GoodL L) (hn : nextN L ≤ 1125899906842624) (h : LogE w gl gd L A c R d) :
    Calls Tryz.prog 16 #[.pointer (some ⟨gl, 0, none⟩)] w fun e w' => e = .returned (.int .i64 (nextN L)) ∧ Below w.heap.size w w' := by
  have HB : Hid (∀ w1, Below w.heap.size w w1 → Calls Tryz.prog 19 #[.pointer (some ⟨gl, 0, none⟩)] w1 fun e w' => e = .returned (.int .i64 (baseN L)) ∧ Below w1.heap.size w1 w') := Lib.hid fun w1 b => base_any (h.below b)
  have c5 : ∀ x : Since w, x.1.cell? ⟨gl, 5, none⟩ = some (.slice R L.recs.length d) := fun x => (h.below x.2).cells.read 5
  have f5 : ∀ x : Since w, x.1.frozen? ⟨gl, 5, none⟩ = false := fun x => (h.below x.2).cells.soft 5
  have h0 := G.base
  unfold nextN at hn ⊢
  clear h G
  generalize baseN L = b at HB hn h0 ⊢
  generalize L.recs.length = n at c5 hn ⊢
  have hw : wrap64 (b + (n : Int)) = b + (n : Int) := by unfold wrap64; omega
  clear hn h0
  go_enter Tryz.func16, Tryz.ntmps16
  go_upto_region 1 with fail
  refine region_since w (by kernel_rfl) (by kernel_rfl) (Below.refl _ _) ?_
  repeat (go_big_quiet_step ((go_at_call 19; with_reducible exact since_callW HB.out _)))
  refine wpQuiet_nil ?_
  rintro w4 ⟨z, rfl⟩
  have hz := z.2
  clear c5 f5
  rw [hw]
  go_wp2_with fail
  go_ret
  exact ⟨rfl, hz⟩
theorem nextFile_any (G : GoodL L) (h : LogE w gl gd L A c R d) :
    Calls Tryz.prog 57 #[.pointer (some ⟨gl, 0, none⟩)] w fun e w' => e = .returned (.int .i64 (nextF L)) ∧ Below w.heap.size w w' := by
  have HB : Hid (∀ w1, Below w.heap.size w w1 → Calls Tryz.prog 18 #[.pointer (some ⟨gl, 0, none⟩)] w1 fun e w' => e = .returned (.int .i64 (L.heads.length : Int)) ∧ Below w1.heap.size w1 w') := Lib.hid fun w1 b => files_any (h.below b)
  have c5 : ∀ x : Since w, x.1.cell? ⟨gl, 3, none⟩ = some (.int .i64 L.least) := fun x => (h.below x.2).cells.read 3
  have f5 : ∀ x : Since w, x.1.frozen? ⟨gl, 3, none⟩ = false := fun x => (h.below x.2).cells.soft 3
  have h0 := G.lo
  have h1 := G.hi
  unfold nextF at h1 ⊢
  clear h G
  generalize L.least = b at c5 h0 h1 ⊢
  generalize L.heads.length = n at HB h1 ⊢
  have hw : wrap64 (b + (n : Int)) = b + (n : Int) := by unfold wrap64; omega
  clear h0 h1
  go_enter Tryz.func57, Tryz.ntmps57
  go_upto_region 1 with fail
  refine region_since w (by kernel_rfl) (by kernel_rfl) (Below.refl _ _) ?_
  repeat (go_big_quiet_step ((go_at_call 18; with_reducible exact since_callW HB.out _)))
  refine wpQuiet_nil ?_
  rintro w4 ⟨z, rfl⟩
  have hz := z.2
  clear c5 f5
  rw [hw]
  go_wp2_with fail
  go_ret
  exact ⟨rfl, hz⟩
theorem file_any (hl : L.nm.length ≤ 8) (k : Int) (h0 : 0 ≤ k) (h1 : k ≤ 1000000) (h : LogE w gl gd L A c R d) (hE : Env w) :
    Calls Tryz.prog 36 #[.pointer (some ⟨gl, 0, none⟩), .int .i64 k] w fun e w' => e = .returned (sV (fn L.nm k)) ∧ Below w.heap.size w w' := by
  have HB : Hid (∀ w1, Below w.heap.size w w1 → Calls Tryz.prog 63 #[.int .i64 k] w1 fun e w' => e = .returned (sV (Lib.itoa k)) ∧ Below w1.heap.size w1 w') := Lib.hid fun w1 b => number_any k (by omega) (by omega) w1 (hE.below b)
  have c5 : ∀ x : Since w, x.1.cell? ⟨gl, 1, none⟩ = some (sV L.nm) := fun x => (h.below x.2).cells.read 1
  have f5 : ∀ x : Since w, x.1.frozen? ⟨gl, 1, none⟩ = false := fun x => (h.below x.2).cells.soft 1
  have hi := (itoa_shape k (by omega) (by omega)).1
  unfold fn
  clear h hE
  generalize L.nm = nm at c5 hl ⊢
  generalize Lib.itoa k = t at HB hi ⊢
  have ha : (⟨nm.toArray⟩ : ByteArray) ++ (⟨t.toArray⟩ : ByteArray) = ⟨(nm ++ t).toArray⟩ := ByteArray.ext (by simp)
  have hab : ¬ 9223372036854775807 < nm.length + t.length := by omega
  rw [show sV (nm ++ t) = .string ((⟨nm.toArray⟩ : ByteArray) ++ (⟨t.toArray⟩ : ByteArray)) from by rw [ha]]
  clear ha hl hi
  go_enter Tryz.func36, Tryz.ntmps36
  go_upto_region 1 with fail
  refine region_since w (by kernel_rfl) (by kernel_rfl) (Below.refl _ _) ?_
  repeat (go_big_quiet_step ((go_at_call 63; with_reducible exact since_callW HB.out _)))
  refine wpQuiet_nil ?_
  rintro w4 ⟨z, rfl⟩
  have hz := z.2
  clear c5 f5
  go_wp2_with fail
  go_ret
  exact ⟨rfl, hz⟩
theorem get_any (G : GoodL L) (hn : nextN L ≤ 1125899906842624) (n : Int) (n0 : -9223372036854775808 ≤ n) (n1 : n ≤ 9223372036854775807) (h : LogE w gl gd L A c R d) :
    Calls Tryz.prog 20 #[.pointer (some ⟨gl, 0, none⟩), .int .i64 n] w fun e w' => e = .returned (.tuple #[sV (gtV L n), .int .i64 (gtE L n)]) ∧ Below w.heap.size w w' := by
  have HB : Hid (∀ w1, Below w.heap.size w w1 → Calls Tryz.prog 19 #[.pointer (some ⟨gl, 0, none⟩)] w1 fun e w' => e = .returned (.int .i64 (baseN L)) ∧ Below w1.heap.size w1 w') := Lib.hid fun w1 b => base_any (h.below b)
  have HN : Hid (∀ w1, Below w.heap.size w w1 → Calls Tryz.prog 16 #[.pointer (some ⟨gl, 0, none⟩)] w1 fun e w' => e = .returned (.int .i64 (nextN L)) ∧ Below w1.heap.size w1 w') := Lib.hid fun w1 b => next_any G hn (h.below b)
  have c5 : Hid (∀ x : Since w, x.1.cell? ⟨gl, 5, none⟩ = some (.slice R L.recs.length d)) := Lib.hid fun x => (h.below x.2).cells.read 5
  have f5 : Hid (∀ x : Since w, x.1.frozen? ⟨gl, 5, none⟩ = false) := Lib.hid fun x => (h.below x.2).cells.soft 5
  have hh : Hid (∀ k s, L.recs[k]? = some s → ∃ g, R = some ⟨g, 0, none⟩ ∧ ∀ x : Since w, x.1.cell? ⟨g, k, none⟩ = some (sV s)) := Lib.hid fun k s hk => by
    obtain ⟨g, h1, h2, h3⟩ := own_at h.recs (by rw [List.getElem?_map, hk]; rfl)
    exact ⟨g, h1, fun x => (x.2.cell (p := ⟨g, k, none⟩) h2).trans h3⟩
  have h0 := G.base
  have HX : Hid (nextN L = baseN L + L.recs.length) := Lib.hid rfl
  have HE : Hid (gtE L n = if n < baseN L ∨ nextN L ≤ n then 1 else 0) := Lib.hid rfl
  have HV : Hid (gtV L n = if n < baseN L ∨ nextN L ≤ n then [] else (L.recs[(n - baseN L).toNat]?).getD []) := Lib.hid rfl
  clear h G
  generalize gtE L n = ge at HE ⊢
  generalize gtV L n = gv at HV ⊢
  generalize baseN L = b at HB HX HE HV h0
  generalize nextN L = m at HN HX HE HV hn
  by_cases q1 : n < b
  · have e1 := HE.out
    have e2 := HV.out
    rw [if_pos (.inl q1)] at e1 e2
    subst e1 e2
    clear HE HV HX hh c5 f5 HN
    go_enter Tryz.func20, Tryz.ntmps20
    go_wp2_with (go_at_call 19; refine (HB.out _ (Below.refl _ _)).mono ?_; rintro e w1 ⟨rfl, b1⟩; have B1 := Lib.hid b1; clear b1)
    go_ret2
    exact ⟨rfl, B1.out⟩
  by_cases q2 : m ≤ n
  · have e1 := HE.out
    have e2 := HV.out
    rw [if_pos (.inr q2)] at e1 e2
    subst e1 e2
    clear HE HV HX hh c5 f5
    go_enter Tryz.func20, Tryz.ntmps20
    go_wp2_with (first
      | (go_at_call 19; refine (HB.out _ (Below.refl _ _)).mono ?_; rintro e w1 ⟨rfl, b1⟩; have B1 := Lib.hid b1; clear b1)
      | (go_at_call 16; refine (HN.out _ B1.out).mono ?_; rintro e w2 ⟨rfl, b2⟩; have B2 := Lib.hid (then_below B1.out b2); clear b2))
    go_ret2
    exact ⟨rfl, B2.out⟩
  have e1 := HE.out
  have e2 := HV.out
  rw [if_neg (by omega)] at e1 e2
  subst e1
  clear HE HV
  have hx := HX.out
  obtain ⟨k, hk⟩ : ∃ k : Nat, n - b = k := ⟨(n - b).toNat, by omega⟩
  have hkl : k < L.recs.length := by omega
  rw [hk, Int.toNat_natCast, List.getElem?_eq_getElem hkl] at e2
  have hw : wrap64 (n - b) = (k : Int) := by unfold wrap64; omega
  obtain ⟨g, rfl, hc⟩ := hh.out k _ (List.getElem?_eq_getElem hkl)
  have e3 : L.recs[k] = gv := e2.symm
  rw [e3] at hc
  clear hh e2 e3 hx HX h0
  have HC := Lib.hid hc
  clear hc
  generalize L.recs.length = len at c5 hkl
  clear hk
  go_enter Tryz.func20, Tryz.ntmps20
  go_upto_region 3 with (first
      | (go_at_call 19; refine (HB.out _ (Below.refl _ _)).mono ?_; rintro e w1 ⟨rfl, b1⟩; have B1 := Lib.hid b1; clear b1)
      | (go_at_call 16; refine (HN.out _ B1.out).mono ?_; rintro e w2 ⟨rfl, b2⟩; have B2 := Lib.hid (then_below B1.out b2); clear b2))
  clear q1 q2
  have c5' := c5.out
  have f5' := f5.out
  have hc := HC.out
  refine region_since w (by kernel_rfl) (by kernel_rfl) B2.out ?_
  repeat (go_big_quiet_step ((go_at_call 19; with_reducible exact since_callW HB.out _)))
  refine wpQuiet_nil ?_
  rintro w4 ⟨z, rfl⟩
  have hz := z.2
  clear c5 f5 c5' f5' hc HC
  go_wp2_with fail
  go_ret2
  exact ⟨rfl, hz⟩
end
end Go.Proofs.YtfpmcomigolacaaGreatDoor.wal
