/-
  A row of numbers that is one's own; Mend by such a row.
  A log in the world: its block, its two rows; what turns while something is done to it.
-/
import Derived.Test.YtfpmcomigolacaaGreatDoorJKco
import Derived.Test.YtfpmcomigolacaaGreatDoorJNw
set_option linter.unusedSimpArgs false
set_option linter.unusedVariables false
namespace Go.Proofs.YtfpmcomigolacaaGreatDoor.disk
open Go.ChangeShapes Go.WideShapes Go.ChangeAt Go.RowKit Go.Maps Go.WideMaps
open Go.Proofs.YtfpmcomigolacaaGreatDoor.words Go.Proofs.YtfpmcomigolacaaGreatDoor.opened Go.Proofs.YtfpmcomigolacaaGreatDoor.block

theorem fin_step {w w2 w3 : World} {S : Nat → Prop} {g : Nat} {D' : Dk} (t2 : Turn w w2 S) (d : DiskP w3 (More w2 (More w S)) g D') (t3 : Turn w2 w3 (More w S)) : DiskP w3 (More w S) g D' ∧ Turn w w3 S :=
  ⟨d.wide fun k hk => by
    rcases hk with hk | hk
    · exact hk
    · exact .inr (Nat.le_trans t2.size hk), t2.trans t3 fun _ hj => hj⟩
/-- Mend by a row that is newer than w1. -/
theorem mendS {S : Nat → Prop} {g : Nat} {D : Dk} {w1 w : World} (G : GoodD D) (hF : D.F.length ≤ 1000) (K : Option Addr) (kc : Nat) (keep : List Int) (hk : ∀ x ∈ keep, x ≤ 9223372036854775807) (hkl : keep.length ≤ 100000) (h : DiskP w1 S g D) (hb : Below w1.heap.size w1 w) (hK : Lies w K (keep.map (Value.int .i64))) (hKn : ∀ a, K = some a → w1.heap.size ≤ a.block) :
    Calls Tryz.prog 15 #[.pointer (some ⟨g, 0, none⟩), .slice K keep.length kc] w fun e w' => e = .returned (.tuple #[]) ∧ DiskP w' (More w1 S) g (mendV D keep) ∧ Turn w1 w' S := by
  have h1 : DiskP w1 (fun k => S k ∧ k < w1.heap.size) g D := by
    obtain ⟨mb, E, h1, h2⟩ := h
    exact ⟨mb, E, h1, fun k hk => ⟨h2 k hk, h1.inside hk⟩⟩
  refine (mend_any G hF K kc keep hk hkl w (h1.below hb) hK (fun a ha hh => by have := hKn a ha; omega)).mono fun e w' ⟨e1, e2, e3⟩ => ⟨e1, e2.wide fun k hk => ?_, ((turn_below hb S).trans (e3.wide (Q := S) fun k hk => hk.1) fun _ hj => .inl hj)⟩
  rcases hk with hk | hk
  · exact .inl hk.1
  · exact .inr (Nat.le_trans hb.size hk)
theorem info3 : (Tryz.prog.info? 3).map (fun i => (i.zero, i.size, i.bytes)) = some (some (.int .i64 0), 1, 8) := by kernel_rfl
theorem own0I (W : World) : (W.alloc (.cells #[] 3)).ownsRow W.heap.size 3 1 (.slice (some ⟨W.heap.size, 0, none⟩) 0 0) 0 [] := ⟨rfl, .inr ⟨W.heap.size, 0, #[], rfl, Nat.le_refl _, heap_new W _, Nat.le_refl _, by simp [maxLen], rfl, rfl⟩⟩
theorem lies_own {w : World} {base n c : Nat} {A : Option Addr} {xs : List Value} {e : TypeId} (h : w.ownsRow base e 1 (.slice A n c) n xs) : Lies w A xs ∧ ∀ a, A = some a → base ≤ a.block := by
  refine ⟨?_, fun a ha => (World.ownsRow.lt h a.block (by rw [ha]; rfl)).1⟩
  rcases h.2 with ⟨-, hn⟩ | ⟨g, cap, cur, hv, hb, hg, hc, hcm, hs, ht⟩
  · left
    have := h.1
    rw [hn] at this
    exact List.eq_nil_of_length_eq_zero (by simpa using this)
  · injection hv with h1 h2 h3
    subst h1
    refine .inr ⟨g, 0, rfl, (Array.getElem?_eq_some_iff.1 hg).1, fun i x hx => ?_⟩
    have hi := (List.getElem?_eq_some_iff.1 hx).1
    have hl := h.1
    rw [← ht, List.getElem?_take, if_pos (by omega), Array.getElem?_toList] at hx
    rw [← hx]
    simp [World.cell?, hg]
/-- append([]int{}, xs...), by its run. -/
theorem own_ints (w0 : World) (K : Option Addr) (kc : Nat) (xs : List Int) (hl : xs.length ≤ 1000000) (hL : Lies w0 K (xs.map (Value.int .i64))) (ty : TypeId) :
    ∃ A' c' w', (Builtin.append_ #[23, 23] ty #[.slice (some ⟨w0.heap.size, 0, none⟩) 0 0, .slice K xs.length kc]).run Tryz.prog (w0.alloc (.cells #[] 3)) = .ok (.slice A' xs.length c') w' ∧ Lies w' A' (xs.map (Value.int .i64)) ∧ (∀ a, A' = some a → w0.heap.size ≤ a.block) ∧ Below w0.heap.size w0 w' := by
  obtain ⟨i0, hi, hz0, hz1, hz2⟩ : ∃ i, Tryz.prog.info? 3 = some i ∧ i.zero = some (.int .i64 0) ∧ i.size = 1 ∧ i.bytes = 8 := by
    have h := info3
    rw [Option.map_eq_some_iff] at h
    obtain ⟨i, hi, he⟩ := h
    simp only [Prod.mk.injEq] at he
    exact ⟨i, hi, he.1, he.2.1, he.2.2⟩
  have HO := own0I w0
  have b1 := fresh1' w0 (.cells #[] 3)
  have fin : ∀ ad : Addr, K = some ad → (∀ (j : Nat) (u : Value), (xs.map (Value.int .i64))[j]? = some u → (w0.alloc (.cells #[] 3)).cell? (ad.add j) = some u) →
      ∃ A' c' w', (Builtin.append_ #[23, 23] ty #[.slice (some ⟨w0.heap.size, 0, none⟩) 0 0, .slice K xs.length kc]).run Tryz.prog (w0.alloc (.cells #[] 3)) = .ok (.slice A' xs.length c') w' ∧ Lies w' A' (xs.map (Value.int .i64)) ∧ (∀ a, A' = some a → w0.heap.size ≤ a.block) ∧ Below w0.heap.size w0 w' := by
    intro ad hK hnews
    subst hK
    obtain ⟨v', w', hr, ho, hg, -⟩ := run_append_own (P := Tryz.prog) (w0.alloc (.cells #[] 3)) w0.heap.size 23 ty 3 i0 (.int .i64 0) 1 8 Tryz.underlying23 hi hz0 hz1 hz2 rfl (by decide) _ 0 [] HO ad xs.length kc (xs.map (Value.int .i64)) (by simp) hnews (fun u hu => by obtain ⟨x, -, rfl⟩ := List.mem_map.1 hu; rfl) (by unfold maxLen; omega) (by omega) (by simp)
    rw [Nat.zero_add, List.nil_append] at ho
    obtain ⟨A', c', rfl⟩ : ∃ A' c', v' = .slice A' xs.length c' := by
      rcases ho.2 with ⟨rfl, hn⟩ | ⟨g, cap, cur, rfl, -⟩
      · exact ⟨none, 0, by rw [hn]⟩
      · exact ⟨_, _, rfl⟩
    obtain ⟨l1, l2⟩ := lies_own ho
    exact ⟨A', c', w', hr, l1, l2, b1.grown hg (by simp) (fun j ej => by cases ej; exact Nat.le_refl _)⟩
  cases K with
  | none =>
    have hx : xs = [] := by
      rcases hL with h0 | ⟨b, off, hK, -⟩
      · simpa using h0
      · cases hK
    subst hx
    refine ⟨some ⟨w0.heap.size, 0, none⟩, 0, w0.alloc (.cells #[] 3), ?_, .inl rfl, fun a ha => by cases ha; exact Nat.le_refl _, b1⟩
    simp [Builtin.append_, run_underlying Tryz.underlying23, sizeOf, typeInfo, hi, Builtin.lenOf, Builtin.firstCells]
    rfl
  | some ad =>
    refine fin ad rfl fun j u hj => ?_
    rcases hL with h0 | ⟨b, off, hK, hb, hc⟩
    · rw [h0] at hj
      simp at hj
    · cases hK
      have e : (⟨b, off, none⟩ : Addr).add j = ⟨b, off + j, none⟩ := by cases j <;> simp [Addr.add]
      rw [e]
      exact (b1.cell (p := ⟨b, off + j, none⟩) hb).trans (hc j u hj)
end Go.Proofs.YtfpmcomigolacaaGreatDoor.disk
set_option linter.unusedSimpArgs false
set_option linter.unusedVariables false
namespace Go.Proofs.YtfpmcomigolacaaGreatDoor.wal
open Go.ChangeShapes Go.WideShapes Go.ChangeAt Go.RowKit Go.Maps Go.WideMaps
open Go.Proofs.YtfpmcomigolacaaGreatDoor.opened Go.Proofs.YtfpmcomigolacaaGreatDoor.block Go.Proofs.YtfpmcomigolacaaGreatDoor.words Go.Proofs.YtfpmcomigolacaaGreatDoor.disk

/-! ### Rows that are one's own -/
theorem own_same {w w' : World} {base : Nat} {e : TypeId} {size : Nat} {v : Value} {n : Nat} {xs : List Value} (h : w.ownsRow base e size v n xs) (hb : ∀ k, v.ownBlock = some k → w'.heap[k]? = w.heap[k]?) : w'.ownsRow base e size v n xs := by
  refine ⟨h.1, ?_⟩
  rcases h.2 with hn | ⟨g, cap, cur, hv, hg, hh, rest⟩
  · exact .inl hn
  · exact .inr ⟨g, cap, cur, hv, hg, (hb g (by rw [hv]; rfl)).trans hh, rest⟩
theorem own_low {w : World} {base base' : Nat} {e : TypeId} {size : Nat} {v : Value} {n : Nat} {xs : List Value} (h : w.ownsRow base e size v n xs) (hb : ∀ k, v.ownBlock = some k → base' ≤ k) : w.ownsRow base' e size v n xs := by
  refine ⟨h.1, ?_⟩
  rcases h.2 with hn | ⟨g, cap, cur, hv, hg, hh, rest⟩
  · exact .inl hn
  · exact .inr ⟨g, cap, cur, hv, hb g (by rw [hv]; rfl), hh, rest⟩
theorem own_type {w : World} {base : Nat} {e : TypeId} {size : Nat} {v : Value} {n : Nat} {xs : List Value} (h : w.ownsRow base e size v n xs) {k : Nat} (hk : v.ownBlock = some k) : ∃ cs, Whole w k e cs := by
  rcases h.2 with ⟨hv, -⟩ | ⟨g, cap, cur, hv, hg, hh, rest⟩
  · rw [hv] at hk
    simp [Value.ownBlock] at hk
  · rw [hv] at hk
    obtain rfl : g = k := by simpa [Value.ownBlock] using hk
    exact ⟨cur, hh⟩
theorem own_shape {w : World} {base : Nat} {e : TypeId} {size : Nat} {v : Value} {n : Nat} {xs : List Value} (h : w.ownsRow base e size v n xs) : ∃ A c, v = .slice A n c := by
  rcases h.2 with ⟨hv, hn⟩ | ⟨g, cap, cur, hv, -⟩
  · exact ⟨none, 0, by rw [hv, hn]⟩
  · exact ⟨_, _, hv⟩
theorem own_at {w : World} {base : Nat} {e : TypeId} {n c : Nat} {A : Option Addr} {xs : List Value} (h : w.ownsRow base e 1 (.slice A n c) n xs) {k : Nat} {x : Value} (hk : xs[k]? = some x) : ∃ g, A = some ⟨g, 0, none⟩ ∧ g < w.heap.size ∧ w.cell? ⟨g, k, none⟩ = some x := by
  obtain ⟨hL, -⟩ := lies_own h
  obtain ⟨b, off, hA, hb, hc⟩ := lies_at hL hk
  rcases h.2 with ⟨hv, -⟩ | ⟨g, cap, cur, hv, hg, hh, rest⟩
  · injection hv with h1
    rw [h1] at hA
    cases hA
  · injection hv with h1
    rw [h1] at hA
    cases hA
    rw [Nat.zero_add] at hc
    exact ⟨_, h1, hb, hc⟩
theorem own_none {w : World} {base : Nat} {e : TypeId} {n c : Nat} {A : Option Addr} {xs : List Value} (h : w.ownsRow base e 1 (.slice A n c) n xs) : n = xs.length := by
  have := h.1
  omega

/-! ### What turns -/
/-- An object that a disk lies in. -/
def DObj (o : Obj) : Prop := (∃ cs f, o = .cells cs 64 f) ∨ (∃ cs f, o = .cells cs 5 f) ∨ ∃ es n, o = .map es n
/-- Of what was there nothing has turned but blocks of Q, and what disks lie in. -/
structure WT (w w' : World) (Q : Nat → Prop) : Prop where
  os : w'.os = w.os
  tape : w'.tape = w.tape
  output : w'.output = w.output
  size : w.heap.size ≤ w'.heap.size
  block : ∀ k o, w.heap[k]? = some o → ¬ Q k → ¬ DObj o → w'.heap[k]? = some o
theorem WT.refl (w : World) (Q : Nat → Prop) : WT w w Q := ⟨rfl, rfl, rfl, Nat.le_refl _, fun _ _ h _ _ => h⟩
theorem WT.wide {w w' : World} {Q R : Nat → Prop} (h : WT w w' Q) (hq : ∀ k, Q k → R k) : WT w w' R := ⟨h.os, h.tape, h.output, h.size, fun k o ho hn hd => h.block k o ho (fun x => hn (hq k x)) hd⟩
theorem WT.trans {a b c : World} {Q R : Nat → Prop} (h : WT a b Q) (k : WT b c R) (hr : ∀ j, R j → Q j ∨ a.heap.size ≤ j) : WT a c Q :=
  ⟨k.os.trans h.os, k.tape.trans h.tape, k.output.trans h.output, Nat.le_trans h.size k.size, fun j o ho hn hd => k.block j o (h.block j o ho hn hd) (fun hR => by
    have hj := (Array.getElem?_eq_some_iff.1 ho).1
    rcases hr j hR with h1 | h1
    · exact hn h1
    · omega) hd⟩
theorem wt_below {w w' : World} (h : Below w.heap.size w w') (Q : Nat → Prop) : WT w w' Q := ⟨h.os, h.tape, h.output, h.size, fun k o ho _ _ => (h.block k (Array.getElem?_eq_some_iff.1 ho).1).trans ho⟩
theorem wt_grown {w w' : World} {row : Option Nat} (h : w.grownBy w' row) {Q : Nat → Prop} (hq : ∀ k, row = some k → Q k) : WT w w' Q :=
  ⟨h.os, h.tape, h.output, h.size, fun k o ho hn _ => (h.block k (Array.getElem?_eq_some_iff.1 ho).1 (fun e => hn (hq k e.symm))).trans ho⟩
theorem disk_obj {w : World} {g mb : Nat} {D : Dk} {E : List Fe} (h : DiskE w g mb D E) {k : Nat} (hk : blk g mb E k) : ∃ o, w.heap[k]? = some o ∧ DObj o := by
  rcases hk with rfl | rfl | ⟨e, he, a, ha, rfl⟩
  · exact ⟨_, h.cells, .inl ⟨_, _, rfl⟩⟩
  · obtain ⟨es, -, xs, clock, hm, -⟩ := h.own
    exact ⟨_, hm, .inr (.inr ⟨_, _, rfl⟩)⟩
  · have hr := (h.rows e he).1
    rcases hr.2 with ⟨hv, -⟩ | ⟨b, cap, cur, hv, -, hg, -⟩
    · unfold Fe.row at hv
      injection hv with h1
      rw [h1] at ha
      cases ha
    · unfold Fe.row at hv
      injection hv with h1
      rw [h1] at ha
      cases ha
      exact ⟨_, hg, .inr (.inl ⟨_, _, rfl⟩)⟩
theorem wt_turn {w w' : World} {g mb : Nat} {D : Dk} {E : List Fe} (h : DiskE w g mb D E) (ht : Turn w w' (blk g mb E)) (Q : Nat → Prop) : WT w w' Q :=
  ⟨ht.os, ht.tape, ht.output, ht.size, fun k o ho _ hd => (ht.block k (Array.getElem?_eq_some_iff.1 ho).1 (fun hk => by
    obtain ⟨o', h1, h2⟩ := disk_obj h hk
    rw [ho] at h1
    cases h1
    exact hd h2)).trans ho⟩
theorem not_dobj {cs : Array Value} {t : TypeId} {f : Nat × Nat} (h1 : t ≠ 64) (h2 : t ≠ 5) : ¬ DObj (.cells cs t f) := by
  rintro (⟨_, _, h⟩ | ⟨_, _, h⟩ | ⟨_, _, h⟩)
  · injection h with _ h; exact h1 h
  · injection h with _ h; exact h2 h
  · cases h
theorem Whole.wt {w w' : World} {g : Nat} {t : TypeId} {cs : Array Value} {Q : Nat → Prop} (h : Whole w g t cs) (k : WT w w' Q) (hn : ¬ Q g) (h1 : t ≠ 64) (h2 : t ≠ 5) : Whole w' g t cs := k.block g _ h hn (not_dobj h1 h2)
/-- A call of the disk. -/
theorem stepW {B gd : Nat} {D D' : Dk} {w : World} {f : FuncId} {args : Array Value} {R : Ending → Prop} (hB : B ≤ w.heap.size) (h : DiskB w B gd D)
    (hc : ∀ S, DiskP w S gd D → Calls Tryz.prog f args w fun e w' => R e ∧ DiskP w' (More w S) gd D' ∧ Turn w w' S) :
    Calls Tryz.prog f args w fun e w' => R e ∧ DiskB w' B gd D' ∧ WT w w' (fun _ => False) ∧ Below B w w' := by
  obtain ⟨mb, E, h1, h2⟩ := h
  refine (hc (blk gd mb E) ⟨mb, E, h1, fun k hk => hk⟩).mono fun e w' ⟨e1, e2, ht⟩ => ?_
  obtain ⟨u1, u2⟩ := up hB e2 h2 ht
  exact ⟨e1, u1, wt_turn h1 ht _, u2⟩

/-! ### A log -/
structure LogE (w : World) (gl gd : Nat) (L : Lg) (A : Option Addr) (c : Nat) (R : Option Addr) (d : Nat) : Prop where
  cells : Whole w gl 67 #[.pointer (some ⟨gd, 0, none⟩), sV L.nm, .int .i64 L.per, .int .i64 L.least, .slice A L.heads.length c, .slice R L.recs.length d, .bool L.torn, .int .i64 L.syn, .bool L.fail]
  heads : w.ownsRow 0 3 1 (.slice A L.heads.length c) L.heads.length (L.heads.map (Value.int .i64))
  recs : OwnS w 0 (.slice R L.recs.length d) L.recs
def lblk (gl : Nat) (A R : Option Addr) (k : Nat) : Prop := k = gl ∨ (∃ a, A = some a ∧ k = a.block) ∨ ∃ a, R = some a ∧ k = a.block
def LP (w : World) (Q : Nat → Prop) (gl gd : Nat) (L : Lg) : Prop := ∃ A c R d, LogE w gl gd L A c R d ∧ ∀ k, lblk gl A R k → Q k
theorem own_blk {A : Option Addr} {n c : Nat} {k : Nat} (h : (Value.slice A n c).ownBlock = some k) : ∃ a, A = some a ∧ k = a.block := by
  cases A with
  | none => simp [Value.ownBlock] at h
  | some a => exact ⟨a, rfl, by simpa [Value.ownBlock] using h.symm⟩
theorem blk_own {A : Option Addr} {n c : Nat} {a : Addr} (h : A = some a) : (Value.slice A n c).ownBlock = some a.block := by subst h; rfl
theorem LogE.same {w w' : World} {gl gd : Nat} {L : Lg} {A : Option Addr} {c : Nat} {R : Option Addr} {d : Nat} (h : LogE w gl gd L A c R d) (hb : ∀ k, lblk gl A R k → w'.heap[k]? = w.heap[k]?) : LogE w' gl gd L A c R d :=
  ⟨(hb gl (.inl rfl)).trans h.cells, own_same h.heads fun k hk => hb k (.inr (.inl (own_blk hk))), own_same h.recs fun k hk => hb k (.inr (.inr (own_blk hk)))⟩
theorem LogE.obj {w : World} {gl gd : Nat} {L : Lg} {A : Option Addr} {c : Nat} {R : Option Addr} {d : Nat} (h : LogE w gl gd L A c R d) {k : Nat} (hk : lblk gl A R k) : ∃ t cs, Whole w k t cs ∧ (t = 67 ∨ t = 3 ∨ t = 9) := by
  rcases hk with rfl | ⟨a, ha, rfl⟩ | ⟨a, ha, rfl⟩
  · exact ⟨_, _, h.cells, .inl rfl⟩
  · obtain ⟨cs, hcs⟩ := own_type h.heads (blk_own ha)
    exact ⟨_, cs, hcs, .inr (.inl rfl)⟩
  · obtain ⟨cs, hcs⟩ := own_type h.recs (blk_own ha)
    exact ⟨_, cs, hcs, .inr (.inr rfl)⟩
theorem tyL {t : TypeId} (h : t = 67 ∨ t = 3 ∨ t = 9) : t ≠ 64 ∧ t ≠ 5 := by
  rcases h with rfl | rfl | rfl <;> decide
theorem LogE.inside {w : World} {gl gd : Nat} {L : Lg} {A : Option Addr} {c : Nat} {R : Option Addr} {d : Nat} (h : LogE w gl gd L A c R d) {k : Nat} (hk : lblk gl A R k) : k < w.heap.size := by
  obtain ⟨t, cs, h1, -⟩ := h.obj hk
  exact h1.inside
theorem LogE.wt {w w' : World} {gl gd : Nat} {L : Lg} {A : Option Addr} {c : Nat} {R : Option Addr} {d : Nat} {Q : Nat → Prop} (h : LogE w gl gd L A c R d) (k : WT w w' Q) (hq : ∀ j, lblk gl A R j → ¬ Q j) : LogE w' gl gd L A c R d :=
  h.same fun j hj => by
    obtain ⟨t, cs, h1, h2⟩ := h.obj hj
    exact (Whole.wt h1 k (hq j hj) (tyL h2).1 (tyL h2).2).trans h1.symm
theorem LogE.below {w w' : World} {gl gd : Nat} {L : Lg} {A : Option Addr} {c : Nat} {R : Option Addr} {d : Nat} (h : LogE w gl gd L A c R d) (hb : Below w.heap.size w w') : LogE w' gl gd L A c R d := h.same fun k hk => hb.block k (h.inside hk)
theorem LP.wt {w w' : World} {Q P : Nat → Prop} {gl gd : Nat} {L : Lg} (h : LP w Q gl gd L) (k : WT w w' P) (hq : ∀ j, Q j → ¬ P j) : LP w' Q gl gd L := by
  obtain ⟨A, c, R, d, h1, h2⟩ := h
  exact ⟨A, c, R, d, h1.wt k (fun j hj => hq j (h2 j hj)), h2⟩
theorem LP.below {w w' : World} {Q : Nat → Prop} {gl gd : Nat} {L : Lg} (h : LP w Q gl gd L) (hb : Below w.heap.size w w') : LP w' Q gl gd L := by
  obtain ⟨A, c, R, d, h1, h2⟩ := h
  exact ⟨A, c, R, d, h1.below hb, h2⟩
theorem LP.wide {w : World} {Q P : Nat → Prop} {gl gd : Nat} {L : Lg} (h : LP w Q gl gd L) (hq : ∀ j, Q j → P j) : LP w P gl gd L := by
  obtain ⟨A, c, R, d, h1, h2⟩ := h
  exact ⟨A, c, R, d, h1, fun j hj => hq j (h2 j hj)⟩
theorem LP.exact {w : World} {Q : Nat → Prop} {gl gd : Nat} {L : Lg} (h : LP w Q gl gd L) : LP w (fun k => Q k ∧ k < w.heap.size) gl gd L := by
  obtain ⟨A, c, R, d, h1, h2⟩ := h
  exact ⟨A, c, R, d, h1, fun j hj => ⟨h2 j hj, h1.inside hj⟩⟩
/-- A disk, while a block turns that is none of its own. -/
theorem DiskB.own {w w' : World} {B gd : Nat} {D : Dk} {row : Option Nat} (h : DiskB w B gd D) (hg : w.grownBy w' row) (hr : ∀ k, row = some k → k < w.heap.size → ∃ t cs, Whole w k t cs ∧ t ≠ 64 ∧ t ≠ 5) : DiskB w' B gd D := by
  obtain ⟨mb, E, h1, h2⟩ := h
  refine ⟨mb, E, h1.same fun k hk => hg.block k (h1.inside hk) fun e => ?_, h2⟩
  obtain ⟨t, cs, q1, q2, q3⟩ := hr k e.symm (h1.inside hk)
  obtain ⟨o, q4, q5⟩ := disk_obj h1 hk
  rw [q1] at q4
  cases q4
  exact not_dobj q2 q3 q5
theorem DiskB.lower {w : World} {B B' gd : Nat} {D : Dk} (h : DiskB w B gd D) (hb : B' ≤ B) : DiskB w B' gd D := DiskP.wide h fun k hk => Nat.le_trans hb hk
section
variable {B gd : Nat} {D : Dk} {w : World}
theorem appW (G : GoodD D) (hF : D.F.length ≤ 1000) (n s : Bs) (hn : n.length ≤ 100000) (hs : s.length ≤ 100000) (hB : B ≤ w.heap.size) (h : DiskB w B gd D) :
    Calls Tryz.prog 66 #[.pointer (some ⟨gd, 0, none⟩), sV n, sV s] w fun e w' => e = .returned (.int .i64 (appE D n s)) ∧ DiskB w' B gd (appV D n s) ∧ WT w w' (fun _ => False) ∧ Below B w w' :=
  stepW hB h fun S hS => append_any G hF n s hn hs w hS
theorem synW (G : GoodD D) (hF : D.F.length ≤ 1000) (n : Bs) (hn : n.length ≤ 100000) (hB : B ≤ w.heap.size) (h : DiskB w B gd D) :
    Calls Tryz.prog 69 #[.pointer (some ⟨gd, 0, none⟩), sV n] w fun e w' => e = .returned (.int .i64 (onE D n)) ∧ DiskB w' B gd (synV D n) ∧ WT w w' (fun _ => False) ∧ Below B w w' :=
  stepW hB h fun S hS => sync_any G hF n hn w hS
theorem remW (G : GoodD D) (n : Bs) (hn : n.length ≤ 100000) (hB : B ≤ w.heap.size) (h : DiskB w B gd D) :
    Calls Tryz.prog 35 #[.pointer (some ⟨gd, 0, none⟩), sV n] w fun e w' => e = .returned (.int .i64 (onE D n)) ∧ DiskB w' B gd (remV D n) ∧ WT w w' (fun _ => False) ∧ Below B w w' :=
  stepW hB h fun S hS => remove_any G n hn w hS
end
end Go.Proofs.YtfpmcomigolacaaGreatDoor.wal
