/-
  A head, or a record, behind the others of a log's own rows.
  The contract of begin.
-/
import Derived.Test.YtfpmcomigolacaaGreatDoorJUw5
import Derived.Maps.AppendAt
set_option linter.unusedSimpArgs false
set_option linter.unusedVariables false
namespace Go.Proofs.YtfpmcomigolacaaGreatDoor.wal
open Go.ChangeShapes Go.WideShapes Go.ChangeAt Go.RowKit Go.Maps Go.WideMaps
open Go.Proofs.YtfpmcomigolacaaGreatDoor.opened Go.Proofs.YtfpmcomigolacaaGreatDoor.block Go.Proofs.YtfpmcomigolacaaGreatDoor.words Go.Proofs.YtfpmcomigolacaaGreatDoor.disk Go.Proofs.YtfpmcomigolacaaGreatDoor.tailed Go.Proofs.YtfpmcomigolacaaGreatDoor.enc Go.Proofs.YtfpmcomigolacaaGreatDoor.code
/-- What a call leaves that writes in a log's own blocks (and in the disk's). -/
structure LTurn (B gl gd : Nat) (A R : Option Addr) (M : Lg) (D' : Dk) (w w' : World) : Prop where
  log : ∃ A' c' R' d', LogE w' gl gd M A' c' R' d' ∧ ∀ k, lblk gl A' R' k → lblk gl A R k ∨ w.heap.size ≤ k
  disk : DiskB w' B gd D'
  wt : WT w w' (lblk gl A R)
  below : Below B w w'
theorem int_parts : ∃ i, Tryz.prog.info? 3 = some i ∧ i.zero = some (.int .i64 0) ∧ i.size = 1 ∧ i.bytes = 8 := by
  have h := info3
  rw [Option.map_eq_some_iff] at h
  obtain ⟨i, hi, he⟩ := h
  simp only [Prod.mk.injEq] at he
  exact ⟨i, hi, he.1, he.2.1, he.2.2⟩
section
variable {gl gd : Nat} {L : Lg} {A : Option Addr} {c : Nat} {R : Option Addr} {d : Nat} {w : World} {B : Nat} {D : Dk}
theorem row_ne (h : LogE w gl gd L A c R d) : (∀ a, A = some a → a.block ≠ gl) ∧ (∀ a, R = some a → a.block ≠ gl) ∧ ∀ a b, A = some a → R = some b → a.block ≠ b.block := by
  refine ⟨fun a ha e => ?_, fun a ha e => ?_, fun a b ha hb e => ?_⟩
  · obtain ⟨cs, q⟩ := own_type h.heads (blk_own ha)
    rw [e] at q
    exact absurd (whole_type q h.cells) (by decide)
  · obtain ⟨cs, q⟩ := own_type h.recs (blk_own ha)
    rw [e] at q
    exact absurd (whole_type q h.cells) (by decide)
  · obtain ⟨cs, q⟩ := own_type h.heads (blk_own ha)
    obtain ⟨cs2, q2⟩ := own_type h.recs (blk_own hb)
    rw [e] at q
    exact absurd (whole_type q q2) (by decide)
/-- Blocks that are as they were; the log's own block with one cell set. -/
theorem old_heap {w w3 : World} {o : Obj} {row : Option Nat} (hg : (w.alloc o).grownBy w3 row) (i : Nat) (v : Value) {k : Nat} (hk : k < w.heap.size) (h1 : k ≠ gl) (h2 : some k ≠ row) : (w3.setCell ⟨gl, i, none⟩ v).heap[k]? = w.heap[k]? :=
  (Below.heap_setCell w3 _ v k (by simpa using h1)).trans ((hg.block k (by simp; omega) h2).trans (Below.heap_alloc w o k hk))
theorem push_end (h : LogE w gl gd L A c R d) (hD : DiskB w B gd D) (hB : B ≤ w.heap.size) (hlb : ∀ k, lblk gl A R k → B ≤ k) {w3 : World} {o : Obj} {row : Option Nat} (hg : (w.alloc o).grownBy w3 row) (hrow : ∀ k, row = some k → lblk gl A R k) (i : Nat) (v : Value) :
    DiskB (w3.setCell ⟨gl, i, none⟩ v) B gd D ∧ WT w (w3.setCell ⟨gl, i, none⟩ v) (lblk gl A R) ∧ Below B w (w3.setCell ⟨gl, i, none⟩ v) := by
  have hsz : w.heap.size ≤ (w3.setCell ⟨gl, i, none⟩ v).heap.size := by have := hg.size; simp [World.setCell] at this ⊢; omega
  have hos : (w3.setCell ⟨gl, i, none⟩ v).os = w.os ∧ (w3.setCell ⟨gl, i, none⟩ v).tape = w.tape ∧ (w3.setCell ⟨gl, i, none⟩ v).output = w.output := ⟨hg.os, hg.tape, hg.output⟩
  have old : ∀ k, k < w.heap.size → ¬ lblk gl A R k → (w3.setCell ⟨gl, i, none⟩ v).heap[k]? = w.heap[k]? := fun k hk hn => old_heap hg i v hk (fun e => hn (.inl e)) (fun e => hn (hrow k e.symm))
  refine ⟨?_, ⟨hos.1, hos.2.1, hos.2.2, hsz, fun k o' ho hn _ => (old k (Array.getElem?_eq_some_iff.1 ho).1 hn).trans ho⟩, ⟨hos.1, hos.2.1, hos.2.2, hsz, fun k hk => old k (by omega) (fun hn => by have := hlb k hn; omega)⟩⟩
  obtain ⟨mb, E, h1, h2⟩ := hD
  refine ⟨mb, E, h1.same fun k hk => old k (h1.inside hk) fun hn => ?_, h2⟩
  obtain ⟨t, cs, q1, q2⟩ := h.obj hn
  obtain ⟨o', q3, q4⟩ := disk_obj h1 hk
  rw [q1] at q3
  cases q3
  exact not_dobj (tyL q2).1 (tyL q2).2 q4
theorem push_heads (h : LogE w gl gd L A c R d) (hD : DiskB w B gd D) (hB : B ≤ w.heap.size) (hlb : ∀ k, lblk gl A R k → B ≤ k) (x : Int) (hl : L.heads.length ≤ 100000) :
    ∃ A' c' w', (Builtin.append_ #[23, 23] 23 #[.slice A L.heads.length c, .slice (some ⟨w.heap.size, 0, none⟩) 1 1]).run Tryz.prog (w.alloc (.cells #[.int .i64 x] 3)) = .ok (.slice A' (L.heads.length + 1) c') w' ∧
      w'.cell? ⟨gl, 4, none⟩ = some (.slice A L.heads.length c) ∧ w'.frozen? ⟨gl, 4, none⟩ = false ∧
      LTurn B gl gd A R { L with heads := L.heads ++ [x] } D w (w'.setCell ⟨gl, 4, none⟩ (.slice A' (L.heads.length + 1) c')) := by
  obtain ⟨i0, hi, hz0, hz1, hz2⟩ := int_parts
  obtain ⟨n1, n2, n3⟩ := row_ne h
  have hgl := h.cells.inside
  have h2 : (w.alloc (.cells #[.int .i64 x] 3)).ownsRow 0 3 1 (.slice A L.heads.length c) L.heads.length (L.heads.map (Value.int .i64)) := own_same h.heads fun k hk => Below.heap_alloc w _ k (by
    obtain ⟨cs, q⟩ := own_type h.heads hk
    exact q.inside)
  obtain ⟨v', w3, hr, ho, hg, hnil, hat⟩ := run_append_own_at (P := Tryz.prog) (w.alloc (.cells #[.int .i64 x] 3)) 0 23 23 3 i0 (.int .i64 0) 1 8 Tryz.underlying23 hi hz0 hz1 hz2 rfl (by decide) _ _ _ h2 ⟨w.heap.size, 0, none⟩ 1 1 [.int .i64 x] rfl (cell_one_new _ _ _) (fun u hu => by rw [List.mem_singleton] at hu; subst hu; rfl) (by unfold maxLen; omega) (by omega) (Nat.zero_le _)
  obtain ⟨A', c', rfl⟩ := own_shape ho
  have row : ∀ k, (Value.slice A L.heads.length c).ownBlock = some k → lblk gl A R k := fun k hk => .inr (.inl (own_blk hk))
  have hrowA : ∀ k, (Value.slice A L.heads.length c).ownBlock = some k → k ≠ gl := fun k hk => by obtain ⟨a, e1, rfl⟩ := own_blk hk; exact n1 a e1
  have hA' : ∀ a, A' = some a → (∃ b, A = some b ∧ a.block = b.block) ∨ a.block = w.heap.size + 1 := fun a ha => by
    rcases hat with e | e
    · rw [blk_own ha] at e
      exact .inl (own_blk e.symm)
    · rw [blk_own ha] at e
      right
      simpa using e
  have C3 : Whole w3 gl 67 _ := ((hg.block gl (by simp; omega) (fun e => hrowA gl e.symm rfl)).trans (Below.heap_alloc w _ gl hgl)).trans h.cells
  refine ⟨A', c', w3, hr, C3.read 4, C3.soft 4, ⟨A', c', R, d, ⟨?_, ?_, ?_⟩, fun k hk => ?_⟩, ?_, ?_, ?_⟩
  · have := C3.store 4 (.slice A' (L.heads.length + 1) c')
    show Whole _ gl 67 #[.pointer (some ⟨gd, 0, none⟩), sV L.nm, .int .i64 L.per, .int .i64 L.least, .slice A' (L.heads ++ [x]).length c', .slice R L.recs.length d, .bool L.torn, .int .i64 L.syn, .bool L.fail]
    rw [List.length_append]
    exact this
  · have : (L.heads ++ [x]).map (Value.int .i64) = L.heads.map (Value.int .i64) ++ [.int .i64 x] := by simp
    show World.ownsRow _ 0 3 1 (.slice A' (L.heads ++ [x]).length c') (L.heads ++ [x]).length _
    rw [this, List.length_append]
    refine own_same ho fun k hk => Below.heap_setCell w3 _ _ k fun e => ?_
    obtain ⟨cs, q⟩ := own_type ho hk
    have e' : k = gl := e
    rw [e'] at q
    exact absurd (whole_type q C3) (by decide)
  · refine own_same h.recs fun k hk => ?_
    obtain ⟨a, e1, rfl⟩ := own_blk hk
    have hlt : a.block < w.heap.size := by obtain ⟨cs, q⟩ := own_type h.recs hk; exact q.inside
    exact old_heap hg 4 _ hlt (n2 a e1) (fun e => by obtain ⟨b, e2, e3⟩ := own_blk e.symm; exact n3 b a e2 e1 e3.symm)
  · rcases hk with rfl | ⟨a, e1, rfl⟩ | ⟨a, e1, rfl⟩
    · exact .inl (.inl rfl)
    · rcases hA' a e1 with ⟨b, e2, e3⟩ | e3
      · exact .inl (.inr (.inl ⟨b, e2, e3⟩))
      · exact .inr (by omega)
    · exact .inl (.inr (.inr ⟨a, e1, rfl⟩))
  · exact (push_end h hD hB hlb hg row 4 _).1
  · exact (push_end h hD hB hlb hg row 4 _).2.1
  · exact (push_end h hD hB hlb hg row 4 _).2.2
theorem push_recs (h : LogE w gl gd L A c R d) (hD : DiskB w B gd D) (hB : B ≤ w.heap.size) (hlb : ∀ k, lblk gl A R k → B ≤ k) (x : Bs) (hl : L.recs.length ≤ 1000000000) :
    ∃ A' c' w', (Builtin.append_ #[45, 45] 45 #[.slice R L.recs.length d, .slice (some ⟨w.heap.size, 0, none⟩) 1 1]).run Tryz.prog (w.alloc (.cells #[sV x] 9)) = .ok (.slice A' (L.recs.length + 1) c') w' ∧
      w'.cell? ⟨gl, 5, none⟩ = some (.slice R L.recs.length d) ∧ w'.frozen? ⟨gl, 5, none⟩ = false ∧
      LTurn B gl gd A R { L with recs := L.recs ++ [x] } D w (w'.setCell ⟨gl, 5, none⟩ (.slice A' (L.recs.length + 1) c')) := by
  obtain ⟨i0, hi, hz0, hz1, hz2⟩ := infoS_parts
  obtain ⟨n1, n2, n3⟩ := row_ne h
  have hgl := h.cells.inside
  have h2 : (w.alloc (.cells #[sV x] 9)).ownsRow 0 9 1 (.slice R L.recs.length d) L.recs.length (L.recs.map sV) := own_same h.recs fun k hk => Below.heap_alloc w _ k (by
    obtain ⟨cs, q⟩ := own_type h.recs hk
    exact q.inside)
  obtain ⟨v', w3, hr, ho, hg, hnil, hat⟩ := run_append_own_at (P := Tryz.prog) (w.alloc (.cells #[sV x] 9)) 0 45 45 9 i0 (.string ByteArray.empty) 1 16 Tryz.underlying45 hi hz0 hz1 hz2 rfl (by decide) _ _ _ h2 ⟨w.heap.size, 0, none⟩ 1 1 [sV x] rfl (cell_one_new _ _ _) (fun u hu => by rw [List.mem_singleton] at hu; subst hu; rfl) (by unfold maxLen; omega) (by omega) (Nat.zero_le _)
  obtain ⟨A', c', rfl⟩ := own_shape ho
  have row : ∀ k, (Value.slice R L.recs.length d).ownBlock = some k → lblk gl A R k := fun k hk => .inr (.inr (own_blk hk))
  have hrowA : ∀ k, (Value.slice R L.recs.length d).ownBlock = some k → k ≠ gl := fun k hk => by obtain ⟨a, e1, rfl⟩ := own_blk hk; exact n2 a e1
  have hA' : ∀ a, A' = some a → (∃ b, R = some b ∧ a.block = b.block) ∨ a.block = w.heap.size + 1 := fun a ha => by
    rcases hat with e | e
    · rw [blk_own ha] at e
      exact .inl (own_blk e.symm)
    · rw [blk_own ha] at e
      right
      simpa using e
  have C3 : Whole w3 gl 67 _ := ((hg.block gl (by simp; omega) (fun e => hrowA gl e.symm rfl)).trans (Below.heap_alloc w _ gl hgl)).trans h.cells
  refine ⟨A', c', w3, hr, C3.read 5, C3.soft 5, ⟨A, c, A', c', ⟨?_, ?_, ?_⟩, fun k hk => ?_⟩, ?_, ?_, ?_⟩
  · have := C3.store 5 (.slice A' (L.recs.length + 1) c')
    show Whole _ gl 67 #[.pointer (some ⟨gd, 0, none⟩), sV L.nm, .int .i64 L.per, .int .i64 L.least, .slice A L.heads.length c, .slice A' (L.recs ++ [x]).length c', .bool L.torn, .int .i64 L.syn, .bool L.fail]
    rw [List.length_append]
    exact this
  · refine own_same h.heads fun k hk => ?_
    obtain ⟨a, e1, rfl⟩ := own_blk hk
    have hlt : a.block < w.heap.size := by obtain ⟨cs, q⟩ := own_type h.heads hk; exact q.inside
    exact old_heap hg 5 _ hlt (n1 a e1) (fun e => by obtain ⟨b, e2, e3⟩ := own_blk e.symm; exact n3 a b e1 e2 e3)
  · have : (L.recs ++ [x]).map sV = L.recs.map sV ++ [sV x] := by simp
    show World.ownsRow _ 0 9 1 (.slice A' (L.recs ++ [x]).length c') (L.recs ++ [x]).length _
    rw [this, List.length_append]
    refine own_same ho fun k hk => Below.heap_setCell w3 _ _ k fun e => ?_
    obtain ⟨cs, q⟩ := own_type ho hk
    have e' : k = gl := e
    rw [e'] at q
    exact absurd (whole_type q C3) (by decide)
  · rcases hk with rfl | ⟨a, e1, rfl⟩ | ⟨a, e1, rfl⟩
    · exact .inl (.inl rfl)
    · exact .inl (.inr (.inl ⟨a, e1, rfl⟩))
    · rcases hA' a e1 with ⟨b, e2, e3⟩ | e3
      · exact .inl (.inr (.inr ⟨b, e2, e3⟩))
      · exact .inr (by omega)
  · exact (push_end h hD hB hlb hg row 5 _).1
  · exact (push_end h hD hB hlb hg row 5 _).2.1
  · exact (push_end h hD hB hlb hg row 5 _).2.2
end
end Go.Proofs.YtfpmcomigolacaaGreatDoor.wal
set_option linter.unusedSimpArgs false
set_option linter.unusedVariables false
namespace Go.Proofs.YtfpmcomigolacaaGreatDoor.wal
open Go.ChangeShapes Go.WideShapes Go.ChangeAt Go.RowKit Go.Maps Go.WideMaps
open Go.Proofs.YtfpmcomigolacaaGreatDoor.opened Go.Proofs.YtfpmcomigolacaaGreatDoor.block Go.Proofs.YtfpmcomigolacaaGreatDoor.words Go.Proofs.YtfpmcomigolacaaGreatDoor.disk Go.Proofs.YtfpmcomigolacaaGreatDoor.tailed Go.Proofs.YtfpmcomigolacaaGreatDoor.enc Go.Proofs.YtfpmcomigolacaaGreatDoor.code
theorem syn_F' (D : Dk) (n : Bs) : (synV D n).F.length ≤ D.F.length + 1 := by
  unfold synV
  split
  · show (put _ D.F).length ≤ _
    rw [(put_perm _ _).length_eq, List.length_cons]
    have : (del n D.F).length ≤ D.F.length := List.length_filter_le _ _
    show (del n D.F).length + 1 ≤ _
    omega
  · unfold onV
    split
    · rw [stpV_F]; omega
    · omega
theorem good_syD {D : Dk} (G : GoodD D) (L : Lg) : GoodD (syD L D) ∧ (syD L D).F.length ≤ D.F.length + 1 := by
  unfold syD slD
  split
  · exact ⟨G, by omega⟩
  split
  · exact ⟨G, by omega⟩
  split
  · exact ⟨G, by omega⟩
  split
  · exact ⟨G, by omega⟩
  split
  · exact ⟨G, by omega⟩
  · exact ⟨good_syn G _, syn_F' _ _⟩
section
variable {gl gd : Nat} {L : Lg} {A : Option Addr} {c : Nat} {R : Option Addr} {d : Nat} {w : World} {B : Nat} {D : Dk}
theorem lturn_of {M : Lg} {D' : Dk} {w' : World} (hM : LogE w' gl gd M A c R d) (hD : DiskB w' B gd D') (ht : WT w w' (fun k => k = gl)) (hb : Below B w w') : LTurn B gl gd A R M D' w w' :=
  ⟨⟨A, c, R, d, hM, fun k hk => .inl hk⟩, hD, ht.wide fun k e => .inl e, hb⟩
theorem LTurn.trans {M M' : Lg} {D1 D2 : Dk} {w1 w2 : World} (h : LTurn B gl gd A R M D1 w w1) (k : ∀ A' c' R' d', LogE w1 gl gd M A' c' R' d' → (∀ j, lblk gl A' R' j → lblk gl A R j ∨ w.heap.size ≤ j) → LTurn B gl gd A' R' M' D2 w1 w2) : LTurn B gl gd A R M' D2 w w2 := by
  obtain ⟨A', c', R', d', h1, h2⟩ := h.log
  have K := k A' c' R' d' h1 h2
  have hs := h.wt.size
  refine ⟨?_, K.disk, h.wt.trans K.wt h2, h.below.trans K.below⟩
  obtain ⟨A2, c2, R2, d2, k1, k2⟩ := K.log
  refine ⟨A2, c2, R2, d2, k1, fun j hj => ?_⟩
  rcases k2 j hj with q | q
  · exact h2 j q
  · exact .inr (by omega)
/-- A read ahead of it, or behind it. -/
theorem LTurn.pre {M : Lg} {D' : Dk} {w1 w' : World} (hb : Below w.heap.size w w1) (hB : B ≤ w.heap.size) (h : LTurn B gl gd A R M D' w1 w') : LTurn B gl gd A R M D' w w' := by
  obtain ⟨A', c', R', d', h1, h2⟩ := h.log
  have hs := hb.size
  refine ⟨⟨A', c', R', d', h1, fun k hk => ?_⟩, h.disk, (wt_below hb (lblk gl A R)).trans h.wt fun _ hf => .inl hf, (hb.mono hB).trans h.below⟩
  rcases h2 k hk with q | q
  · exact .inl q
  · exact .inr (by omega)
theorem LTurn.post {M : Lg} {D' : Dk} {w1 w' : World} (h : LTurn B gl gd A R M D' w w1) (hB : B ≤ w.heap.size) (hb : Below w1.heap.size w1 w') : LTurn B gl gd A R M D' w w' := by
  obtain ⟨A', c', R', d', h1, h2⟩ := h.log
  exact ⟨⟨A', c', R', d', h1.below hb, h2⟩, h.disk.below hb, h.wt.trans (wt_below hb (fun _ => False)) fun _ hf => hf.elim, h.below.trans (hb.mono (Nat.le_trans hB h.wt.size))⟩
/-- A call of the disk behind it. -/
theorem LTurn.disk_call {M : Lg} {D1 D2 : Dk} {w1 w2 : World} (h : LTurn B gl gd A R M D1 w w1) (k : DTurn B gd D2 w1 w2) : LTurn B gl gd A R M D2 w w2 := by
  obtain ⟨A', c', R', d', h1, h2⟩ := h.log
  exact ⟨⟨A', c', R', d', h1.wt k.wt fun _ _ hf => hf, h2⟩, k.disk, h.wt.trans k.wt fun _ hf => hf.elim, h.below.trans k.below⟩
theorem frame_le (s : Bs) (h : s.length ≤ 4096) : (frameL s).length ≤ 4110 := by rw [frame_len]; have := len_enc s.length; omega
set_option maxRecDepth 100000 in
set_option maxHeartbeats 2000000 in
theorem begin_any (G : GoodL L) (hn : nextN L ≤ 1125899906842624) (GD : GoodD D) (hF : D.F.length ≤ 998) (hE : EnvB B w) (h : LogE w gl gd L A c R d) (hD : DiskB w B gd D) (hlb : ∀ k, lblk gl A R k → B ≤ k) (s : Bs) (hs : s.length ≤ 4096) :
    Calls Tryz.prog 65 #[.pointer (some ⟨gl, 0, none⟩), sV s] w fun e w' => e = .returned (.int .i64 (bgE L D s)) ∧ LTurn B gl gd A R (bgL L D s) (bgD L D s) w w' := by
  have hB := hE.le
  have n0 := G.lo
  have n1 := G.hi
  have HNF := Lib.hid (nextFile_any G h)
  have HS : Hid (∀ w1, Below w.heap.size w w1 → Calls Tryz.prog 12 #[.pointer (some ⟨gl, 0, none⟩)] w1 fun e w' => e = .returned (.int .i64 (syE L D)) ∧ LogE w' gl gd (syL L D) A c R d ∧ LTurn B gl gd A R (syL L D) (syD L D) w w') := Lib.hid fun w1 b =>
    (sync_log G hn GD (by omega) (hE.below b) (h.below b) (hD.below b) (hlb gl (.inl rfl))).mono fun e w' ⟨e1, e2, e3, e4, e5⟩ => ⟨e1, e2, LTurn.pre b hB (lturn_of e2 e3 e4 e5)⟩
  have HT0 : Hid (∀ w1, Below w.heap.size w w1 → LTurn B gl gd A R L D w w1) := Lib.hid fun w1 b => lturn_of (h.below b) (hD.below b) (wt_below b _) (b.mono hB)
  have HE : Hid (bgE L D s = if 999 < nextF L then 2 else if syE L D ≠ 0 then syE L D else appE (syD L D) (fn L.nm (nextF L)) (newB L s)) := Lib.hid rfl
  have HDD : Hid (bgD L D s = if 999 < nextF L then D else if syE L D ≠ 0 then syD L D else appV (syD L D) (fn L.nm (nextF L)) (newB L s)) := Lib.hid rfl
  have HM : Hid (bgL L D s = if 999 < nextF L then L else if syE L D ≠ 0 then syL L D else if appE (syD L D) (fn L.nm (nextF L)) (newB L s) ≠ 0 then syL L D else { syL L D with heads := L.heads ++ [nextN L], torn := false }) := Lib.hid rfl
  obtain ⟨s1, s2, s3, s4, s5, s6⟩ := sy_fields L D
  obtain ⟨t1, t2, t3⟩ := sy_next L D
  have G1 := good_sy G D
  obtain ⟨GD1, hF1⟩ := good_syD GD L
  have hN0 : 0 ≤ nextN L := by have := G.base; unfold nextN; omega
  have hk0 : 0 ≤ nextF L := by unfold nextF; omega
  have hlen : L.heads.length ≤ 1000 := by unfold nextF at n1; omega
  -- behind Sync
  have HNx : Hid (∀ w1, LogE w1 gl gd (syL L D) A c R d → Calls Tryz.prog 16 #[.pointer (some ⟨gl, 0, none⟩)] w1 fun e w' => e = .returned (.int .i64 (nextN L)) ∧ Below w1.heap.size w1 w') := Lib.hid fun w1 k => by
    have := next_any G1 (by rw [t1]; exact hn) k
    rwa [t1] at this
  have HFi : Hid (∀ w1, LogE w1 gl gd (syL L D) A c R d → EnvB B w1 → Calls Tryz.prog 36 #[.pointer (some ⟨gl, 0, none⟩), .int .i64 (nextF L)] w1 fun e w' => e = .returned (sV (fn L.nm (nextF L))) ∧ Below w1.heap.size w1 w') := Lib.hid fun w1 k q => by
    have := file_any (by rw [s1]; exact G.len) (nextF L) hk0 (by omega) k q.env
    rwa [s1] at this
  have HNu : Hid (∀ w1, Calls Tryz.prog 76 #[.int .u64 (nextN L)] w1 fun e w' => e = .returned (sV (enc (nextN L).toNat)) ∧ Below w1.heap.size w1 w') := Lib.hid fun w1 => by
    have := num_any (nextN L).toNat (by omega) w1
    rwa [Int.toNat_of_nonneg hN0] at this
  have HFr : Hid (∀ w1, Calls Tryz.prog 67 #[sV (enc (nextN L).toNat)] w1 fun e w' => e = .returned (sV (frameL (enc (nextN L).toNat))) ∧ Below w1.heap.size w1 w') := Lib.hid fun w1 => frame_any _ (by have := len_enc (nextN L).toNat; omega) w1
  have HFs : Hid (∀ w1, Calls Tryz.prog 67 #[sV s] w1 fun e w' => e = .returned (sV (frameL s)) ∧ Below w1.heap.size w1 w') := Lib.hid fun w1 => frame_any s (by omega) w1
  have hl1 : (frameL (enc (nextN L).toNat)).length ≤ 4110 := frame_le _ (by have := len_enc (nextN L).toNat; omega)
  have hl2 : (frameL s).length ≤ 4110 := frame_le s hs
  have hfl : (fn L.nm (nextF L)).length ≤ 100000 := by have := fn_len (nm := L.nm) hk0 (by omega); have := G.len; omega
  have HAp : Hid (∀ w1, EnvB B w1 → DiskB w1 B gd (syD L D) → Calls Tryz.prog 66 #[.pointer (some ⟨gd, 0, none⟩), sV (fn L.nm (nextF L)), sV (newB L s)] w1 fun e w' => e = .returned (.int .i64 (appE (syD L D) (fn L.nm (nextF L)) (newB L s))) ∧ DTurn B gd (appV (syD L D) (fn L.nm (nextF L)) (newB L s)) w1 w') := Lib.hid fun w1 q k =>
    (appW GD1 (by omega) _ _ hfl (by unfold newB; rw [List.length_append]; omega) q.le k).mono fun e w' ⟨e1, e2, e3, e4⟩ => ⟨e1, ⟨e2, e3, e4⟩⟩
  have HPu : Hid (∀ w1 D2, LogE w1 gl gd (syL L D) A c R d → DiskB w1 B gd D2 → B ≤ w1.heap.size → ∃ A' c' w', (Builtin.append_ #[23, 23] 23 #[.slice A L.heads.length c, .slice (some ⟨w1.heap.size, 0, none⟩) 1 1]).run Tryz.prog (w1.alloc (.cells #[.int .i64 (nextN L)] 3)) = .ok (.slice A' (L.heads.length + 1) c') w' ∧
      w'.cell? ⟨gl, 4, none⟩ = some (.slice A L.heads.length c) ∧ w'.frozen? ⟨gl, 4, none⟩ = false ∧ LTurn B gl gd A R { syL L D with heads := L.heads ++ [nextN L] } D2 w1 (w'.setCell ⟨gl, 4, none⟩ (.slice A' (L.heads.length + 1) c'))) := Lib.hid fun w1 D2 k q hz => by
    have := push_heads k q hz hlb (nextN L) (by rw [s4]; omega)
    rwa [s4] at this
  have hsum : ∀ a b : Bs, (⟨a.toArray⟩ : ByteArray) ++ (⟨b.toArray⟩ : ByteArray) = ⟨(a ++ b).toArray⟩ := fun a b => ByteArray.ext (by simp)
  have hnb : newB L s = frameL (enc (nextN L).toNat) ++ frameL s := rfl
  have hEn : Hid (∀ w1, Below B w w1 → EnvB B w1) := Lib.hid fun w1 b => hE.step b
  have hwr : IntKind.u64.wrap (nextN L) = nextN L := by simp only [IntKind.wrap_u64]; omega
  have HTo : Hid (∀ w1 D2 A' c' R' d', LogE w1 gl gd { syL L D with heads := L.heads ++ [nextN L] } A' c' R' d' → DiskB w1 B gd D2 → B ≤ w1.heap.size → w1.cell? ⟨gl, 6, none⟩ = some (.bool L.torn) ∧ w1.frozen? ⟨gl, 6, none⟩ = false ∧
      LTurn B gl gd A' R' { syL L D with heads := L.heads ++ [nextN L], torn := false } D2 w1 (w1.setCell ⟨gl, 6, none⟩ (.bool false))) := Lib.hid fun w1 D2 A' c' R' d' k q hz => by
    obtain ⟨u1, u2⟩ := k.set 6 (.bool false) { syL L D with heads := L.heads ++ [nextN L], torn := false } rfl rfl rfl
    refine ⟨by have := k.cells.read 6; rw [this]; show some (Value.bool (syL L D).torn) = _; rw [s6], k.cells.soft 6, lturn_of u1 (DiskB.own q u2 fun j e _ => ?_) (wt_grown u2 fun j e => ?_) ((Below.refl B w1).grown u2 hz fun j e => ?_)⟩
    · cases e
      exact ⟨_, _, k.cells, by decide, by decide⟩
    · cases e
      rfl
    · cases e
      exact hlb gl (.inl rfl)
  have c0 : Hid (∀ w1, LogE w1 gl gd (syL L D) A c R d → w1.cell? ⟨gl, 0, none⟩ = some (.pointer (some ⟨gd, 0, none⟩)) ∧ w1.frozen? ⟨gl, 0, none⟩ = false) := Lib.hid fun w1 k => ⟨k.cells.read 0, k.cells.soft 0⟩
  have HC4 : Hid (∀ w1, LogE w1 gl gd (syL L D) A c R d → w1.cell? ⟨gl, 4, none⟩ = some (.slice A L.heads.length c) ∧ w1.frozen? ⟨gl, 4, none⟩ = false) := Lib.hid fun w1 k => ⟨by have := k.cells.read 4; rw [this]; show some (Value.slice A (syL L D).heads.length c) = _; rw [s4], k.cells.soft 4⟩
  have hnm : (newB L s).length ≤ 8220 := by rw [hnb, List.length_append]; omega
  clear h hD hE G GD hF G1 GD1 hF1 hs n0 n1 t1 t2 t3 s1 s2 s3 s5 s6 hlb
  rw [hnb] at HE HDD HM HAp
  clear hnb hnm hfl
  generalize bgE L D s = be at HE ⊢
  generalize bgL L D s = bl at HM ⊢
  generalize bgD L D s = bd at HDD ⊢
  generalize fn L.nm (nextF L) = fname at HE HDD HM HFi HAp
  generalize frameL (enc (nextN L).toNat) = P at HE HDD HM HFr hl1 HAp
  generalize frameL s = Q at HE HDD HM HFs hl2 HAp
  generalize enc (nextN L).toNat = eh at HNu HFr
  have ha := hsum P Q
  clear hsum
  generalize appE (syD L D) fname (P ++ Q) = ae at HE HM HAp
  generalize appV (syD L D) fname (P ++ Q) = av at HDD HAp
  generalize ({ syL L D with heads := L.heads ++ [nextN L], torn := false } : Lg) = M2 at HM HTo
  generalize ({ syL L D with heads := L.heads ++ [nextN L] } : Lg) = M3 at HPu HTo
  generalize L.torn = tor at HTo
  generalize syL L D = L1 at HS HM HNx HFi HPu c0 HC4
  generalize syD L D = D1 at HS HDD HAp
  generalize syE L D = e1 at HS HE HDD HM
  generalize nextF L = nf at HNF HE HDD HM HFi hk0
  generalize nextN L = nx at hn HNx HNu HPu hwr hN0
  by_cases q1 : 999 < nf
  · have r1 := HE.out
    have r2 := HDD.out
    have r3 := HM.out
    rw [if_pos q1] at r1 r2 r3
    subst r1 r2 r3
    clear HE HDD HM HS HNx HFi HNu HFr HFs HAp HPu HTo c0 ha HC4
    go_enter Tryz.func65, Tryz.ntmps65
    go_wp2_with (go_at_call 57; refine HNF.out.mono ?_; rintro e w1 ⟨rfl, b1⟩; have B1 := Lib.hid b1; clear b1)
    go_ret
    exact ⟨rfl, HT0.out _ B1.out⟩
  have r1 := HE.out
  have r2 := HDD.out
  have r3 := HM.out
  rw [if_neg q1] at r1 r2 r3
  clear HE HDD HM HT0
  by_cases q2 : e1 = 0
  case neg =>
    rw [if_pos q2] at r1 r2 r3
    subst r1 r2 r3
    have q3 : (be != 0) = true := by simpa using q2
    clear HNx HFi HNu HFr HFs HAp HPu HTo c0 ha q2 HC4
    go_enter Tryz.func65, Tryz.ntmps65
    go_wp2_with (first
      | (go_at_call 57; refine HNF.out.mono ?_; rintro e w1 ⟨rfl, b1⟩; have B1 := Lib.hid b1; clear b1)
      | (go_at_call 12; refine (HS.out _ B1.out).mono ?_; rintro e w2 ⟨rfl, l2, t2⟩; have T2 := Lib.hid t2; clear l2 t2))
    go_ret
    exact ⟨rfl, T2.out⟩
  subst q2
  rw [if_neg (by simp)] at r1 r2 r3
  subst r1 r2
  have hab : ¬ 9223372036854775807 < P.length + Q.length := by omega
  have pre : Hid (∀ w2 w4, LTurn B gl gd A R L1 D1 w w2 → LogE w2 gl gd L1 A c R d → Below w2.heap.size w2 w4 → LTurn B gl gd A R L1 D1 w w4 ∧ LogE w4 gl gd L1 A c R d ∧ EnvB B w4) := Lib.hid fun w2 w4 t l b => by
    have t4 := t.post hB b
    exact ⟨t4, l.below b, hEn.out w4 t4.below⟩
  by_cases q4 : be = 0
  case neg =>
    rw [if_pos q4] at r3
    subst r3
    have q5 : (be != 0) = true := by simpa using q4
    clear HPu HTo q4 HC4
    go_enter Tryz.func65, Tryz.ntmps65
    go_upto_region 8 with (first
      | (go_at_call 57; refine HNF.out.mono ?_; rintro e w1 ⟨rfl, b1⟩; have B1 := Lib.hid b1; clear b1)
      | (go_at_call 16; refine (HNx.out _ L2.out).mono ?_; rintro e w3 ⟨rfl, b3⟩; have B3 := Lib.hid b3; clear b3)
      | (go_at_call 12; refine (HS.out _ B1.out).mono ?_; rintro e w2 ⟨rfl, l2, t2⟩; have T2 := Lib.hid t2; have L2 := Lib.hid l2; clear l2 t2))
    obtain ⟨T3, L3, E3⟩ := pre.out _ _ T2.out L2.out B3.out
    have c0x : ∀ x : Since w3, x.1.cell? ⟨gl, 0, none⟩ = some (.pointer (some ⟨gd, 0, none⟩)) := fun x => (c0.out _ (L3.below x.2)).1
    have f0x : ∀ x : Since w3, x.1.frozen? ⟨gl, 0, none⟩ = false := fun x => (c0.out _ (L3.below x.2)).2
    have HFi3 : Hid (∀ w1, Below w3.heap.size w3 w1 → Calls Tryz.prog 36 #[.pointer (some ⟨gl, 0, none⟩), .int .i64 nf] w1 fun e w' => e = .returned (sV fname) ∧ Below w1.heap.size w1 w') := Lib.hid fun w1 b => HFi.out w1 (L3.below b) (E3.below b)
    have HT3 := Lib.hid T3
    have HL3 := Lib.hid L3
    have HE3 := Lib.hid E3
    clear T3 L3 E3
    refine region_since_tail w3 14 (by kernel_rfl) (by kernel_rfl) (Below.refl _ _) ?_
    simp only [List.take_succ_cons, List.take_zero, List.drop_succ_cons, List.drop_zero]
    repeat (go_big_quiet_step ((first
      | (go_at_call 36; with_reducible exact since_callW HFi3.out _)
      | (go_at_call 76; with_reducible exact since_call HNu.out _)
      | (go_at_call 67; first | with_reducible exact since_call HFr.out _ | with_reducible exact since_call HFs.out _))))
    refine wpQuiet_nil ?_
    rintro w4 ⟨z, rfl⟩
    have hz4 := z.2
    obtain ⟨w5, hw5⟩ : ∃ w5, w5 = z.1 := ⟨_, rfl⟩
    have T5 := Lib.hid (HT3.out.post hB (hw5 ▸ hz4))
    have E5 := Lib.hid (HE3.out.below (hw5 ▸ hz4))
    have L5 := Lib.hid (HL3.out.below (hw5 ▸ hz4))
    rw [← hw5]
    clear hw5 hz4 z c0x f0x HFi3 HT3 HL3 HE3
    go_wp2_with (go_at_call 66; refine (HAp.out _ E5.out T5.out.disk).mono ?_; rintro e w6 ⟨rfl, t6⟩; have T6 := Lib.hid (T5.out.disk_call t6); clear t6)
    go_ret
    exact ⟨rfl, T6.out⟩
  subst q4
  rw [if_neg (by simp)] at r3
  subst r3
  go_enter Tryz.func65, Tryz.ntmps65
  go_upto_region 8 with (first
    | (go_at_call 57; refine HNF.out.mono ?_; rintro e w1 ⟨rfl, b1⟩; have B1 := Lib.hid b1; clear b1)
    | (go_at_call 16; refine (HNx.out _ L2.out).mono ?_; rintro e w3 ⟨rfl, b3⟩; have B3 := Lib.hid b3; clear b3)
    | (go_at_call 12; refine (HS.out _ B1.out).mono ?_; rintro e w2 ⟨rfl, l2, t2⟩; have T2 := Lib.hid t2; have L2 := Lib.hid l2; clear l2 t2))
  obtain ⟨T3, L3, E3⟩ := pre.out _ _ T2.out L2.out B3.out
  have c0x : ∀ x : Since w3, x.1.cell? ⟨gl, 0, none⟩ = some (.pointer (some ⟨gd, 0, none⟩)) := fun x => (c0.out _ (L3.below x.2)).1
  have f0x : ∀ x : Since w3, x.1.frozen? ⟨gl, 0, none⟩ = false := fun x => (c0.out _ (L3.below x.2)).2
  have HFi3 : Hid (∀ w1, Below w3.heap.size w3 w1 → Calls Tryz.prog 36 #[.pointer (some ⟨gl, 0, none⟩), .int .i64 nf] w1 fun e w' => e = .returned (sV fname) ∧ Below w1.heap.size w1 w') := Lib.hid fun w1 b => HFi.out w1 (L3.below b) (E3.below b)
  have HT3 := Lib.hid T3
  have HL3 := Lib.hid L3
  have HE3 := Lib.hid E3
  clear T3 L3 E3
  refine region_since_tail w3 14 (by kernel_rfl) (by kernel_rfl) (Below.refl _ _) ?_
  simp only [List.take_succ_cons, List.take_zero, List.drop_succ_cons, List.drop_zero]
  repeat (go_big_quiet_step ((first
    | (go_at_call 36; with_reducible exact since_callW HFi3.out _)
    | (go_at_call 76; with_reducible exact since_call HNu.out _)
    | (go_at_call 67; first | with_reducible exact since_call HFr.out _ | with_reducible exact since_call HFs.out _))))
  refine wpQuiet_nil ?_
  rintro w4 ⟨z, rfl⟩
  have hz4 := z.2
  obtain ⟨w5, hw5⟩ : ∃ w5, w5 = z.1 := ⟨_, rfl⟩
  have T5 := Lib.hid (HT3.out.post hB (hw5 ▸ hz4))
  have E5 := Lib.hid (HE3.out.below (hw5 ▸ hz4))
  have L5 := Lib.hid (HL3.out.below (hw5 ▸ hz4))
  rw [← hw5]
  clear hw5 hz4 z c0x f0x HFi3 HT3 HL3 HE3
  go_upto_region 11 with (go_at_call 66; refine (HAp.out _ E5.out T5.out.disk).mono ?_; rintro e w6 ⟨rfl, t6⟩; have T6 := Lib.hid (T5.out.disk_call t6); have L6 := Lib.hid (L5.out.wt t6.wt fun _ _ hf => hf); clear t6)
  obtain ⟨A', c', w7, hap, c4, f4, t8⟩ := HPu.out w6 _ L6.out T6.out.disk (Nat.le_trans hB T6.out.wt.size)
  obtain ⟨c4x, f4x⟩ : w6.cell? ⟨gl, 4, none⟩ = some (.slice A L.heads.length c) ∧ w6.frozen? ⟨gl, 4, none⟩ = false := HC4.out _ L6.out
  have T8 := Lib.hid t8
  clear t8
  go_upto_region 12 with (at_builtin; refine wpList_append_run rfl _ _ 23 23 rfl rfl rfl hap ?_)
  generalize w7.setCell ⟨gl, 4, none⟩ (.slice A' (L.heads.length + 1) c') = w8 at T8 ⊢
  clear hap c4 f4 c4x f4x
  obtain ⟨A2, c2, R2, d2, l8, i8⟩ := T8.out.log
  obtain ⟨c6, f6, t9⟩ := HTo.out w8 _ A2 c2 R2 d2 l8 T8.out.disk (Nat.le_trans hB (Nat.le_trans T6.out.wt.size T8.out.wt.size))
  have HI8 := Lib.hid i8
  have HL8 := Lib.hid l8
  have HT9 := Lib.hid t9
  clear l8 i8 t9
  go_wp2_with fail
  go_ret
  have T10 : LTurn B gl gd A R bl bd w6 _ := ⟨by
    obtain ⟨A3, c3, R3, d3, k1, k2⟩ := HT9.out.log
    refine ⟨A3, c3, R3, d3, k1, fun k hk => ?_⟩
    rcases k2 k hk with q | q
    · exact HI8.out k q
    · exact .inr (Nat.le_trans T8.out.wt.size q), HT9.out.disk, T8.out.wt.trans HT9.out.wt HI8.out, T8.out.below.trans HT9.out.below⟩
  obtain ⟨A3, c3, R3, d3, k1, k2⟩ := T10.log
  refine ⟨rfl, ⟨A3, c3, R3, d3, k1, fun k hk => ?_⟩, T10.disk, T6.out.wt.trans T10.wt fun j hj => .inl hj, T6.out.below.trans T10.below⟩
  rcases k2 k hk with q | q
  · exact .inl q
  · exact .inr (Nat.le_trans T6.out.wt.size q)
end
end Go.Proofs.YtfpmcomigolacaaGreatDoor.wal
