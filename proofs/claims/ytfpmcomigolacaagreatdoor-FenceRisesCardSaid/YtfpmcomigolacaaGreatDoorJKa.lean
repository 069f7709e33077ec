/-
  The contract of Append.
  slices.Clone of a file's bytes.
-/
import Derived.Test.YtfpmcomigolacaaGreatDoorJKs
import Derived.Lib.SliceRun
set_option linter.unusedSimpArgs false
set_option linter.unusedVariables false
namespace Go.Proofs.YtfpmcomigolacaaGreatDoor.disk
open Go.ChangeShapes Go.WideShapes Go.ChangeAt Go.RowKit Go.Maps Go.WideMaps
open Go.Proofs.YtfpmcomigolacaaGreatDoor.words Go.Proofs.YtfpmcomigolacaaGreatDoor.opened Go.Proofs.YtfpmcomigolacaaGreatDoor.block

theorem info5 : (Tryz.prog.info? 5).map (fun i => (i.zero, i.size, i.bytes)) = some (some (.int .u8 0), 1, 1) := by kernel_rfl
set_option maxRecDepth 100000 in
/-- append of a text to a file's bytes: in the row that is the file's, or in a new one. -/
theorem app_own {w : World} {e : Fe} (h : RowE w e) (s : Bs) (hl : e.f.b.length + s.length ≤ 1000000) (l : Nat) (n : Bs) (ty : TypeId) :
    ∃ (A' : Option Addr) (c' : Nat) (w' : World), (Builtin.append_ #[77, 9] ty #[.slice e.A e.f.b.length e.c, sV s]).run Tryz.prog w = .ok (.slice A' (e.f.b ++ s).length c') w' ∧ RowE w' ⟨⟨n, e.f.b ++ s, l⟩, A', c'⟩ ∧ w.grownBy w' (e.A.map Addr.block) ∧
      ∀ a, A' = some a → e.A = some a ∨ w.heap.size ≤ a.block := by
  obtain ⟨i, hi, hz, h1, h2⟩ : ∃ i, Tryz.prog.info? 5 = some i ∧ i.zero = some (.int .u8 0) ∧ i.size = 1 ∧ i.bytes = 1 := by
    have h := info5
    rw [Option.map_eq_some_iff] at h
    obtain ⟨i, hi, he⟩ := h
    simp only [Prod.mk.injEq] at he
    exact ⟨i, hi, he.1, he.2.1, he.2.2⟩
  have hsz : (⟨s.toArray⟩ : ByteArray).size = s.length := by show s.toArray.size = _; simp
  have hss : Lib.strCells ⟨s.toArray⟩ = bsC s := bsC_str s
  obtain ⟨v', w', hr, ho, hg, hnil⟩ := Lib.run_append_own_string (P := Tryz.prog) w 0 77 9 ty 5 i Tryz.underlying77 Tryz.underlying9 hi hz h1 h2 (.slice e.A e.f.b.length e.c) e.f.b.length (bsC e.f.b) h.1 ⟨s.toArray⟩
    (by rw [hsz]; unfold maxLen; omega) (by rw [hsz]; omega) (Nat.zero_le _)
  rw [hsz] at ho
  rw [hss, ← bsC_app, ← List.length_append] at ho
  obtain ⟨A', c', rfl⟩ : ∃ A' c', v' = .slice A' (e.f.b ++ s).length c' := by
    rcases ho.2 with ⟨rfl, hn⟩ | ⟨g, cap, cur, rfl, -⟩
    · exact ⟨none, 0, by rw [hn]⟩
    · exact ⟨_, _, rfl⟩
  have hnone : e.f.b ++ s = [] → A' = none := fun e0 => by
    obtain ⟨e1, e2⟩ := List.append_eq_nil_iff.1 e0
    have hA := h.2 e1
    have hc : e.c = 0 := by
      rcases h.1.2 with ⟨hv, -⟩ | ⟨g, cap, cur, hv, -⟩
      · injection hv
      · injection hv with h1
        rw [hA] at h1
        cases h1
    have := hnil.2 ⟨by rw [hA, e1, hc]; rfl, by rw [hsz, e2]; rfl⟩
    injection this
  refine ⟨A', c', w', hr, ⟨ho, hnone⟩, ?_, ?_⟩
  · have : (Value.slice e.A e.f.b.length e.c).ownBlock = e.A.map Addr.block := by cases e.A <;> rfl
    rw [this] at hg
    exact hg
  · intro a ha
    subst ha
    rcases h.ok with hA | ⟨g, hA⟩
    · -- onto nothing: a new row
      right
      have hb0 : e.f.b = [] := by
        rcases h.1.2 with ⟨-, hn⟩ | ⟨g, cap, cur, hv, -⟩
        · exact List.eq_nil_of_length_eq_zero hn
        · injection hv with h1
          rw [hA] at h1
          cases h1
      have hc0 : e.c = 0 := by
        rcases h.1.2 with ⟨hv, -⟩ | ⟨g, cap, cur, hv, -⟩
        · injection hv
        · injection hv with h1
          rw [hA] at h1
          cases h1
      obtain ⟨v2, w2, hr2, ho2, -, -⟩ := Lib.run_append_own_string (P := Tryz.prog) w w.heap.size 77 9 ty 5 i Tryz.underlying77 Tryz.underlying9 hi hz h1 h2 (.slice none 0 0) 0 [] (World.ownsRow_nil _ _ _ _) ⟨s.toArray⟩
        (by rw [hsz]; unfold maxLen; omega) (by rw [hsz]; omega) (Nat.le_refl _)
      have e1 : (Value.slice e.A e.f.b.length e.c) = .slice none 0 0 := by rw [hA, hb0, hc0]; rfl
      rw [e1, hr2] at hr
      injection hr with hv hw
      subst hv hw
      rcases ho2.2 with ⟨hv, -⟩ | ⟨g, cap, cur, hv, hb, -⟩
      · injection hv with h3
        cases h3
      · injection hv with h3
        cases h3
        exact hb
    · obtain ⟨cap, cur, hgg, hcc, hcs⟩ : ∃ cap cur, w.heap[g]? = some (.cells cur 5 (0, 0)) ∧ e.c = cap ∧ cur.size = cap := by
        rcases h.1.2 with ⟨hv, -⟩ | ⟨g', cap, cur, hv, -, hh, -, -, hs, -⟩
        · injection hv with h3
          rw [hA] at h3
          cases h3
        · injection hv with h3 h4 h5
          rw [hA] at h3
          cases h3
          exact ⟨cap, cur, hh, h5, by simpa using hs⟩
      by_cases hroom : e.f.b.length + s.length ≤ cap
      · have hr2 := Lib.run_append_room_string (P := Tryz.prog) w 77 9 ty 5 i Tryz.underlying77 Tryz.underlying9 hi h1 g e.f.b.length e.c cur hgg ⟨s.toArray⟩ (by rw [hsz]; omega) (by rw [hsz]; omega)
        rw [← hA, hr] at hr2
        injection hr2 with hv
        injection hv with h3
        left
        exact h3.symm
      · have hr2 := Lib.run_append_grow_string (P := Tryz.prog) w 77 9 ty 5 i (.int .u8 0) Tryz.underlying77 Tryz.underlying9 hi hz ⟨g, 0, none⟩ e.f.b.length e.c (bsC e.f.b) (by rw [bsC_len, h1, Nat.mul_one])
          (fun j v hj => World.ownsRow.cells h.1 (g := g) (by show Value.ownBlock (.slice e.A _ _) = _; rw [hA]; rfl) j v hj) ⟨s.toArray⟩ (by rw [hsz]; omega) (by rw [hsz]; omega) (by rw [h2, hsz]; exact growslice_fits (by omega) (by omega))
        rw [← hA, hr] at hr2
        injection hr2 with hv
        injection hv with h3
        right
        cases h3
        exact Nat.le_refl _
/-- append at the operation, by its run. -/
theorem wpList_append_run {P : Program} {w w' : World} {ops : Array Oper} {rest : List Oper} {o : Oper} {a : Act} {Q : Exit → Act → World → Prop} (hgd : o.guard = none) (sl x : Operand) (t u : TypeId)
    (ho : o.op = .call { callee := .builtin .append, args := #[sl, x], argTypes := #[t, u] }) {v y v' : Value} (hs : a.eval sl = v) (hx : a.eval x = y) (hr : (Builtin.append_ #[t, u] o.type #[v, y]).run P w = .ok v' w')
    (h : wpList P ops Q rest (a.put o.dst v') w') : wpList P ops Q (o :: rest) a w := by
  refine wpList_plain hgd fun K hK => ?_
  unfold Oper.wp execOp
  simp only [ho, resolve, invoke, builtin, Sem.run_bind, Sem.run_pure, Result.andThen_ok, List.map_toArray, List.map_cons, List.map_nil, hs, hx, hr]
  exact hK _ _ h
theorem app_F {D : Dk} (n s : Bs) : (appV D n s).F.length ≤ D.F.length + 1 := by
  unfold appV
  split
  · show (put _ D.F).length ≤ _
    rw [(put_perm _ _).length_eq, List.length_cons]
    have : (del n D.F).length ≤ D.F.length := List.length_filter_le _ _
    show (del n D.F).length + 1 ≤ _
    omega
  · split
    · rw [stpV_F]; omega
    · omega
set_option maxRecDepth 100000 in
theorem diskE_put {w w' : World} {g mb : Nat} {D : Dk} {E : List Fe} {e : Fe} (h : DiskE w g mb D E) (ho : OwnF w' mb (putE e E)) (hc : w'.heap[g]? = w.heap[g]?) (hx : ∀ x ∈ E, x.f.n ≠ e.f.n → ∀ a, x.A = some a → w'.heap[a.block]? = w.heap[a.block]?) (hr : RowE w' e)
    (hn : ∀ x ∈ E, x.f.n ≠ e.f.n → ∀ a b, x.A = some a → e.A = some b → a.block ≠ b.block) (hf : ∀ a, e.A = some a → a.block ≠ g ∧ a.block ≠ mb) :
    DiskE w' g mb { D with F := put e.f D.F } (putE e E) := by
  refine ⟨by rw [map_putE, h.fs], hc.trans h.cells, ho, fun x hx' => ?_, ?_, h.gm, fun x hx' => ?_⟩
  · rcases mem_putE.1 hx' with rfl | ⟨hx', hne⟩
    · exact hr
    · exact (h.rows x hx').same (hx x hx' hne)
  · refine ((putE_perm e E).pairwise_iff (fun {a b} hab x y hx hy => (hab y x hy hx).symm)).2 (List.pairwise_cons.2 ⟨fun x hx' => ?_, h.apart.filter _⟩)
    obtain ⟨hx1, hx2⟩ := mem_delE.1 hx'
    exact fun a b ha hb => (hn x hx1 hx2 b a hb ha).symm
  · rcases mem_putE.1 hx' with rfl | ⟨hx', _⟩
    · exact hf
    · exact h.far x hx'
theorem set_heap (w : World) (z i : Nat) (u : Value) (k : Nat) (h : k ≠ z) : (w.setCell ⟨z, i, none⟩ u).heap[k]? = w.heap[k]? := Below.heap_setCell w _ u k h
set_option maxRecDepth 100000 in
theorem app_pack {w3 : World} {S : Nat → Prop} {g mb : Nat} {D : Dk} {E : List Fe} (h : DiskE w3 g mb D E) (hS : ∀ k, blk g mb E k → S k) (n s : Bs) (hn : n.length ≤ 100000) (hlen : E.length ≤ 1000) (hl : (lookE E n).f.b.length + s.length ≤ 1000000) :
    ∃ A' c' w5, (Builtin.append_ #[77, 9] 77 #[.slice (lookE E n).A (lookE E n).f.b.length (lookE E n).c, sV s]).run Tryz.prog (w3.alloc (.cells #[.slice (lookE E n).A (lookE E n).f.b.length (lookE E n).c, .int .i64 ((lookE E n).f.l : Int)] 79)) = .ok (.slice A' ((lookE E n).f.b ++ s).length c') w5 ∧
      Whole w5 w3.heap.size 79 #[.slice (lookE E n).A (lookE E n).f.b.length (lookE E n).c, .int .i64 ((lookE E n).f.l : Int)] ∧
      ((w5.setCell ⟨w3.heap.size, 0, none⟩ (.slice A' ((lookE E n).f.b ++ s).length c')).drew).cell? ⟨g, 0, none⟩ = some (.map (some mb)) ∧ ((w5.setCell ⟨w3.heap.size, 0, none⟩ (.slice A' ((lookE E n).f.b ++ s).length c')).drew).frozen? ⟨g, 0, none⟩ = false ∧
      Whole (w5.setCell ⟨w3.heap.size, 0, none⟩ (.slice A' ((lookE E n).f.b ++ s).length c')).drew w3.heap.size 79 #[.slice A' ((lookE E n).f.b ++ s).length c', .int .i64 ((lookE E n).f.l : Int)] ∧
      ∃ w8, (Instr.mapUpdate 62 (.map (some mb)) (sV n) (.agg #[.slice A' ((lookE E n).f.b ++ s).length c', .int .i64 ((lookE E n).f.l : Int)])).run Tryz.prog (w5.setCell ⟨w3.heap.size, 0, none⟩ (.slice A' ((lookE E n).f.b ++ s).length c')).drew = .ok () w8 ∧
        Hid (DiskP w8 (More w3 S) g { D with F := put ⟨n, (lookE E n).f.b ++ s, (lookE E n).f.l⟩ D.F } ∧ Turn w3 w8 S) := by
  have hz := h.cells.inside
  have hm := h.own.lt
  have hr0 := h.look_row n
  have hfar := h.look_far n
  have hap := h.look_apart n
  have b4 := fresh1' w3 (.cells #[.slice (lookE E n).A (lookE E n).f.b.length (lookE E n).c, .int .i64 ((lookE E n).f.l : Int)] 79)
  have W4 := Whole.fresh w3 79 #[.slice (lookE E n).A (lookE E n).f.b.length (lookE E n).c, .int .i64 ((lookE E n).f.l : Int)]
  have s4 : (w3.alloc (.cells #[.slice (lookE E n).A (lookE E n).f.b.length (lookE E n).c, .int .i64 ((lookE E n).f.l : Int)] 79)).heap.size = w3.heap.size + 1 := by simp
  have ok0 := look_ok h.ok n
  generalize w3.alloc (.cells #[.slice (lookE E n).A (lookE E n).f.b.length (lookE E n).c, .int .i64 ((lookE E n).f.l : Int)] 79) = w4 at b4 W4 s4 ⊢
  have hr4 : RowE w4 (lookE E n) := hr0.same fun a ha => b4.block _ (hr0.lt ha)
  obtain ⟨A', c', w5, hrun, hr5, hg5, hA'⟩ := app_own hr4 s hl (lookE E n).f.l n 77
  have hlt0 : ∀ a, (lookE E n).A = some a → a.block < w3.heap.size := fun a ha => hr0.lt ha
  generalize lookE E n = e0 at *
  have W5 : Whole w5 w3.heap.size 79 #[.slice e0.A e0.f.b.length e0.c, .int .i64 (e0.f.l : Int)] := W4.grown hg5 (fun e => by
    cases hA : e0.A with
    | none => rw [hA] at e; cases e
    | some a =>
      rw [hA] at e
      have := hlt0 a hA
      simp only [Option.map_some, Option.some.injEq] at e
      omega)
  -- what was there and is neither the file's own row nor the map
  have old5 : ∀ k, k < w3.heap.size → (∀ a, e0.A = some a → k ≠ a.block) → w5.heap[k]? = w3.heap[k]? := fun k hk hne => (hg5.block k (by omega) (fun e => by
    cases hA : e0.A with
    | none => rw [hA] at e; cases e
    | some a =>
      rw [hA] at e
      simp only [Option.map_some, Option.some.injEq] at e
      exact hne a hA e)).trans (b4.block k hk)
  have W6 : Whole (w5.setCell ⟨w3.heap.size, 0, none⟩ (.slice A' (e0.f.b ++ s).length c')).drew w3.heap.size 79 #[.slice A' (e0.f.b ++ s).length c', .int .i64 (e0.f.l : Int)] := by
    have h1 := W5.store 0 (.slice A' (e0.f.b ++ s).length c')
    have h2 : (#[Value.slice e0.A e0.f.b.length e0.c, .int .i64 (e0.f.l : Int)] : Array Value).setIfInBounds 0 (.slice A' (e0.f.b ++ s).length c') = #[.slice A' (e0.f.b ++ s).length c', .int .i64 (e0.f.l : Int)] := rfl
    rw [h2] at h1
    exact h1
  have old6 : ∀ k, k ≠ w3.heap.size → ((w5.setCell ⟨w3.heap.size, 0, none⟩ (.slice A' (e0.f.b ++ s).length c')).drew).heap[k]? = w5.heap[k]? := fun k hk => set_heap w5 _ 0 _ k hk
  have hsz6 : ((w5.setCell ⟨w3.heap.size, 0, none⟩ (.slice A' (e0.f.b ++ s).length c')).drew).heap.size = w5.heap.size := by simp [World.setCell, World.drew]
  have hos : ((w5.setCell ⟨w3.heap.size, 0, none⟩ (.slice A' (e0.f.b ++ s).length c')).drew).os = w5.os ∧ ((w5.setCell ⟨w3.heap.size, 0, none⟩ (.slice A' (e0.f.b ++ s).length c')).drew).tape = w5.tape ∧ ((w5.setCell ⟨w3.heap.size, 0, none⟩ (.slice A' (e0.f.b ++ s).length c')).drew).output = w5.output := ⟨rfl, rfl, rfl⟩
  have hmx : ∀ a, e0.A = some a → mb ≠ a.block := fun a ha e => (hfar a ha).1.2 e.symm
  have hgx : ∀ a, e0.A = some a → g ≠ a.block := fun a ha e => (hfar a ha).1.1 e.symm
  have G6 : Whole (w5.setCell ⟨w3.heap.size, 0, none⟩ (.slice A' (e0.f.b ++ s).length c')).drew g 64 #[.map (some mb), .bool D.off, .int .i64 D.left] := ((old6 g (by omega)).trans (old5 g hz hgx)).trans h.cells
  have O6 : OwnF (w5.setCell ⟨w3.heap.size, 0, none⟩ (.slice A' (e0.f.b ++ s).length c')).drew mb E := h.own.same ((old6 mb (by omega)).trans (old5 mb hm hmx))
  refine ⟨A', c', w5, hrun, W5, G6.read 0, G6.soft 0, W6, ?_⟩
  generalize (w5.setCell ⟨w3.heap.size, 0, none⟩ (.slice A' (e0.f.b ++ s).length c')).drew = w6 at W6 old6 hsz6 hos G6 O6 ⊢
  obtain ⟨w8, hput, O8, g8, s8⟩ := put_run O6 (by omega) (e := ⟨⟨n, e0.f.b ++ s, e0.f.l⟩, A', c'⟩) hr5.ok hn
  refine ⟨w8, hput, Lib.hid ?_⟩
  have old8 : ∀ k, k < w6.heap.size → k ≠ mb → w8.heap[k]? = w6.heap[k]? := fun k hk hne => g8.block k hk (by simpa using hne)
  have hs5 := hg5.size
  have far' : ∀ a, A' = some a → a.block ≠ w3.heap.size ∧ a.block ≠ mb ∧ a.block ≠ g := fun a ha => by
    rcases hA' a ha with h1 | h1
    · have := hlt0 a h1
      exact ⟨by omega, (hmx a h1).symm, (hgx a h1).symm⟩
    · exact ⟨by omega, by omega, by omega⟩
  have R8 : RowE w8 ⟨⟨n, e0.f.b ++ s, e0.f.l⟩, A', c'⟩ := hr5.same fun a ha => by
    obtain ⟨f1, f2, f3⟩ := far' a ha
    have := hr5.lt ha
    exact (old8 _ (by omega) f2).trans (old6 _ f1)
  have oldS : ∀ k, k < w3.heap.size → k ≠ mb → (∀ a, e0.A = some a → k ≠ a.block) → w8.heap[k]? = w3.heap[k]? := fun k hk h1 h2 => (old8 k (by omega) h1).trans ((old6 k (by omega)).trans (old5 k hk h2))
  refine ⟨⟨mb, _, diskE_put h O8 (oldS g hz h.gm hgx) (fun x hx hne a ha => oldS _ ((h.rows x hx).lt ha) (h.far x hx a ha).2 (fun b hb => hap x hx hne a b ha hb)) R8 (fun x hx hne a b ha hb => ?_) (fun a ha => ⟨(far' a ha).2.2, (far' a ha).2.1⟩), fun k hk => ?_⟩, ?_⟩
  · rcases hA' b hb with h1 | h1
    · exact hap x hx hne a b ha h1
    · have := (h.rows x hx).lt ha
      omega
  · rcases blk_put hk with hk | ⟨a, ha, rfl⟩
    · exact .inl (hS k hk)
    · rcases hA' a ha with h1 | h1
      · exact .inl (hS _ (hfar a h1).2)
      · exact .inr (by omega)
  · refine ⟨g8.os.trans (hos.1.trans (hg5.os.trans b4.os)), g8.tape.trans (hos.2.1.trans (hg5.tape.trans b4.tape)), g8.output.trans (hos.2.2.trans (hg5.output.trans b4.output)), by omega, fun k hk hn => ?_⟩
    exact oldS k hk (fun e => hn (e ▸ hS mb (.inr (.inl rfl)))) (fun a ha e => hn (e ▸ hS _ (hfar a ha).2))
set_option maxRecDepth 100000 in
theorem append_any {S : Nat → Prop} {g : Nat} {D : Dk} (G : GoodD D) (hF : D.F.length ≤ 1000) (n s : Bs) (hn : n.length ≤ 100000) (hs : s.length ≤ 100000) (w : World) (h : DiskP w S g D) :
    Calls Tryz.prog 66 #[.pointer (some ⟨g, 0, none⟩), sV n, sV s] w fun e w' => e = .returned (.int .i64 (appE D n s)) ∧ DiskP w' (More w S) g (appV D n s) ∧ Turn w w' S := by
  obtain ⟨mb, E, hE, hS⟩ := h
  have HP : Hid (DiskP w S g D) := Lib.hid ⟨mb, E, hE, hS⟩
  have HC := Lib.hid (check_any n hn w hE)
  have hSg : ∀ k, k = g → S k := fun k e => hS k (.inl e)
  have HU : Hid (∀ w1, Below w.heap.size w w1 → Calls Tryz.prog 93 #[.pointer (some ⟨g, 0, none⟩)] w1 fun e w' => e = .returned (.int .i64 (used D.F : Int)) ∧ Below w1.heap.size w1 w') := Lib.hid (fun w1 b => used_any G.room w1 (hE.below b))
  have HT : Hid (∀ w1, Below w.heap.size w w1 → Calls Tryz.prog 91 #[.pointer (some ⟨g, 0, none⟩)] w1 fun e w' => e = .returned (.int .i64 (stpE D)) ∧ DiskE w' g mb (stpV D) E ∧ w1.grownBy w' (some g) ∧ w'.heap.size = w1.heap.size) := Lib.hid (fun w1 b => step_any G.hi w1 (hE.below b))
  have hroom := G.room
  have HE : Hid (appE D n s = if chk D n ≠ 0 then chk D n else if 262144 < used D.F + s.length then 2 else stpE D) := Lib.hid rfl
  have HV : Hid (appV D n s = if appE D n s = 0 then { stpV D with F := put ⟨n, oldB D.F n ++ s, oldL D.F n⟩ D.F } else if chk D n = 0 ∧ used D.F + s.length ≤ 262144 then stpV D else D) := Lib.hid rfl
  have hb0 : (lookE E n).f.b = oldB D.F n := by rw [look_f, hE.fs]
  have hl0 : (lookE E n).f.l = oldL D.F n := by rw [look_f, hE.fs]
  have hlen : E.length ≤ 1000 := by rw [hE.len]; exact hF
  have hL : (lookE E n).f.b.length ≤ 262144 := by
    rw [hb0]
    have := G.room
    have h2 := old_len G.srt n [] 0
    rw [List.append_nil, used_put] at h2
    have h3 : (oldB D.F n).length + used (del n D.F) = used D.F + 0 := h2
    omega
  generalize used D.F = U at HU HE HV hroom
  by_cases hk : chk D n = 0
  · rw [hk] at HC HE HV
    by_cases ho : 262144 < U + s.length
    · have e1 : appE D n s = 2 := by have := HE.out; rw [if_neg (by simp), if_pos ho] at this; exact this
      have e2 : appV D n s = D := by have := HV.out; rw [e1, if_neg (by simp), if_neg (by omega)] at this; exact this
      rw [e1, e2]
      have hgt : (262144 : Int) - U < s.length := by omega
      clear HE HV e1 e2 hE hb0 hl0 hL hlen hF G hk HT hS
      go_enter Tryz.func66, Tryz.ntmps66
      go_wp2_with (first
        | (go_at_call 93; refine (HU.out _ B1.out).mono ?_; rintro e w2 ⟨rfl, b2⟩; have B2 := Lib.hid (then_below B1.out b2); clear b2)
        | (go_at_call 90; refine HC.out.mono ?_; rintro e w1 ⟨rfl, b1⟩; have B1 := Lib.hid b1; clear b1))
      go_ret
      exact ⟨rfl, (HP.out.below B2.out).more, turn_below B2.out _⟩
    · have hgt : ¬ (262144 : Int) - U < s.length := by omega
      have e1 : appE D n s = stpE D := by have := HE.out; rw [if_neg (by simp), if_neg ho] at this; exact this
      by_cases hz : stpE D = 0
      · have e2 : appV D n s = { stpV D with F := put ⟨n, oldB D.F n ++ s, oldL D.F n⟩ (stpV D).F } := by have := HV.out; rw [e1, hz, if_pos rfl] at this; rw [this, stpV_F]
        rw [e1, e2, hz]
        rw [hz] at HT
        have HL : Hid (∀ w1, DiskE w1 g mb (stpV D) E → w1.cell? ⟨g, 0, none⟩ = some (.map (some mb)) ∧ w1.frozen? ⟨g, 0, none⟩ = false ∧ (Instr.lookup 62 (.map (some mb)) (sV n) false).run Tryz.prog w1 = .ok (lookE E n).val w1) := Lib.hid (fun w1 h1 => ⟨h1.cells.read 0, h1.cells.soft 0, look_run h1.own h1.ok hn⟩)
        have HB0 := fun w3 h3 => app_pack (w3 := w3) (D := stpV D) h3 hS n s hn hlen (by omega)
        have hl1 : ((lookE E n).f.b.length : Int) ≤ 262144 := by omega
        rw [← hb0, ← hl0]
        clear HE HV e1 e2 hE hb0 hl0 hlen hF G hk ho hz
        generalize lookE E n = e0 at HL HB0 hL hl1 ⊢
        generalize stpV D = D1 at HT HL HB0 ⊢
        generalize ({ D1 with F := put ⟨n, e0.f.b ++ s, e0.f.l⟩ D1.F } : Dk) = D2 at HB0 ⊢
        have hm1 : (e0.f.b ++ s).length ≤ 1000000 := by rw [List.length_append]; omega
        generalize (e0.f.b ++ s).length = m at HB0 hm1
        have HB := Lib.hid HB0
        clear HB0
        go_enter Tryz.func66, Tryz.ntmps66
        go_upto_region 9 with (first
          | (go_at_call 91; refine (HT.out _ B2.out).mono ?_; rintro e w3 ⟨rfl, d3, g3, -⟩; have D3 := Lib.hid d3; have G3 := Lib.hid g3; clear d3 g3)
          | (go_at_call 93; refine (HU.out _ B1.out).mono ?_; rintro e w2 ⟨rfl, b2⟩; have B2 := Lib.hid (then_below B1.out b2); clear b2)
          | (go_at_call 90; refine HC.out.mono ?_; rintro e w1 ⟨rfl, b1⟩; have B1 := Lib.hid b1; clear b1))
        have T3 := Lib.hid ((turn_g B2.out G3.out).wide hSg)
        have hs3 : w.heap.size ≤ w3.heap.size := T3.out.size
        obtain ⟨k0, k1, hlk⟩ := HL.out w3 D3.out
        obtain ⟨A', c', w5, hap, W5, r0, r1, W6, w8, hput, HD⟩ := HB.out w3 D3.out
        have q0 : w5.cell? ⟨w3.heap.size, 0, none⟩ = some (.slice e0.A e0.f.b.length e0.c) := W5.read 0
        have q1 : w5.frozen? ⟨w3.heap.size, 0, none⟩ = false := W5.soft 0
        have q2 : w5.cell? ⟨w3.heap.size, 1, none⟩ = some (.int .i64 (e0.f.l : Int)) := W5.read 1
        have q3 : w5.frozen? ⟨w3.heap.size, 1, none⟩ = false := W5.soft 1
        have hld := loaded (P := Tryz.prog) W6 Tryz.underlying79 rfl info59
        clear HB HL HT HU HC W6 W5
        go_upto_region 11 with (at_builtin; refine wpList_append_run rfl _ _ 77 9 rfl rfl rfl hap ?_)
        go_region
        go_wp2_with fail
        go_ret
        refine ⟨rfl, HD.out.1.wide fun k hk => ?_, T3.out.trans HD.out.2 fun j hj => .inl hj⟩
        rcases hk with hk | hk
        · exact .inl hk
        · exact .inr (Nat.le_trans hs3 hk)
      · have e2 : appV D n s = stpV D := by have := HV.out; rw [e1, if_neg hz, if_pos ⟨rfl, by omega⟩] at this; exact this
        rw [e1, e2]
        have hz' : (stpE D == 0) = false := by simpa using hz
        clear HE HV e1 e2 hE hb0 hl0 hL hlen hF G hk ho hz
        generalize stpE D = k at HT hz' ⊢
        generalize stpV D = D1 at HT ⊢
        go_enter Tryz.func66, Tryz.ntmps66
        go_wp2_with (first
          | (go_at_call 91; refine (HT.out _ B2.out).mono ?_; rintro e w3 ⟨rfl, d3, g3, -⟩; have D3 := Lib.hid d3; have G3 := Lib.hid g3; clear d3 g3)
          | (go_at_call 93; refine (HU.out _ B1.out).mono ?_; rintro e w2 ⟨rfl, b2⟩; have B2 := Lib.hid (then_below B1.out b2); clear b2)
          | (go_at_call 90; refine HC.out.mono ?_; rintro e w1 ⟨rfl, b1⟩; have B1 := Lib.hid b1; clear b1))
        go_ret
        exact ⟨rfl, DiskP.more ⟨mb, E, D3.out, hS⟩, (turn_g B2.out G3.out).wide hSg⟩
  · have e1 : appE D n s = chk D n := by have := HE.out; rw [if_pos hk] at this; exact this
    have e2 : appV D n s = D := by have := HV.out; rw [e1, if_neg hk, if_neg (by simp [hk])] at this; exact this
    rw [e1, e2]
    have hk' : (chk D n == 0) = false := by simpa using hk
    clear HE HV HU HT e1 e2 hE hb0 hl0 hL hlen hF G hk hS
    generalize chk D n = k at HC hk' ⊢
    go_enter Tryz.func66, Tryz.ntmps66
    go_wp2_with (go_at_call 90; refine HC.out.mono ?_; rintro e w1 ⟨rfl, b1⟩; have B1 := Lib.hid b1; clear b1)
    go_ret
    exact ⟨rfl, (HP.out.below B1.out).more, turn_below B1.out _⟩
end Go.Proofs.YtfpmcomigolacaaGreatDoor.disk
set_option linter.unusedSimpArgs false
set_option linter.unusedVariables false
namespace Go.Proofs.YtfpmcomigolacaaGreatDoor.disk
open Go.ChangeShapes Go.WideShapes Go.ChangeAt Go.RowKit Go.Maps Go.WideMaps
open Go.Proofs.YtfpmcomigolacaaGreatDoor.words Go.Proofs.YtfpmcomigolacaaGreatDoor.opened Go.Proofs.YtfpmcomigolacaaGreatDoor.block

theorem own0B (W : World) : (W.alloc (.cells #[] 5)).ownsRow W.heap.size 5 1 (.slice (some ⟨W.heap.size, 0, none⟩) 0 0) 0 [] := ⟨rfl, .inr ⟨W.heap.size, 0, #[], rfl, Nat.le_refl _, heap_new W _, Nat.le_refl _, by simp [maxLen], rfl, rfl⟩⟩
theorem one_bsC (b : Bs) : ∀ u ∈ bsC b, u.oneCell' = true := by
  intro u hu
  obtain ⟨x, -, rfl⟩ := List.mem_map.1 hu
  rfl
set_option maxRecDepth 100000 in
theorem clone_any {e : Fe} (hl : e.f.b.length ≤ 262144) (w : World) (h : RowE w e) :
    Calls Tryz.prog 74 #[.slice e.A e.f.b.length e.c] w fun v w' => ∃ A' c', v = .returned (.slice A' e.f.b.length c') ∧ RowE w' ⟨e.f, A', c'⟩ ∧ Below w.heap.size w w' ∧ ∀ a, A' = some a → w.heap.size ≤ a.block := by
  rcases h.ok with hA | ⟨g, hA⟩
  · have hb0 : e.f.b = [] := by
      rcases h.1.2 with ⟨-, hn⟩ | ⟨g, cap, cur, hv, -⟩
      · exact List.eq_nil_of_length_eq_zero hn
      · injection hv with h1
        rw [hA] at h1
        cases h1
    have hR : Hid (RowE w ⟨e.f, none, 0⟩) := Lib.hid ⟨by unfold Fe.row; dsimp only; rw [hb0]; exact World.ownsRow_nil _ _ _ _, fun _ => rfl⟩
    have hq := fun W => Lib.run_eql_slice_nil (P := Tryz.prog) W 77 5 none 0 e.c 0 0 Tryz.underlying77
    rw [hA, hb0]
    clear h hA
    go_enter Tryz.func74, Tryz.ntmps74
    go_wp2_with fail
    go_ret
    exact ⟨none, 0, rfl, hR.out, Below.refl _ _, fun a ha => (nomatch ha)⟩
  · obtain ⟨i0, hi, hz0, hz1, hz2⟩ : ∃ i, Tryz.prog.info? 5 = some i ∧ i.zero = some (.int .u8 0) ∧ i.size = 1 ∧ i.bytes = 1 := by
      have h := info5
      rw [Option.map_eq_some_iff] at h
      obtain ⟨i, hi, he⟩ := h
      simp only [Prod.mk.injEq] at he
      exact ⟨i, hi, he.1, he.2.1, he.2.2⟩
    have hne : e.f.b ≠ [] := fun e0 => by have := h.2 e0; rw [hA] at this; cases this
    have b1 := fresh1' w (.cells #[] 5)
    have hgl : g < w.heap.size := h.lt hA
    have HC := Lib.hid (fun (j : Nat) (u : Value) (hj : (bsC e.f.b)[j]? = some u) => show (w.alloc (.cells #[] 5)).cell? ((⟨g, 0, none⟩ : Addr).add j) = some u from by
      have := World.ownsRow.cells h.1 (g := g) (by show Value.ownBlock (.slice e.A _ _) = _; rw [hA]; rfl) j u hj
      rw [add_at] at this ⊢
      exact (b1.cell (p := ⟨g, j, none⟩) hgl).trans this)
    have HO := Lib.hid (own0B w)
    have hpos : 0 < e.f.b.length := List.length_pos_iff.2 hne
    have HNE := Lib.hid hne
    have hbl := bsC_len e.f.b
    have hone := Lib.hid (one_bsC e.f.b)
    have HFIN : Hid (∀ A' c' w5, w5.ownsRow w.heap.size 5 1 (.slice A' e.f.b.length c') e.f.b.length (bsC e.f.b) → RowE w5 ⟨e.f, A', c'⟩ ∧ ∀ a, A' = some a → w.heap.size ≤ a.block) := Lib.hid (fun A' c' w5 ho => by
      refine ⟨⟨⟨ho.1, ?_⟩, fun e0 => absurd e0 hne⟩, fun a ha => (World.ownsRow.lt ho a.block (by rw [ha]; rfl)).1⟩
      rcases ho.2 with hn | ⟨g', cap, cur, hv, hg, hh, rest⟩
      · exact .inl hn
      · exact .inr ⟨g', cap, cur, hv, Nat.zero_le _, hh, rest⟩)
    rw [hA]
    have hq := fun W => Lib.run_eql_slice_nil (P := Tryz.prog) W 77 5 (some ⟨g, 0, none⟩) e.f.b.length e.c 0 0 Tryz.underlying77
    clear h hA hne b1
    obtain ⟨n, hn⟩ : ∃ n, n = e.f.b.length := ⟨_, rfl⟩
    rw [← hn] at hl hpos hbl hq HFIN ⊢
    generalize bsC e.f.b = xs at HC hbl hone HFIN
    clear hn
    have HBL := Lib.hid hbl
    clear hbl
    go_enter Tryz.func74, Tryz.ntmps74
    go_wp2_with (at_builtin; refine wpList_append_own _ rfl _ _ 77 rfl w.heap.size 5 i0 (.int .u8 0) 1 1 Tryz.underlying77 hi hz0 hz1 hz2 rfl (by decide) _ 0 [] rfl HO.out ⟨g, 0, none⟩ n _ xs rfl (by rw [HBL.out]; omega) HC.out hone.out (by simp [maxLen]; omega) (by omega) (by simp) ?_; intro v' w5 hown' hgrow _; have b5 := Lib.hid (((Below.refl w.heap.size w).alloc (Nat.le_refl _) (.cells #[] 5)).grown hgrow (by simp) (fun j ej => by cases ej; exact Nat.le_refl _)); obtain ⟨A4, c4, hv5⟩ : ∃ A4 c4, v' = .slice A4 n c4 := (by rcases hown'.2 with ⟨rfl, h0⟩ | ⟨g', cap, cur, rfl, -⟩; (· exact ⟨none, 0, by rw [show n = 0 by omega]⟩); (· exact ⟨some ⟨g', 0, none⟩, cap, by rw [Nat.zero_add]⟩)); subst hv5; have HO5 : Hid (w5.ownsRow w.heap.size 5 1 (.slice A4 n c4) n xs) := Lib.hid (by simpa using hown'); clear hown' hgrow)
    go_ret
    obtain ⟨f1, f2⟩ := HFIN.out A4 c4 w5 HO5.out
    exact ⟨A4, c4, rfl, f1, b5.out, f2⟩
end Go.Proofs.YtfpmcomigolacaaGreatDoor.disk
