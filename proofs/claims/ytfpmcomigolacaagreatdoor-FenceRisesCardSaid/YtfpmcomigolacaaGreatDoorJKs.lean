/-
  The contracts of stepOn, Sync, Remove, Read and Lasts.
  The contracts of Sync, Remove, Read and Lasts.
-/
import Derived.Test.YtfpmcomigolacaaGreatDoorJKc
import Derived.Laws.IdiomStrings
import Derived.Laws.BytesArg
set_option linter.unusedSimpArgs false
set_option linter.unusedVariables false
namespace Go.Proofs.YtfpmcomigolacaaGreatDoor.disk
open Go.ChangeShapes Go.WideShapes Go.ChangeAt Go.RowKit Go.Maps Go.WideMaps
open Go.Proofs.YtfpmcomigolacaaGreatDoor.words Go.Proofs.YtfpmcomigolacaaGreatDoor.opened Go.Proofs.YtfpmcomigolacaaGreatDoor.block

theorem isSome_lk {E : List Fe} {D : Dk} (h : E.map Fe.f = D.F) (n : Bs) : (lkE E n).isSome = decide (lk D.F n ≠ none) := by
  rw [← h, lk_map]
  cases lkE E n <;> simp
theorem turn_g {w w1 w2 : World} {g : Nat} (b : Below w.heap.size w w1) (h : w1.grownBy w2 (some g)) : Turn w w2 (fun k => k = g) :=
  (turn_below b _).trans (turn_grown h (S := fun k => k = g) (fun k e => by cases e; rfl)) fun j hj => .inl hj
theorem two_below {w : World} {w1 : World} {o : Obj} (b : Below w.heap.size w w1) : Below w.heap.size w (w1.alloc o) := b.trans ((fresh1' w1 o).mono b.size)
set_option maxRecDepth 100000 in
theorem stepOn_any {g mb : Nat} {D : Dk} {E : List Fe} (n : Bs) (hn : n.length ≤ 100000) (h1 : D.left ≤ 9223372036854775807) (w : World) (h : DiskE w g mb D E) :
    Calls Tryz.prog 62 #[.pointer (some ⟨g, 0, none⟩), sV n] w fun e w' => e = .returned (.int .i64 (onE D n)) ∧ DiskE w' g mb (onV D n) E ∧ Turn w w' (fun k => k = g) := by
  have HC := Lib.hid (check_any n hn w h)
  have H := Lib.hid h
  have HL : Hid (∀ w1, Below w.heap.size w w1 → (Instr.lookup 62 (.map (some mb)) (sV n) true).run Tryz.prog w1 = .ok (.tuple #[(lookE E n).val, .bool (lkE E n).isSome]) w1) := Lib.hid (fun w1 b => look_ok_run (h.below b).own h.ok hn)
  have HK : Hid (∀ w1, Below w.heap.size w w1 → w1.cell? ⟨g, 0, none⟩ = some (.map (some mb)) ∧ w1.frozen? ⟨g, 0, none⟩ = false) := Lib.hid (fun w1 b => ⟨(h.below b).cells.read 0, (h.below b).cells.soft 0⟩)
  have HS : Hid (∀ w1, Below w.heap.size w w1 → Calls Tryz.prog 91 #[.pointer (some ⟨g, 0, none⟩)] w1 fun e w' => e = .returned (.int .i64 (stpE D)) ∧ DiskE w' g mb (stpV D) E ∧ w1.grownBy w' (some g) ∧ w'.heap.size = w1.heap.size) := Lib.hid (fun w1 b => step_any h1 w1 (h.below b))
  have HE : Hid (onE D n = if chk D n ≠ 0 then chk D n else if lk D.F n = none then 3 else stpE D) := Lib.hid rfl
  have HV : Hid (onV D n = if chk D n = 0 ∧ lk D.F n ≠ none then stpV D else D) := Lib.hid rfl
  have hSm := isSome_lk h.fs n
  rw [hSm] at HL
  clear h h1 hSm
  generalize onE D n = oe at HE ⊢
  generalize onV D n = ov at HV ⊢
  generalize lookE E n = e0 at HL
  generalize chk D n = k at HC HE HV
  by_cases hk : k = 0
  · subst hk
    by_cases hf : lk D.F n = none
    · have e1 : oe = 3 := by have := HE.out; rw [if_neg (by simp), if_pos hf] at this; exact this
      have e2 : ov = D := by have := HV.out; rw [if_neg (by simp [hf])] at this; exact this
      rw [decide_eq_false (by simp [hf])] at HL
      subst e1 e2
      clear HE HV hf HS
      go_enter Tryz.func62, Tryz.ntmps62
      go_upto_region 4 with (go_at_call 90; refine HC.out.mono ?_; rintro e w1 ⟨rfl, b1⟩; have B1 := Lib.hid b1; clear b1)
      obtain ⟨k0, k1⟩ := HK.out w1 B1.out
      have hlk := HL.out w1 B1.out
      go_wp2_with fail
      go_ret
      exact ⟨rfl, H.out.below (two_below B1.out), turn_below (two_below B1.out) _⟩
    · have e1 : oe = stpE D := by have := HE.out; rw [if_neg (by simp), if_neg hf] at this; exact this
      have e2 : ov = stpV D := by have := HV.out; rw [if_pos ⟨rfl, hf⟩] at this; exact this
      rw [decide_eq_true hf] at HL
      subst e1 e2
      clear HE HV hf
      generalize stpE D = se at HS ⊢
      generalize stpV D = sv at HS ⊢
      go_enter Tryz.func62, Tryz.ntmps62
      go_upto_region 4 with (go_at_call 90; refine HC.out.mono ?_; rintro e w1 ⟨rfl, b1⟩; have B1 := Lib.hid b1; clear b1)
      obtain ⟨k0, k1⟩ := HK.out w1 B1.out
      have hlk := HL.out w1 B1.out
      go_wp2_with (go_at_call 91; refine (HS.out _ (two_below B1.out)).mono ?_; rintro e w2 ⟨rfl, d2, g2, -⟩; have D2 := Lib.hid d2; have G2 := Lib.hid g2; clear d2 g2)
      go_ret
      exact ⟨rfl, D2.out, turn_g (two_below B1.out) G2.out⟩
  · have e1 : oe = k := by have := HE.out; rw [if_pos hk] at this; exact this
    have e2 : ov = D := by have := HV.out; rw [if_neg (by simp [hk])] at this; exact this
    subst e1 e2
    have hk' : (oe == 0) = false := by simpa using hk
    clear hk HE HV HL HS HK
    go_enter Tryz.func62, Tryz.ntmps62
    go_wp2_with (go_at_call 90; refine HC.out.mono ?_; rintro e w1 ⟨rfl, b1⟩; have B1 := Lib.hid b1; clear b1)
    go_ret
    exact ⟨rfl, H.out.below B1.out, turn_below B1.out _⟩
end Go.Proofs.YtfpmcomigolacaaGreatDoor.disk
set_option linter.unusedSimpArgs false
set_option linter.unusedVariables false
namespace Go.Proofs.YtfpmcomigolacaaGreatDoor.disk
open Go.ChangeShapes Go.WideShapes Go.ChangeAt Go.RowKit Go.Maps Go.WideMaps
open Go.Proofs.YtfpmcomigolacaaGreatDoor.words Go.Proofs.YtfpmcomigolacaaGreatDoor.opened Go.Proofs.YtfpmcomigolacaaGreatDoor.block

theorem pair_of {α : Type} {R : α → α → Prop} (hs : ∀ x y, R x y → R y x) : ∀ {l : List α}, l.Pairwise R → ∀ {x y : α}, x ∈ l → y ∈ l → x ≠ y → R x y
  | a :: r, h, x, y, hx, hy, hne => by
    obtain ⟨h1, h2⟩ := List.pairwise_cons.1 h
    rcases List.mem_cons.1 hx with rfl | hx'
    · rcases List.mem_cons.1 hy with rfl | hy'
      · exact absurd rfl hne
      · exact h1 y hy'
    · rcases List.mem_cons.1 hy with rfl | hy'
      · exact hs _ _ (h1 x hx')
      · exact pair_of hs h2 hx' hy' hne
theorem look_or (E : List Fe) (n : Bs) : (lookE E n ∈ E ∧ (lookE E n).f.n = n) ∨ (lookE E n = ⟨⟨n, [], 0⟩, none, 0⟩ ∧ lkE E n = none) := by
  unfold lookE
  cases h : lkE E n with
  | none => exact .inr ⟨rfl, rfl⟩
  | some e => exact .inl (lkE_some h)
theorem DiskE.look_row {w : World} {g mb : Nat} {D : Dk} {E : List Fe} (h : DiskE w g mb D E) (n : Bs) : RowE w (lookE E n) := by
  rcases look_or E n with ⟨h1, -⟩ | ⟨h1, -⟩
  · exact h.rows _ h1
  · rw [h1]
    exact ⟨World.ownsRow_nil _ _ _ _, fun _ => rfl⟩
theorem DiskE.look_apart {w : World} {g mb : Nat} {D : Dk} {E : List Fe} (h : DiskE w g mb D E) (n : Bs) : ∀ x ∈ E, x.f.n ≠ n → ∀ a b, x.A = some a → (lookE E n).A = some b → a.block ≠ b.block := by
  intro x hx hne a b ha hb
  rcases look_or E n with ⟨h1, h2⟩ | ⟨h1, -⟩
  · exact pair_of (fun x y hxy a b ha hb => (hxy b a hb ha).symm) h.apart hx h1 (fun e => hne (by rw [e, h2])) a b ha hb
  · rw [h1] at hb
    cases hb
theorem DiskE.look_far {w : World} {g mb : Nat} {D : Dk} {E : List Fe} (h : DiskE w g mb D E) (n : Bs) : ∀ a, (lookE E n).A = some a → (a.block ≠ g ∧ a.block ≠ mb) ∧ blk g mb E a.block := by
  intro a ha
  rcases look_or E n with ⟨h1, -⟩ | ⟨h1, -⟩
  · exact ⟨h.far _ h1 a ha, .inr (.inr ⟨_, h1, a, ha, rfl⟩)⟩
  · rw [h1] at ha
    cases ha
theorem row_as {w : World} {e e' : Fe} (h : RowE w e) (hA : e'.A = e.A) (hc : e'.c = e.c) (hb : e'.f.b = e.f.b) : RowE w e' := by
  obtain ⟨f, A, c⟩ := e'
  dsimp only at hA hc hb
  unfold RowE Fe.row at h ⊢
  dsimp only
  rw [hA, hc, hb]
  exact h
theorem on_stp {D : Dk} {n : Bs} (h : onE D n = 0) : onV D n = stpV D := by
  obtain ⟨h1, h2, -⟩ := onE_0 h
  unfold onV
  rw [if_pos ⟨h1, h2⟩]
theorem info59 : (Tryz.prog.info? 79).map (·.size) = some 2 := by kernel_rfl
/-- A file goes back into the map: what becomes of the disk, and what turns. -/
theorem put_back {w1 w2 w3 : World} {S : Nat → Prop} {g mb : Nat} {D : Dk} {E : List Fe} {e : Fe} (h : DiskE w1 g mb D E) (hS : ∀ k, blk g mb E k → S k) (b : Below w1.heap.size w1 w2) (hr : RowE w1 e)
    (hn : ∀ x ∈ E, x.f.n ≠ e.f.n → ∀ a b, x.A = some a → e.A = some b → a.block ≠ b.block) (hf : ∀ a, e.A = some a → (a.block ≠ g ∧ a.block ≠ mb) ∧ blk g mb E a.block)
    (ho : OwnF w3 mb (putE e E)) (hg : w2.grownBy w3 (some mb)) : DiskP w3 S g { D with F := put e.f D.F } ∧ Turn w1 w3 S := by
  have h2 := h.below b
  refine ⟨⟨mb, putE e E, h2.put ho hg (hr.same fun a ha => b.block _ (hr.lt ha)) hn (fun a ha => (hf a ha).1), fun k hk => ?_⟩, ?_⟩
  · rcases blk_put hk with hk | ⟨a, ha, rfl⟩
    · exact hS k hk
    · exact hS _ (hf a ha).2
  · exact (turn_below b S).trans (turn_grown hg (S := S) fun k e => by cases e; exact hS mb (.inr (.inl rfl))) fun j hj => .inl hj
theorem DiskP.more {w w' : World} {S : Nat → Prop} {g : Nat} {D : Dk} (h : DiskP w' S g D) : DiskP w' (More w S) g D := h.wide fun _ hk => .inl hk
set_option maxRecDepth 100000 in
theorem sync_any {S : Nat → Prop} {g : Nat} {D : Dk} (G : GoodD D) (hF : D.F.length ≤ 1000) (n : Bs) (hn : n.length ≤ 100000) (w : World) (h : DiskP w S g D) :
    Calls Tryz.prog 69 #[.pointer (some ⟨g, 0, none⟩), sV n] w fun e w' => e = .returned (.int .i64 (onE D n)) ∧ DiskP w' (More w S) g (synV D n) ∧ Turn w w' S := by
  obtain ⟨mb, E, hE, hS⟩ := h
  have HO := Lib.hid (stepOn_any n hn G.hi w hE)
  have hSg : ∀ k, k = g → S k := fun k e => hS k (.inl e)
  by_cases hk : onE D n = 0
  · have hV : synV D n = { onV D n with F := put ⟨n, oldB D.F n, (oldB D.F n).length⟩ D.F } := by unfold synV; rw [if_pos hk, on_stp hk]
    have hVF : (onV D n).F = D.F := by rw [on_stp hk, stpV_F]
    have hlen : E.length ≤ 1000 := by rw [hE.len]; exact hF
    have hb0 : (lookE E n).f.b = oldB D.F n := by rw [look_f, hE.fs]
    have hL : Hid ((lookE E n).f.b.length ≤ 262144) := Lib.hid (by
      rw [hb0]
      have := G.room
      have h2 := old_len G.srt n [] 0
      rw [List.append_nil, used_put] at h2
      have h3 : (oldB D.F n).length + used (del n D.F) = used D.F + 0 := h2
      omega)
    -- whatever the world behind stepOn
    have HA : Hid (∀ w1, DiskE w1 g mb (onV D n) E → Turn w w1 (fun k => k = g) → w1.cell? ⟨g, 0, none⟩ = some (.map (some mb)) ∧ w1.frozen? ⟨g, 0, none⟩ = false ∧ (Instr.lookup 62 (.map (some mb)) (sV n) false).run Tryz.prog w1 = .ok (lookE E n).val w1 ∧
        ∀ w2, Below w1.heap.size w1 w2 → w2.cell? ⟨g, 0, none⟩ = some (.map (some mb)) ∧ w2.frozen? ⟨g, 0, none⟩ = false ∧ ∃ w3, (Instr.mapUpdate 62 (.map (some mb)) (sV n) (.agg #[.slice (lookE E n).A (lookE E n).f.b.length (lookE E n).c, .int .i64 ((lookE E n).f.b.length : Int)])).run Tryz.prog w2 = .ok () w3 ∧
          Hid (DiskP w3 (More w S) g (synV D n) ∧ Turn w w3 S)) := Lib.hid (fun w1 h1 t1 => by
      refine ⟨h1.cells.read 0, h1.cells.soft 0, look_run h1.own h1.ok hn, fun w2 b2 => ?_⟩
      have h2 := h1.below b2
      refine ⟨h2.cells.read 0, h2.cells.soft 0, ?_⟩
      obtain ⟨w3, hrun, ho, hg, -⟩ := put_run h2.own (by omega) (e := ⟨⟨n, (lookE E n).f.b, (lookE E n).f.b.length⟩, (lookE E n).A, (lookE E n).c⟩) (look_ok h2.ok n) hn
      refine ⟨w3, hrun, Lib.hid ?_⟩
      obtain ⟨p1, p2⟩ := put_back h1 hS b2 (row_as (e' := ⟨⟨n, (lookE E n).f.b, (lookE E n).f.b.length⟩, (lookE E n).A, (lookE E n).c⟩) (h1.look_row n) rfl rfl rfl) (h1.look_apart n) (h1.look_far n) ho hg
      refine ⟨?_, (t1.wide hSg).trans p2 fun j hj => .inl hj⟩
      rw [hV]
      have : ({ onV D n with F := put ⟨n, (lookE E n).f.b, (lookE E n).f.b.length⟩ (onV D n).F } : Dk) = { onV D n with F := put ⟨n, oldB D.F n, (oldB D.F n).length⟩ D.F } := by rw [hb0, hVF]
      rw [← this]
      exact p1.more)
    rw [hk] at HO ⊢
    clear hE hV hVF hlen hb0 hk hS hSg
    generalize lookE E n = e0 at HA hL
    generalize onV D n = D1 at HO HA
    generalize synV D n = D2 at HA ⊢
    have hl := hL.out
    go_enter Tryz.func69, Tryz.ntmps69
    go_upto_region 4 with (go_at_call 62; refine HO.out.mono ?_; rintro e w1 ⟨rfl, d1, t1⟩; have D1' := Lib.hid d1; have T1 := Lib.hid t1; clear d1 t1)
    obtain ⟨k0, k1, hlk, hnx⟩ := HA.out w1 D1'.out T1.out
    have HN := Lib.hid hnx
    clear hnx HA
    go_upto_region 6 with fail
    change Code.wp _ _ _ _ (w1.alloc (.cells #[.slice e0.A e0.f.b.length e0.c, .int .i64 (e0.f.b.length : Int)] 79))
    have B2 := Lib.hid ((fresh1' w1 (.cells #[.slice e0.A e0.f.b.length e0.c, .int .i64 (e0.f.b.length : Int)] 79)).drew)
    have OZ : Whole (w1.alloc (.cells #[.slice e0.A e0.f.b.length e0.c, .int .i64 (e0.f.b.length : Int)] 79)).drew w1.heap.size 79 #[.slice e0.A e0.f.b.length e0.c, .int .i64 (e0.f.b.length : Int)] := Whole.fresh w1 79 #[.slice e0.A e0.f.b.length e0.c, .int .i64 (e0.f.b.length : Int)]
    obtain ⟨m0, m1, w3, hput, HD⟩ := HN.out _ B2.out
    have hld := fun W (hW : Whole W w1.heap.size 79 #[.slice e0.A e0.f.b.length e0.c, .int .i64 (e0.f.b.length : Int)]) => loaded (P := Tryz.prog) hW Tryz.underlying79 rfl info59
    have hl2 := hld _ OZ
    clear k0 k1 hlk hld OZ
    go_region
    go_wp2_with fail
    go_ret
    exact ⟨rfl, HD.out⟩
  · have hV : synV D n = onV D n := by unfold synV; rw [if_neg hk]
    rw [hV]
    have hk' : (onE D n == 0) = false := by simpa using hk
    clear hE hk hV
    generalize onV D n = D1 at HO ⊢
    generalize onE D n = k at HO hk' ⊢
    go_enter Tryz.func69, Tryz.ntmps69
    go_wp2_with (go_at_call 62; refine HO.out.mono ?_; rintro e w1 ⟨rfl, d1, t1⟩; have D1' := Lib.hid d1; have T1 := Lib.hid t1; clear d1 t1)
    go_ret
    exact ⟨rfl, DiskP.more ⟨mb, E, D1'.out, hS⟩, T1.out.wide hSg⟩
set_option maxRecDepth 100000 in
theorem remove_any {S : Nat → Prop} {g : Nat} {D : Dk} (G : GoodD D) (n : Bs) (hn : n.length ≤ 100000) (w : World) (h : DiskP w S g D) :
    Calls Tryz.prog 35 #[.pointer (some ⟨g, 0, none⟩), sV n] w fun e w' => e = .returned (.int .i64 (onE D n)) ∧ DiskP w' (More w S) g (remV D n) ∧ Turn w w' S := by
  obtain ⟨mb, E, hE, hS⟩ := h
  have HO := Lib.hid (stepOn_any n hn G.hi w hE)
  have hSg : ∀ k, k = g → S k := fun k e => hS k (.inl e)
  by_cases hk : onE D n = 0
  · have hV : remV D n = { onV D n with F := del n (onV D n).F } := by unfold remV; rw [if_pos hk, on_stp hk, stpV_F]
    have HA : Hid (∀ w1, DiskE w1 g mb (onV D n) E → Turn w w1 (fun k => k = g) → w1.cell? ⟨g, 0, none⟩ = some (.map (some mb)) ∧ w1.frozen? ⟨g, 0, none⟩ = false ∧ ∃ w3, (Builtin.delete_ #[62, 9] 0 #[.map (some mb), sV n]).run Tryz.prog w1 = .ok (.tuple #[]) w3 ∧
          Hid (DiskP w3 (More w S) g (remV D n) ∧ Turn w w3 S)) := Lib.hid (fun w1 h1 t1 => by
      refine ⟨h1.cells.read 0, h1.cells.soft 0, ?_⟩
      obtain ⟨w3, hrun, ho, hg, -⟩ := del_run h1.own hn 0
      refine ⟨w3, hrun, Lib.hid ⟨?_, (t1.wide hSg).trans (turn_grown hg (S := S) fun k e => by cases e; exact hS mb (.inr (.inl rfl))) fun j hj => .inl hj⟩⟩
      rw [hV]
      exact DiskP.more ⟨mb, delE n E, h1.del ho hg, fun k hk => hS k (blk_del hk)⟩)
    rw [hk] at HO ⊢
    clear hE hV hk hS hSg
    generalize onV D n = D1 at HO HA
    generalize remV D n = D2 at HA ⊢
    go_enter Tryz.func35, Tryz.ntmps35
    go_upto_region 4 with (go_at_call 62; refine HO.out.mono ?_; rintro e w1 ⟨rfl, d1, t1⟩; have D1' := Lib.hid d1; have T1 := Lib.hid t1; clear d1 t1)
    obtain ⟨k0, k1, w3, hdel, HD⟩ := HA.out w1 D1'.out T1.out
    clear HA
    go_wp2_with fail
    go_ret
    exact ⟨rfl, HD.out⟩
  · have hV : remV D n = onV D n := by unfold remV; rw [if_neg hk]
    rw [hV]
    have hk' : (onE D n == 0) = false := by simpa using hk
    clear hE hk hV
    generalize onV D n = D1 at HO ⊢
    generalize onE D n = k at HO hk' ⊢
    go_enter Tryz.func35, Tryz.ntmps35
    go_wp2_with (go_at_call 62; refine HO.out.mono ?_; rintro e w1 ⟨rfl, d1, t1⟩; have D1' := Lib.hid d1; have T1 := Lib.hid t1; clear d1 t1)
    go_ret
    exact ⟨rfl, DiskP.more ⟨mb, E, D1'.out, hS⟩, T1.out.wide hSg⟩
theorem add_at (g j : Nat) : (⟨g, 0, none⟩ : Addr).add j = ⟨g, j, none⟩ := by
  unfold Addr.add
  by_cases h : j = 0 <;> simp [h]
/-- A file's bytes as a text. -/
theorem RowE.text {w : World} {e : Fe} (h : RowE w e) : (convert 77 9 (.slice e.A e.f.b.length e.c)).run Tryz.prog w = .ok (sV e.f.b) w := by
  rcases h.ok with hA | ⟨g, hA⟩
  · have h0 : e.f.b = [] := by
      rcases h.1.2 with ⟨-, hn⟩ | ⟨g, cap, cur, hv, -⟩
      · exact List.eq_nil_of_length_eq_zero hn
      · injection hv with h1
        rw [hA] at h1
        cases h1
    rw [hA, h0]
    exact run_convert_bytes_nil (w := w) 77 5 Tryz.underlying77 Tryz.underlying5 0 e.c 9 Tryz.underlying9
  · rw [hA]
    refine run_convert_bytes_back w 77 9 5 ⟨g, 0, none⟩ e.c e.f.b Tryz.underlying77 Tryz.underlying5 Tryz.underlying9 ?_
    intro j hj
    exact World.ownsRow.cells h.1 (g := g) (by show Value.ownBlock (.slice e.A _ _) = _; rw [hA]; rfl) j _ (by simp [bsC, List.getElem?_map, List.getElem?_eq_getElem hj])
set_option maxRecDepth 100000 in
theorem read_any {g mb : Nat} {D : Dk} {E : List Fe} (n : Bs) (hn : n.length ≤ 100000) (w : World) (h : DiskE w g mb D E) :
    Calls Tryz.prog 58 #[.pointer (some ⟨g, 0, none⟩), sV n] w fun e w' => e = .returned (.tuple #[sV (readV D n), .int .i64 (readE D n)]) ∧ Below w.heap.size w w' := by
  have c1 : w.cell? ⟨g, 1, none⟩ = some (.bool D.off) := h.cells.read 1
  have f1 : w.frozen? ⟨g, 1, none⟩ = false := h.cells.soft 1
  have c0 : w.cell? ⟨g, 0, none⟩ = some (.map (some mb)) := h.cells.read 0
  have f0 : w.frozen? ⟨g, 0, none⟩ = false := h.cells.soft 0
  have HE : Hid (readE D n = if D.off = true then 14 else if lk D.F n = none then 3 else 0) := Lib.hid rfl
  have HV : Hid (readV D n = if D.off = true then [] else oldB D.F n) := Lib.hid rfl
  have hlk := look_ok_run h.own h.ok hn
  rw [isSome_lk h.fs n] at hlk
  have hb0 : (lookE E n).f.b = oldB D.F n := by rw [look_f, h.fs]
  have HT : Hid (∀ w1, Below w.heap.size w w1 → (convert 77 9 (.slice (lookE E n).A (lookE E n).f.b.length (lookE E n).c)).run Tryz.prog w1 = .ok (sV (oldB D.F n)) w1) := Lib.hid (fun w1 b => by
    have := ((h.below b).look_row n).text
    rw [hb0] at this ⊢
    exact this)
  have h0 : lk D.F n = none → oldB D.F n = [] := fun e => by unfold oldB; rw [e]; rfl
  clear h hb0
  generalize lookE E n = e0 at hlk HT
  generalize readE D n = re at HE ⊢
  generalize readV D n = rv at HV ⊢
  generalize oldB D.F n = ob at HV HT h0
  generalize D.off = o at c1 HE HV
  cases o
  · by_cases hf : lk D.F n = none
    · have e1 : re = 3 := by have := HE.out; rw [if_neg (by simp), if_pos hf] at this; exact this
      have e2 : rv = [] := by have := HV.out; rw [if_neg (by simp), h0 hf] at this; exact this
      rw [decide_eq_false (by simp [hf])] at hlk
      subst e1 e2
      clear HE HV hf h0 HT
      go_enter Tryz.func58, Tryz.ntmps58
      go_wp2_with fail
      go_ret2
      exact ⟨rfl, fresh1' _ _⟩
    · have e1 : re = 0 := by have := HE.out; rw [if_neg (by simp), if_neg hf] at this; exact this
      have e2 : rv = ob := by have := HV.out; rw [if_neg (by simp)] at this; exact this
      rw [decide_eq_true hf] at hlk
      have ht := HT.out _ (fresh1' w (.cells #[.slice e0.A e0.f.b.length e0.c, .int .i64 (e0.f.l : Int)] 79))
      subst e1 e2
      clear HE HV hf h0 HT
      go_enter Tryz.func58, Tryz.ntmps58
      go_wp2_with fail
      go_ret2
      exact ⟨rfl, fresh1' _ _⟩
  · have e1 : re = 14 := HE.out
    have e2 : rv = [] := HV.out
    subst e1 e2
    clear HE HV h0 HT hlk
    go_enter Tryz.func58, Tryz.ntmps58
    go_wp2_with fail
    go_ret2
    exact ⟨rfl, Below.refl _ _⟩
theorem lasts_any {g mb : Nat} {D : Dk} {E : List Fe} (n : Bs) (hn : n.length ≤ 100000) (w : World) (h : DiskE w g mb D E) :
    Calls Tryz.prog 68 #[.pointer (some ⟨g, 0, none⟩), sV n] w fun e w' => e = .returned (.int .i64 (oldL D.F n : Int)) ∧ w = w' := by
  have c0 : w.cell? ⟨g, 0, none⟩ = some (.map (some mb)) := h.cells.read 0
  have f0 : w.frozen? ⟨g, 0, none⟩ = false := h.cells.soft 0
  have hlk := look_run h.own h.ok hn
  have hl0 : (lookE E n).f.l = oldL D.F n := by rw [look_f, h.fs]
  rw [← hl0]
  clear h hl0
  generalize lookE E n = e0 at hlk ⊢
  have hfl : ∀ (A : Option Addr) (m c : Nat) (x : Int) (W : World), (Instr.field 79 (.agg #[.slice A m c, .int .i64 x]) 1).run Tryz.prog W = .ok (.int .i64 x) W := fun A m c x W => by kernel_rfl
  go_enter Tryz.func68, Tryz.ntmps68
  go_wp2_with fail
  go_ret
  exact ⟨rfl, rfl⟩
end Go.Proofs.YtfpmcomigolacaaGreatDoor.disk
