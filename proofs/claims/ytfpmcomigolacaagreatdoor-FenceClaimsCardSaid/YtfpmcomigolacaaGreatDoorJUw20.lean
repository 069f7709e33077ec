/-
  For the contract of Open: its results, the end of the row of numbers, and what holds between two removals.
  The contract of Open.
-/
import Derived.Test.YtfpmcomigolacaaGreatDoorJUw18
import Derived.Deep.CutBlock
import Derived.Deep.CutRange
import Derived.Stop.RegionWithIn
set_option linter.unusedSimpArgs false
set_option linter.unusedVariables false
namespace Go.Proofs.YtfpmcomigolacaaGreatDoor.wal
open Go.ChangeShapes Go.WideShapes Go.ChangeAt Go.RowKit Go.Maps Go.WideMaps
open Go.Proofs.YtfpmcomigolacaaGreatDoor.opened Go.Proofs.YtfpmcomigolacaaGreatDoor.block Go.Proofs.YtfpmcomigolacaaGreatDoor.words Go.Proofs.YtfpmcomigolacaaGreatDoor.disk Go.Proofs.YtfpmcomigolacaaGreatDoor.tailed Go.Proofs.YtfpmcomigolacaaGreatDoor.enc Go.Proofs.YtfpmcomigolacaaGreatDoor.code Go.Proofs.YtfpmcomigolacaaGreatDoor.region Go.Proofs.YtfpmcomigolacaaGreatDoor.seqBox
theorem cell_res7 {tmps : Array Value} {W : World} {n0 : Nat} {u v : Value} (h2 : tmps.getD 6 undef = .pointer (some ⟨n0 + 1, 0, none⟩)) (h3 : tmps.getD 7 undef = .pointer (some ⟨n0 + 2, 0, none⟩)) (b2 : Boxed W (n0 + 1) 28 u) (b3 : Boxed W (n0 + 2) 29 v) :
    (results Tryz.f9 tmps).run Tryz.prog W = .ok (.tuple #[u, v]) W := by
  have hr : Tryz.f9.results = #[.cell 6 28, .cell 7 29] := rfl
  have a1 := run_isAgg_plain Tryz.underlying28 rfl W
  have a2 := run_isAgg_plain Tryz.underlying29 rfl W
  have c2 := b2.cell
  have c3 := b3.cell
  have h2' : tmps[6]?.getD undef = .pointer (some ⟨n0 + 1, 0, none⟩) := by simpa using h2
  have h3' : tmps[7]?.getD undef = .pointer (some ⟨n0 + 2, 0, none⟩) := by simpa using h3
  simp [results, h2', h3', asAddr, loadVar, a1, a2, Sem.run_bind, Result.andThen, go_sem, c2, c3]
theorem boxed_under {W W' : World} {B n : Nat} {t : TypeId} {v : Value} (h : Boxed W B t v) (hb : Below n W W') (hlt : B < n) : Boxed W' B t v := (hb.block B hlt).trans h
theorem boxed_wt {W W' : World} {B : Nat} {t : TypeId} {v : Value} {Q : Nat → Prop} (h : Boxed W B t v) (k : WT W W' Q) (hn : ¬ Q B) (h1 : t ≠ 64) (h2 : t ≠ 5) : Boxed W' B t v := k.block _ _ h hn (not_dobj h1 h2)
/-- A row from k on. -/
theorem slice_from {w : World} {base : Nat} {A : Option Addr} {c : Nat} {N : List Int} (h : w.ownsRow base 3 1 (.slice A N.length c) N.length (N.map (Value.int .i64))) {k : Nat} (hk : k ≤ N.length) :
    ∃ A2 c2, (∀ W, (Instr.slice 23 (.slice A N.length c) (some (.int .i64 (k : Int))) none none).run Tryz.prog W = .ok (.slice A2 (N.length - k) c2) W) ∧ ∀ j x, (N.drop k)[j]? = some x → ∃ g, A = some ⟨g, 0, none⟩ ∧ A2 = some ⟨g, k, none⟩ ∧ g < w.heap.size ∧ w.cell? ⟨g, k + j, none⟩ = some (.int .i64 x) := by
  have hat : ∀ j x, (N.drop k)[j]? = some x → ∃ g, A = some ⟨g, 0, none⟩ ∧ g < w.heap.size ∧ w.cell? ⟨g, k + j, none⟩ = some (.int .i64 x) := fun j x hx => by
    rw [List.getElem?_drop] at hx
    exact own_at h (by rw [List.getElem?_map, hx]; rfl)
  rcases h.2 with ⟨hv, hz⟩ | ⟨g, cap, cur, hv, hg, hh, hc, hm, hs, ht⟩
  · injection hv with h1 h2 h3
    subst h1 h3
    have hk0 : k = 0 := by omega
    subst hk0
    refine ⟨none, 0, fun W => ?_, fun j x hx => ?_⟩
    · rw [hz]
      go_simp
    · obtain ⟨g, e, -⟩ := hat j x hx
      cases e
  · injection hv with h1 h2 h3
    subst h1 h3
    generalize hNl : N.length = n at *
    have hc2 : c ≤ 9223372036854775807 := by unfold maxLen at hm; omega
    by_cases hck : c = k
    · have : n = k := by omega
      subst this
      refine ⟨some ⟨g, 0, none⟩, 0, fun W => ?_, fun j x hx => ?_⟩
      · have h3 : ((c : Int) - (n : Int)).toNat = 0 := by omega
        have h2 : ((n : Int) - (n : Int)).toNat = 0 := by omega
        subst hck
        go_simp
      · obtain ⟨g', e, q, qc⟩ := hat j x hx
        have := List.getElem?_eq_some_iff.1 hx
        obtain ⟨hlt, -⟩ := this
        rw [List.length_drop] at hlt
        omega
    · have h2 : ((n : Int) - (k : Int)).toNat = n - k := by omega
      have h3 : ((c : Int) - (k : Int)).toNat = c - k := by omega
      refine ⟨some ⟨g, k, none⟩, c - k, fun W => ?_, fun j x hx => ?_⟩
      · go_simp
      · obtain ⟨g', e, q, qc⟩ := hat j x hx
        injection e with e
        injection e with e
        subst e
        exact ⟨_, rfl, rfl, q, qc⟩
theorem add_at' (g k j : Nat) : (⟨g, k, none⟩ : Addr).add j = ⟨g, k + j, none⟩ := by
  unfold Addr.add
  by_cases h : j = 0 <;> simp [h]

/-! ### Removals -/
theorem rm_snoc {nm : Bs} {k : Int} : ∀ (M : List Int) (D D' : Dk), rmV nm D M = (0, D') → rmV nm D (M ++ [k]) = if onE D' (fn nm k) ≠ 0 then (onE D' (fn nm k), remV D' (fn nm k)) else (0, remV D' (fn nm k))
  | [], D, D', h => by
    unfold rmV at h
    cases h
    show (if onE D (fn nm k) ≠ 0 then _ else rmV nm (remV D (fn nm k)) []) = _
    rfl
  | x :: r, D, D', h => by
    unfold rmV at h
    show (if onE D (fn nm x) ≠ 0 then _ else rmV nm (remV D (fn nm x)) (r ++ [k])) = _
    by_cases e : onE D (fn nm x) ≠ 0
    · rw [if_pos e] at h
      injection h with h1 h2
      exact absurd h1 e
    · rw [if_neg e] at h ⊢
      exact rm_snoc r _ _ h
theorem rm_stop {nm : Bs} (s : List Int) : ∀ (M : List Int) (D D' : Dk) (e : Int), e ≠ 0 → rmV nm D M = (e, D') → rmV nm D (M ++ s) = (e, D')
  | [], D, D', e, he, h => by
    unfold rmV at h
    injection h with h1 h2
    exact absurd h1.symm he
  | x :: r, D, D', e, he, h => by
    unfold rmV at h
    show (if onE D (fn nm x) ≠ 0 then _ else rmV nm (remV D (fn nm x)) (r ++ s)) = _
    by_cases q : onE D (fn nm x) ≠ 0
    · rw [if_pos q] at h ⊢
      exact h
    · rw [if_neg q] at h ⊢
      exact rm_stop s r _ _ e he h
theorem rm_good {nm : Bs} : ∀ (M : List Int) (D : Dk), GoodD D → GoodD (rmV nm D M).2 ∧ (rmV nm D M).2.F.length ≤ D.F.length
  | [], D, G => ⟨G, Nat.le_refl _⟩
  | x :: r, D, G => by
    unfold rmV
    have g1 := good_rem G (fn nm x)
    have l1 := rem_len (D := D) (fn nm x)
    split
    · exact ⟨g1, l1⟩
    · obtain ⟨h1, h2⟩ := rm_good r _ g1
      exact ⟨h1, Nat.le_trans h2 l1⟩
/-- Between two removals; b: the box of the iterator. -/
structure OB (b B n0 gl gd : Nat) (w : World) (L : Lg) (A : Option Addr) (c : Nat) (R : Option Addr) (d : Nat) (p : Value) (e : Int) (D' : Dk) (W : World) : Prop where
  disk : DiskP W (fun k => B ≤ k ∧ k < b) gd D'
  log : LogE W gl gd L A c R d
  lb : ∀ k, lblk gl A R k → w.heap.size ≤ k ∧ k < b
  b3 : Boxed W n0 26 (.pointer (some ⟨gd, 0, none⟩))
  b6 : Boxed W (n0 + 1) 28 p
  b7 : Boxed W (n0 + 2) 29 (.int .i64 e)
  b9 : Boxed W (gl + 1) 28 (.pointer (some ⟨gl, 0, none⟩))
  hn : n0 = w.heap.size ∧ n0 + 3 ≤ gl ∧ gl + 1 < b ∧ B ≤ n0
  below : Below B w W
  wt : WT w W (fun _ => False)
  size : b ≤ W.heap.size
section
variable {b B n0 gl gd : Nat} {w : World} {L : Lg} {A : Option Addr} {c : Nat} {R : Option Addr} {d : Nat} {p : Value} {e : Int} {D' : Dk} {W W' : World}
theorem OB.same (h : OB b B n0 gl gd w L A c R d p e D' W) (os : W'.os = W.os) (tape : W'.tape = W.tape) (out : W'.output = W.output) (hz : W.heap.size ≤ W'.heap.size) (hs : ∀ k, k < b → W'.heap[k]? = W.heap[k]?) : OB b B n0 gl gd w L A c R d p e D' W' := by
  obtain ⟨h1, h2, h3, h4⟩ := h.hn
  obtain ⟨mb, E, hE, hS⟩ := h.disk
  have hws : w.heap.size ≤ b := by omega
  exact ⟨⟨mb, E, hE.same fun k hk => hs k (hS k hk).2, hS⟩, h.log.same fun k hk => hs k (h.lb k hk).2, h.lb, (hs _ (by omega)).trans h.b3, (hs _ (by omega)).trans h.b6, (hs _ (by omega)).trans h.b7, (hs _ (by omega)).trans h.b9, h.hn,
    ⟨os.trans h.below.os, tape.trans h.below.tape, out.trans h.below.output, Nat.le_trans h.below.size hz, fun k hk => (hs k (by omega)).trans (h.below.block k hk)⟩,
    ⟨os.trans h.wt.os, tape.trans h.wt.tape, out.trans h.wt.output, Nat.le_trans h.wt.size hz, fun k o ho hn hd => (hs k (by have := (Array.getElem?_eq_some_iff.1 ho).1; omega)).trans (h.wt.block k o ho hn hd)⟩, Nat.le_trans h.size hz⟩
theorem OB.later (h : OB b B n0 gl gd w L A c R d p e D' W) (hb : Below W.heap.size W W') : OB b B n0 gl gd w L A c R d p e D' W' :=
  h.same hb.os hb.tape hb.output hb.size fun k hk => hb.block k (by have := h.size; omega)
theorem OB.rest {row : Option Nat} (h : OB b B n0 gl gd w L A c R d p e D' W) (hg : W.grownBy W' row) (hr : ∀ r, row = some r → b ≤ r) : OB b B n0 gl gd w L A c R d p e D' W' :=
  h.same hg.os hg.tape hg.output hg.size fun k hk => hg.block k (by have := h.size; omega) fun q => by have := hr k q.symm; omega
/-- A removal. -/
theorem OB.rem {D2 : Dk} (h : OB b B n0 gl gd w L A c R d p e D' W) (hd : DiskP W' (fun k => B ≤ k ∧ k < b) gd D2) (ht : Turn W W' (fun k => B ≤ k ∧ k < b)) (hw : WT W W' (fun _ => False)) : OB b B n0 gl gd w L A c R d p e D2 W' :=
  ⟨hd, h.log.wt hw fun _ _ q => q, h.lb, boxed_wt h.b3 hw (fun q => q) (by decide) (by decide), boxed_wt h.b6 hw (fun q => q) (by decide) (by decide), boxed_wt h.b7 hw (fun q => q) (by decide) (by decide), boxed_wt h.b9 hw (fun q => q) (by decide) (by decide), h.hn,
    h.below.trans (Turn.below ht (by have := h.hn; have := h.size; omega) (fun k hk => hk.1)), h.wt.trans hw fun _ q => q.elim, Nat.le_trans h.size ht.size⟩
/-- What is told of an error. -/
theorem OB.set (h : OB b B n0 gl gd w L A c R d p e D' W) (p2 : Value) (e2 : Int) : OB b B n0 gl gd w L A c R d p2 e2 D' ((W.setCell ⟨n0 + 1, 0, none⟩ p2).setCell ⟨n0 + 2, 0, none⟩ (.int .i64 e2)) := by
  obtain ⟨h1, h2, h3, h4⟩ := h.hn
  have g1 := grownBy_setCell' W (n0 + 1) p2
  have g2 := grownBy_setCell' (W.setCell ⟨n0 + 1, 0, none⟩ p2) (n0 + 2) (.int .i64 e2)
  obtain ⟨mb, E, hE, hS⟩ := h.disk
  have hh : ∀ k, k ≠ n0 + 1 → k ≠ n0 + 2 → ((W.setCell ⟨n0 + 1, 0, none⟩ p2).setCell ⟨n0 + 2, 0, none⟩ (.int .i64 e2)).heap[k]? = W.heap[k]? := fun k k1 k2 => (Below.heap_setCell _ _ _ k (by simpa using k2)).trans (Below.heap_setCell _ _ _ k (by simpa using k1))
  have nd : ∀ k, blk gd mb E k → k ≠ n0 + 1 ∧ k ≠ n0 + 2 := fun k hk => by
    obtain ⟨o, ho, hd⟩ := disk_obj hE hk
    refine ⟨fun q => ?_, fun q => ?_⟩
    · subst q
      rw [h.b6] at ho
      cases ho
      exact not_dobj (by decide) (by decide) hd
    · subst q
      rw [h.b7] at ho
      cases ho
      exact not_dobj (by decide) (by decide) hd
  have hs : ((W.setCell ⟨n0 + 1, 0, none⟩ p2).setCell ⟨n0 + 2, 0, none⟩ (.int .i64 e2)).heap.size = W.heap.size := by simp [World.setCell]
  refine ⟨⟨mb, E, hE.same fun k hk => hh k (nd k hk).1 (nd k hk).2, hS⟩, h.log.same fun k hk => ?_, h.lb, (hh _ (by omega) (by omega)).trans h.b3, (h.b6.set p2).kept g2 (by simp), (h.b7.kept g1 (by simp)).set _, (hh _ (by omega) (by omega)).trans h.b9, h.hn,
    (h.below.setCell (p := ⟨n0 + 1, 0, none⟩) (by simp; omega) _).setCell (p := ⟨n0 + 2, 0, none⟩) (by simp; omega) _, ?_, by rw [hs]; exact h.size⟩
  · have hk2 := (h.lb k hk).1
    rcases hk with rfl | hk
    · exact hh _ (by omega) (by omega)
    · obtain ⟨t, cs, q1, q2⟩ := h.log.obj (.inr hk)
      refine hh k (fun q => ?_) (fun q => ?_)
      · subst q
        have := (show W.heap[n0 + 1]? = _ from q1).symm.trans h.b6
        injection this with this
        injection this with _ this
        rcases q2 with rfl | rfl | rfl <;> exact absurd this (by decide)
      · subst q
        have := (show W.heap[n0 + 2]? = _ from q1).symm.trans h.b7
        injection this with this
        injection this with _ this
        rcases q2 with rfl | rfl | rfl <;> exact absurd this (by decide)
  · refine ⟨h.wt.os, h.wt.tape, h.wt.output, by rw [hs]; exact h.wt.size, fun k o ho hn hd => (hh k ?_ ?_).trans (h.wt.block k o ho hn hd)⟩ <;> (have := (Array.getElem?_eq_some_iff.1 ho).1; omega)
/-- The block of the rounds' deferred calls is shut. -/
theorem OB.past {Dk : Nat} {x : Option (List Deferred)} (h : OB b B n0 gl gd w L A c R d p e D' W) (hk : W.heap[Dk]? = some (.deferred x)) (hlt : w.heap.size ≤ Dk) (o : Obj) : OB b B n0 gl gd w L A c R d p e D' (W.putObj Dk o) := by
  obtain ⟨h1, h2, h3, h4⟩ := h.hn
  have hs : (W.putObj Dk o).heap.size = W.heap.size := by simp [World.putObj]
  have hh : ∀ k, k ≠ Dk → (W.putObj Dk o).heap[k]? = W.heap[k]? := fun k hne => World.putObj_heap_other hne
  have nb : ∀ {k : Nat} {t : TypeId} {v : Value}, Boxed W k t v → k ≠ Dk := fun hb q => by
    subst q
    have := (show W.heap[_]? = _ from hb).symm.trans hk
    cases this
  obtain ⟨mb, E, hE, hS⟩ := h.disk
  refine ⟨⟨mb, E, hE.same fun k hkk => hh k fun q => ?_, hS⟩, h.log.same fun k hkk => hh k fun q => ?_, h.lb, (hh _ (nb h.b3)).trans h.b3, (hh _ (nb h.b6)).trans h.b6, (hh _ (nb h.b7)).trans h.b7, (hh _ (nb h.b9)).trans h.b9, h.hn,
    ⟨h.below.os, h.below.tape, h.below.output, by rw [hs]; exact h.below.size, fun k hkk => (hh k (by omega)).trans (h.below.block k hkk)⟩, ⟨h.wt.os, h.wt.tape, h.wt.output, by rw [hs]; exact h.wt.size, fun k o' ho hn hd => (hh k ?_).trans (h.wt.block k o' ho hn hd)⟩, by rw [hs]; exact h.size⟩
  · subst q
    obtain ⟨o', ho, hd⟩ := disk_obj hE hkk
    rw [hk] at ho
    cases ho
    rcases hd with ⟨_, _, q⟩ | ⟨_, _, q⟩ | ⟨_, _, q⟩ <;> cases q
  · subst q
    obtain ⟨t, cs, q1, -⟩ := h.log.obj hkk
    have := (show W.heap[_]? = _ from q1).symm.trans hk
    cases this
  · have := (Array.getElem?_eq_some_iff.1 ho).1
    omega
theorem OB.dturn (h : OB b B n0 gl gd w L A c R d p e D' W) : DTurn B gd D' w W := by
  obtain ⟨mb, E, hE, hS⟩ := h.disk
  exact ⟨⟨mb, E, hE, fun k hk => (hS k hk).1⟩, h.wt, h.below⟩
theorem OB.diskB (h : OB b B n0 gl gd w L A c R d p e D' W) : DiskB W B gd D' := h.dturn.disk
/-- The log is synced. -/
theorem OB.sync {M : Lg} {D2 : Dk} (h : OB b B n0 gl gd w L A c R d p e D' W) (hl : LogE W' gl gd M A c R d) (hd : DiskB W' B gd D2) (ht : WT W W' (fun k => k = gl)) (hb : Below B W W') : OB W'.heap.size B n0 gl gd w M A c R d p e D2 W' := by
  obtain ⟨h1, h2, h3, h4⟩ := h.hn
  obtain ⟨mb, E, hE, hS⟩ := hd
  have hz := h.size
  have hz2 := ht.size
  exact ⟨⟨mb, E, hE, fun k hk => ⟨hS k hk, hE.inside hk⟩⟩, hl, fun k hk => ⟨(h.lb k hk).1, hl.inside hk⟩, boxed_wt h.b3 ht (by omega) (by decide) (by decide), boxed_wt h.b6 ht (by omega) (by decide) (by decide), boxed_wt h.b7 ht (by omega) (by decide) (by decide), boxed_wt h.b9 ht (by omega) (by decide) (by decide), ⟨h1, h2, by omega, h4⟩,
    h.below.trans hb, h.wt.trans ht fun j hj => .inr (by omega), Nat.le_refl _⟩
end
end Go.Proofs.YtfpmcomigolacaaGreatDoor.wal
set_option linter.unusedSimpArgs false
set_option linter.unusedVariables false
namespace Go.Proofs.YtfpmcomigolacaaGreatDoor.wal
open Go.ChangeShapes Go.WideShapes Go.ChangeAt Go.RowKit Go.Maps Go.WideMaps
open Go.Proofs.YtfpmcomigolacaaGreatDoor.opened Go.Proofs.YtfpmcomigolacaaGreatDoor.block Go.Proofs.YtfpmcomigolacaaGreatDoor.words Go.Proofs.YtfpmcomigolacaaGreatDoor.disk Go.Proofs.YtfpmcomigolacaaGreatDoor.tailed Go.Proofs.YtfpmcomigolacaaGreatDoor.enc Go.Proofs.YtfpmcomigolacaaGreatDoor.code Go.Proofs.YtfpmcomigolacaaGreatDoor.region Go.Proofs.YtfpmcomigolacaaGreatDoor.seqBox
/-- What Open begins with. -/
theorem open_start (w : World) (gd : Nat) : ∀ W0, W0 = (((w.alloc (.cells #[.pointer (some ⟨gd, 0, none⟩)] 26)).alloc (.cells #[.pointer none] 28)).alloc (.cells #[.int .i64 0] 29)) →
    W0.heap.size = w.heap.size + 3 ∧ Boxed W0 w.heap.size 26 (.pointer (some ⟨gd, 0, none⟩)) ∧ Boxed W0 (w.heap.size + 1) 28 (.pointer none) ∧ Boxed W0 (w.heap.size + 2) 29 (.int .i64 0) ∧ Below w.heap.size w W0 := by
  intro W0 h0
  have step : ∀ (W : World) (k : Nat) (t : TypeId) (v : Value), W.heap.size = k → Boxed (W.alloc (.cells #[v] t)) k t v ∧ (W.alloc (.cells #[v] t)).heap.size = k + 1 := fun W k t v h => ⟨h ▸ Boxed.new W t v, by simp [h]⟩
  obtain ⟨b0, z0⟩ := step w _ 26 (.pointer (some ⟨gd, 0, none⟩)) rfl
  obtain ⟨b1, z1⟩ := step _ _ 28 (.pointer none) z0
  obtain ⟨b2, z2⟩ := step _ _ 29 (.int .i64 0) z1
  subst h0
  exact ⟨z2, (b0.alloc _).alloc _, b1.alloc _, b2, (((Below.refl w.heap.size w).alloc (Nat.le_refl _) _).alloc (by omega) _).alloc (by omega) _⟩
section
variable {gd B : Nat} {D : Dk} {w : World}
/-- What Open leaves. -/
def OpenPost (B gd : Nat) (w : World) (X : Int × Lg × Dk) (e : Ending) (w' : World) : Prop :=
  ∃ gl, e = .returned (.tuple #[if X.1 = 0 then .pointer (some ⟨gl, 0, none⟩) else .pointer none, .int .i64 X.1]) ∧ (X.1 = 0 → ∃ A c R d, LogE w' gl gd X.2.1 A c R d ∧ ∀ k, lblk gl A R k → w.heap.size ≤ k) ∧ DTurn B gd X.2.2 w w'
set_option maxRecDepth 100000 in
set_option maxHeartbeats 2000000 in
theorem open_bad (hE : EnvB B w) (hD : DiskB w B gd D) (nm : Bs) (hnm : nm.length ≤ 100000) (per : Int) (L : Lg) (hc : chkE D nm per ≠ 0) :
    Calls Tryz.prog 9 #[.pointer (some ⟨gd, 0, none⟩), sV nm, .int .i64 per] w fun e w' => OpenPost B gd w (chkE D nm per, L, D) e w' := by
  have hB := hE.le
  have hc2 : (chkE D nm per != 0) = true := by simpa using hc
  have HX : Hid (∀ e w', (∃ gl : Nat, e = .returned (.tuple #[.pointer none, .int .i64 (chkE D nm per)])) → Below w.heap.size w w' → OpenPost B gd w (chkE D nm per, L, D) e w') := Lib.hid fun e w' ⟨gl, h1⟩ hb => ⟨0, by rw [h1]; simp [hc], fun e => absurd e hc, dturn_below hD hB hb⟩
  obtain ⟨W0, hW0⟩ : ∃ W0, W0 = (((w.alloc (.cells #[.pointer (some ⟨gd, 0, none⟩)] 26)).alloc (.cells #[.pointer none] 28)).alloc (.cells #[.int .i64 0] 29)) := ⟨_, rfl⟩
  obtain ⟨z, b3, b6, b7, hb0⟩ := open_start w gd W0 hW0
  have c3 : W0.cell? ⟨w.heap.size, 0, none⟩ = some (.pointer (some ⟨gd, 0, none⟩)) := b3.cell
  have HCk := Lib.hid (check_log nm hnm per (hD.below hb0))
  have H6 := Lib.hid b6
  have H7 := Lib.hid b7
  have HB0 := Lib.hid hb0
  clear b3 b6 b7 hD hE hc hb0
  generalize chkE D nm per = ce at HCk HX hc2 ⊢
  go_enter Tryz.func9, Tryz.ntmps9
  go_upto_region 1 with fail
  rw [← hW0]
  clear hW0
  go_upto_region 3 with (go_at_call 31; refine HCk.out.mono ?_; rintro e w1 ⟨rfl, b1⟩; have B1 := Lib.hid b1; clear b1)
  have u6 : Boxed w1 (w.heap.size + 1) 28 (.pointer none) := (B1.out.block _ (by omega)).trans H6.out
  have u7 : Boxed w1 (w.heap.size + 2) 29 (.int .i64 0) := (B1.out.block _ (by omega)).trans H7.out
  have g1 := grownBy_setCell' w1 (w.heap.size + 1) (.pointer none)
  have v7 := u7.kept g1 (by simp)
  have c6 := u6.cell
  have c7 := v7.cell
  have f6 := u6.frozen
  have f7 := v7.frozen
  have V6 := Lib.hid ((u6.set (.pointer none)).kept (grownBy_setCell' (w1.setCell ⟨w.heap.size + 1, 0, none⟩ (.pointer none)) (w.heap.size + 2) (.int .i64 ce)) (by simp))
  have V7 := Lib.hid (v7.set (.int .i64 ce))
  have HB2 : Hid (Below w.heap.size w ((w1.setCell ⟨w.heap.size + 1, 0, none⟩ (.pointer none)).setCell ⟨w.heap.size + 2, 0, none⟩ (.int .i64 ce))) := Lib.hid (((HB0.out.trans (B1.out.mono (by omega))).setCell (p := ⟨w.heap.size + 1, 0, none⟩) (by simp) _).setCell (p := ⟨w.heap.size + 2, 0, none⟩) (by simp) _)
  go_wp2_with fail
  refine bodyPost_ret (cell_res7 rfl rfl V6.out V7.out) rfl ?_
  exact HX.out _ _ ⟨0, rfl⟩ HB2.out
end
end Go.Proofs.YtfpmcomigolacaaGreatDoor.wal
