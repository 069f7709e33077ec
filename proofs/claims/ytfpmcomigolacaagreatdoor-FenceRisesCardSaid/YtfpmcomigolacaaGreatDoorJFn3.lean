/-
  A fenced log in the world; the contracts of what only reads of it: Term, check, Base, Next, Synced, Get.
  The contracts of what writes to a fenced log: Claim, Append, Sync.
-/
import Derived.Test.YtfpmcomigolacaaGreatDoorJFn1
import Derived.Test.YtfpmcomigolacaaGreatDoorJRt4
set_option linter.unusedSimpArgs false
set_option linter.unusedVariables false
namespace Go.Proofs.YtfpmcomigolacaaGreatDoor.fence
open Go.ChangeShapes Go.WideShapes Go.ChangeAt Go.RowKit Go.Maps Go.WideMaps
open Go.Proofs.YtfpmcomigolacaaGreatDoor.opened Go.Proofs.YtfpmcomigolacaaGreatDoor.block Go.Proofs.YtfpmcomigolacaaGreatDoor.words Go.Proofs.YtfpmcomigolacaaGreatDoor.disk Go.Proofs.YtfpmcomigolacaaGreatDoor.tailed Go.Proofs.YtfpmcomigolacaaGreatDoor.enc Go.Proofs.YtfpmcomigolacaaGreatDoor.code Go.Proofs.YtfpmcomigolacaaGreatDoor.wal

/-- A fenced log, wherever its disk is. -/
structure FL (w : World) (gf gl gd : Nat) (L : Lg) (T : Int) : Prop where
  cell : Whole w gf 84 #[.pointer (some ⟨gl, 0, none⟩), .int .i64 T]
  lat : Lat w gl gd L
theorem FL.below {w w' : World} {gf gl gd : Nat} {L : Lg} {T : Int} (h : FL w gf gl gd L T) (hb : Below w.heap.size w w') : FL w' gf gl gd L T := ⟨h.cell.below hb h.cell.inside, h.lat.below hb⟩
theorem FL.wt {w w' : World} {gf gl gd : Nat} {L : Lg} {T : Int} (h : FL w gf gl gd L T) (hb : WT w w' (fun _ => False)) : FL w' gf gl gd L T := ⟨Whole.wt h.cell hb (fun f => f) (by decide) (by decide), h.lat.wt hb⟩
/-- .. and on its disk, in one word. -/
structure FSt (B gd gl gf : Nat) (L : Lg) (D : Dk) (T : Int) (w : World) : Prop where
  st : St B gd gl L D w
  cell : Whole w gf 84 #[.pointer (some ⟨gl, 0, none⟩), .int .i64 T]
  low : B ≤ gf
theorem FSt.fl {B gd gl gf : Nat} {L : Lg} {D : Dk} {T : Int} {w : World} (h : FSt B gd gl gf L D T w) : FL w gf gl gd L T := ⟨h.cell, h.st.lat⟩
theorem FSt.below {B gd gl gf : Nat} {L : Lg} {D : Dk} {T : Int} {w w' : World} (h : FSt B gd gl gf L D T w) (hb : Below w.heap.size w w') : FSt B gd gl gf L D T w' := ⟨h.st.below hb, h.cell.below hb h.cell.inside, h.low⟩
def chkT (T t : Int) : Int := if isTermB t = true then (if t < T then 13 else if T < t then 5 else 0) else 1
/-- What Get answers. -/
def fgE (L : Lg) (n : Int) : Int := gtE L n
def fgV (L : Lg) (n : Int) : En := if gtE L n = 0 then (decV (gtV L n)).1 else noE
section
variable {gf gl gd : Nat} {L : Lg} {T : Int} {w : World}
theorem fTerm_any (h : FL w gf gl gd L T) : Calls Tryz.prog 24 #[.pointer (some ⟨gf, 0, none⟩)] w fun e w' => e = .returned (.int .i64 T) ∧ Below w.heap.size w w' := by
  have c1 : w.cell? ⟨gf, 1, none⟩ = some (.int .i64 T) := h.cell.read 1
  have f1 : w.frozen? ⟨gf, 1, none⟩ = false := h.cell.soft 1
  clear h
  go_enter Tryz.func24, Tryz.ntmps24
  go_wp2_with fail
  go_ret
  exact ⟨rfl, Below.refl _ _⟩
theorem fNext_any (h : FL w gf gl gd L T) (G : GoodL L) (hn : nextN L ≤ 1125899906842624) : Calls Tryz.prog 27 #[.pointer (some ⟨gf, 0, none⟩)] w fun e w' => e = .returned (.int .i64 (nextN L)) ∧ Below w.heap.size w w' := by
  have c0 : w.cell? ⟨gf, 0, none⟩ = some (.pointer (some ⟨gl, 0, none⟩)) := h.cell.read 0
  have f0 : w.frozen? ⟨gf, 0, none⟩ = false := h.cell.soft 0
  have HC := Lib.hid (lat_next h.lat G hn)
  clear h G hn
  generalize nextN L = m at HC ⊢
  go_enter Tryz.func27, Tryz.ntmps27
  go_wp2_with (go_at_call 16; refine HC.out.mono ?_; rintro e w1 ⟨rfl, b1⟩)
  go_ret
  exact ⟨rfl, b1⟩
theorem fBase_any (h : FL w gf gl gd L T) : Calls Tryz.prog 29 #[.pointer (some ⟨gf, 0, none⟩)] w fun e w' => e = .returned (.int .i64 (baseN L)) ∧ Below w.heap.size w w' := by
  have c0 : w.cell? ⟨gf, 0, none⟩ = some (.pointer (some ⟨gl, 0, none⟩)) := h.cell.read 0
  have f0 : w.frozen? ⟨gf, 0, none⟩ = false := h.cell.soft 0
  have HC := Lib.hid (lat_base h.lat)
  clear h
  generalize baseN L = m at HC ⊢
  go_enter Tryz.func29, Tryz.ntmps29
  go_wp2_with (go_at_call 19; refine HC.out.mono ?_; rintro e w1 ⟨rfl, b1⟩)
  go_ret
  exact ⟨rfl, b1⟩
theorem fSynced_any (h : FL w gf gl gd L T) : Calls Tryz.prog 28 #[.pointer (some ⟨gf, 0, none⟩)] w fun e w' => e = .returned (.int .i64 L.syn) ∧ Below w.heap.size w w' := by
  have c0 : w.cell? ⟨gf, 0, none⟩ = some (.pointer (some ⟨gl, 0, none⟩)) := h.cell.read 0
  have f0 : w.frozen? ⟨gf, 0, none⟩ = false := h.cell.soft 0
  have HC := Lib.hid (lat_synced h.lat)
  clear h
  generalize L.syn = m at HC ⊢
  go_enter Tryz.func28, Tryz.ntmps28
  go_wp2_with (go_at_call 17; refine HC.out.mono ?_; rintro e w1 ⟨rfl, b1⟩)
  go_ret
  exact ⟨rfl, b1⟩
theorem fcheck_any (t : Int) (h : FL w gf gl gd L T) : Calls Tryz.prog 49 #[.pointer (some ⟨gf, 0, none⟩), .int .i64 t] w fun e w' => e = .returned (.int .i64 (chkT T t)) ∧ Below w.heap.size w w' := by
  have HT := Lib.hid (isTerm_any (w := w) t)
  have c1 : Hid (∀ w1, Below w.heap.size w w1 → w1.cell? ⟨gf, 1, none⟩ = some (.int .i64 T) ∧ w1.frozen? ⟨gf, 1, none⟩ = false) := Lib.hid fun w1 b => ⟨(h.below b).cell.read 1, (h.below b).cell.soft 1⟩
  clear h
  unfold chkT
  cases hb : isTermB t with
  | false =>
    rw [hb] at HT
    rw [if_neg (by decide)]
    clear hb c1
    go_enter Tryz.func49, Tryz.ntmps49
    go_wp2_with (go_at_call 47; refine HT.out.mono ?_; rintro e w1 ⟨rfl, b1⟩; have B1 := Lib.hid b1; clear b1)
    go_ret
    exact ⟨rfl, B1.out⟩
  | true =>
    rw [hb] at HT
    rw [if_pos rfl]
    clear hb
    by_cases h1 : t < T
    · rw [if_pos h1]
      go_enter Tryz.func49, Tryz.ntmps49
      go_wp2_with (go_at_call 47; refine HT.out.mono ?_; rintro e w1 ⟨rfl, b1⟩; have B1 := Lib.hid b1; obtain ⟨z1, y1⟩ := c1.out w1 b1; clear b1)
      go_ret
      exact ⟨rfl, B1.out⟩
    · rw [if_neg h1]
      by_cases h2 : T < t
      · rw [if_pos h2]
        go_enter Tryz.func49, Tryz.ntmps49
        go_wp2_with (go_at_call 47; refine HT.out.mono ?_; rintro e w1 ⟨rfl, b1⟩; have B1 := Lib.hid b1; obtain ⟨z1, y1⟩ := c1.out w1 b1; clear b1)
        go_ret
        exact ⟨rfl, B1.out⟩
      · rw [if_neg h2]
        go_enter Tryz.func49, Tryz.ntmps49
        go_wp2_with (go_at_call 47; refine HT.out.mono ?_; rintro e w1 ⟨rfl, b1⟩; have B1 := Lib.hid b1; obtain ⟨z1, y1⟩ := c1.out w1 b1; clear b1)
        go_ret
        exact ⟨rfl, B1.out⟩
set_option maxRecDepth 100000 in
theorem fGet_any (h : FL w gf gl gd L T) (G : GoodL L) (hn : nextN L ≤ 1125899906842624) (hsh : ∀ r ∈ L.recs, r.length ≤ 4096) (n : Int) (n0 : -9223372036854775808 ≤ n) (n1 : n ≤ 9223372036854775807) :
    Calls Tryz.prog 30 #[.pointer (some ⟨gf, 0, none⟩), .int .i64 n] w fun e w' => e = .returned (.tuple #[(fgV L n).val, .int .i64 (fgE L n)]) ∧ Below w.heap.size w w' := by
  have hvl : (gtV L n).length ≤ 100000 := by
    unfold gtV
    split
    · simp
    · cases hk : L.recs[(n - baseN L).toNat]? with
      | none => simp
      | some r =>
        have := hsh r (List.mem_of_getElem? hk)
        show r.length ≤ _
        omega
  have B1 : Hid (Below w.heap.size w (w.alloc (.cells zE 57))) := Lib.hid (fresh1' w _)
  have R1 : Hid (Whole (w.alloc (.cells zE 57)) w.heap.size 57 zE) := Lib.hid (Whole.fresh w 57 zE)
  have hb1 := fresh1' w (.cells zE 57)
  have HC := Lib.hid (lat_get (h.below hb1).lat G hn n n0 n1)
  have c0 : (w.alloc (.cells zE 57)).cell? ⟨gf, 0, none⟩ = some (.pointer (some ⟨gl, 0, none⟩)) := (h.below hb1).cell.read 0
  have f0 : (w.alloc (.cells zE 57)).frozen? ⟨gf, 0, none⟩ = false := (h.below hb1).cell.soft 0
  have HV : Hid (fgV L n = if gtE L n = 0 then (decV (gtV L n)).1 else noE) := Lib.hid rfl
  have HDe := Lib.hid (fun w1 => decode_any (gtV L n) hvl w1)
  unfold fgE
  clear h G hsh hvl hb1
  generalize fgV L n = dv at HV ⊢
  generalize decV (gtV L n) = dd at HV HDe
  generalize gtV L n = gv at HC HDe
  generalize gtE L n = ge at HC HV ⊢
  go_enter Tryz.func30, Tryz.ntmps30
  go_upto_region 1 with fail
  change Code.wp _ _ _ _ (w.alloc (.cells zE 57))
  generalize w.alloc (.cells zE 57) = W1 at B1 R1 HC c0 f0 ⊢
  obtain ⟨g0, hg0⟩ : ∃ g, g = w.heap.size := ⟨_, rfl⟩
  have HG0 := Lib.hid hg0
  rw [← hg0] at R1 ⊢
  clear hg0
  by_cases he : ge = 0
  · subst he
    have hdv := HV.out
    rw [if_pos rfl] at hdv
    subst hdv
    go_upto_region 4 with (go_at_call 20; refine HC.out.mono ?_; rintro e w2 ⟨rfl, b2⟩; have B2 := Lib.hid (then_below B1.out b2); have R2 := Lib.hid (R1.out.below b2 R1.out.inside); clear b2)
    clear c0 f0
    go_upto_region 5 with (go_at_call 50; refine (HDe.out _).mono ?_; rintro e w3 ⟨rfl, b3⟩; have B3 := Lib.hid (then_below B2.out b3); have R3 := Lib.hid (R2.out.below b3 R2.out.inside); clear b3)
    change Code.wp _ _ _ _ (w3.alloc (.cells dd.1.cells 57))
    have B4 := Lib.hid (B3.out.alloc B3.out.size (.cells dd.1.cells 57))
    have R4 := Lib.hid (R3.out.alloc (.cells dd.1.cells 57))
    have E4 := Lib.hid (Whole.fresh w3 57 dd.1.cells)
    have hlt := R3.out.inside
    generalize w3.alloc (.cells dd.1.cells 57) = W4 at B4 R4 E4 ⊢
    generalize w3.heap.size = g4 at E4 hlt ⊢
    go_wp2_with (first
        | (refine get rfl 57 (.tmp 8) rfl rfl E4.out Tryz.underlying57 rfl infoE ?_)
        | (refine put rfl 57 (.tmp 4) _ rfl (g := g0) rfl rfl R4.out (by kernel_rfl) rfl (by simp [Value.oneCell']) B4.out (by rw [HG0.out]; exact Nat.le_refl _) ?_; intro w9 hR9 hB9 hs9 ho9))
    exact bodyPost_ret (two_entry Tryz.results30 rfl rfl (e := dd.1) hR9) rfl ⟨rfl, hB9⟩
  · have hdv := HV.out
    rw [if_neg he] at hdv
    subst hdv
    have heb : (ge != 0) = true := by simpa using he
    clear HV he
    go_wp2_with (first
      | (go_at_call 20; refine HC.out.mono ?_; rintro e w2 ⟨rfl, b2⟩; have B2 := Lib.hid (then_below B1.out b2); have R2 := Lib.hid (R1.out.below b2 R1.out.inside); clear b2)
      | (refine put rfl 57 (.tmp 4) _ rfl (g := g0) rfl rfl R2.out (by kernel_rfl) rfl (by simp [Value.oneCell']) B2.out (by rw [HG0.out]; exact Nat.le_refl _) ?_; intro w9 hR9 hB9 hs9 ho9))
    exact bodyPost_ret (two_entry Tryz.results30 rfl rfl (e := noE) hR9) rfl ⟨rfl, hB9⟩
end
end Go.Proofs.YtfpmcomigolacaaGreatDoor.fence
set_option linter.unusedSimpArgs false
set_option linter.unusedVariables false
namespace Go.Proofs.YtfpmcomigolacaaGreatDoor.fence
open Go.ChangeShapes Go.WideShapes Go.ChangeAt Go.RowKit Go.Maps Go.WideMaps
open Go.Proofs.YtfpmcomigolacaaGreatDoor.region Go.Proofs.YtfpmcomigolacaaGreatDoor.opened Go.Proofs.YtfpmcomigolacaaGreatDoor.block Go.Proofs.YtfpmcomigolacaaGreatDoor.words Go.Proofs.YtfpmcomigolacaaGreatDoor.disk Go.Proofs.YtfpmcomigolacaaGreatDoor.tailed Go.Proofs.YtfpmcomigolacaaGreatDoor.enc Go.Proofs.YtfpmcomigolacaaGreatDoor.code Go.Proofs.YtfpmcomigolacaaGreatDoor.wal

/-- Of what was there below B nothing has turned, and no act of the laws. -/
structure BO (B : Nat) (w w' : World) : Prop where
  below : Below B w w'
  op : ∀ k cs, Whole w k 52 cs → Whole w' k 52 cs
theorem BO.trans {B : Nat} {a b c : World} (h : BO B a b) (k : BO B b c) : BO B a c := ⟨h.below.trans k.below, fun j cs hj => k.op j cs (h.op j cs hj)⟩
theorem BO.of {B : Nat} {w w' : World} (hb : Below w.heap.size w w') (hB : B ≤ w.heap.size) : BO B w w' := ⟨hb.mono hB, fun _ _ hk => hk.below hb hk.inside⟩
theorem bo_wt {B : Nat} {w w' : World} {Q : Nat → Prop} (hb : Below B w w') (hw : WT w w' Q) (hq : ∀ k cs, Whole w k 52 cs → ¬ Q k) : BO B w w' := ⟨hb, fun k cs hk => Whole.wt hk hw (hq k cs hk) (by decide) (by decide)⟩
section
variable {B gd gl gf : Nat} {L : Lg} {D : Dk} {T : Int} {w : World}
theorem not_lblk {A R : Option Addr} {c d : Nat} {cs : Array Value} (h : LogE w gl gd L A c R d) (hc : Whole w gf 84 cs) : ¬ lblk gl A R gf := fun hk => by
  obtain ⟨t, cs', h1, h2⟩ := h.obj hk
  have e : some (Obj.cells cs 84) = some (Obj.cells cs' t) := hc.symm.trans h1
  injection e with e
  injection e with e1 e2
  rcases h2 with h2 | h2 | h2 <;> (rw [h2] at e2; revert e2; decide)
theorem op_lblk {A R : Option Addr} {c d k : Nat} {cs : Array Value} (h : LogE w gl gd L A c R d) (hc : Whole w k 52 cs) : ¬ lblk gl A R k := fun hk => by
  obtain ⟨t, cs', h1, h2⟩ := h.obj hk
  have e : some (Obj.cells cs 52) = some (Obj.cells cs' t) := hc.symm.trans h1
  injection e with e
  injection e with e1 e2
  rcases h2 with h2 | h2 | h2 <;> (rw [h2] at e2; revert e2; decide)
theorem fst_append (h : FSt B gd gl gf L D T w) (hp : 1 ≤ L.per ∧ L.per ≤ 64) (hn : nextN L ≤ 1125899906842624) (hr : L.recs.length ≤ 1000000000) (hF : D.F.length ≤ 998) (s : Bs) (hs : s.length ≤ 100000) (G : GoodL (apL L D s)) (GD : GoodD (apD L D s)) :
    Calls Tryz.prog 11 #[.pointer (some ⟨gl, 0, none⟩), sV s] w fun e w' => e = .returned (.tuple #[.int .i64 (apN L D s), .int .i64 (apE L D s)]) ∧ FSt B gd gl gf (apL L D s) (apD L D s) T w' ∧ BO B w w' := by
  obtain ⟨A, c, R, d, h1, h2⟩ := h.st.log
  exact (append_log h.st.good hp hn hr h.st.gd hF h.st.env h1 h.st.disk h2 s hs).mono fun e w' ⟨q1, q2⟩ => ⟨q1, ⟨h.st.turn h2 h.st.le q2 G GD, Whole.wt h.cell q2.wt (not_lblk h1 h.cell) (by decide) (by decide), h.low⟩, bo_wt q2.below q2.wt fun k cs hk => op_lblk h1 hk⟩
theorem fst_sync (h : FSt B gd gl gf L D T w) (hn : nextN L ≤ 1125899906842624) (hF : D.F.length ≤ 998) :
    Calls Tryz.prog 12 #[.pointer (some ⟨gl, 0, none⟩)] w fun e w' => e = .returned (.int .i64 (syE L D)) ∧ FSt B gd gl gf (syL L D) (syD L D) T w' ∧ BO B w w' := by
  obtain ⟨A, c, R, d, h1, h2⟩ := h.st.log
  exact (sync_log h.st.good hn h.st.gd (by omega) h.st.env h1 h.st.disk (h2 gl (.inl rfl))).mono fun e w' ⟨q1, q2, q3, q4, q5⟩ =>
    ⟨q1, ⟨⟨⟨A, c, R, d, q2, h2⟩, q3, h.st.env.step q5, good_sy h.st.good D, (good_syD h.st.gd L).1⟩, Whole.wt h.cell q4 (fun e => not_lblk h1 h.cell (.inl e)) (by decide) (by decide), h.low⟩, bo_wt q5 q4 fun k cs hk e => op_lblk h1 hk (.inl e)⟩
theorem fst_set (h : FSt B gd gl gf L D T w) (t : Int) : FSt B gd gl gf L D t (w.setCell ⟨gf, 1, none⟩ (.int .i64 t)) ∧ BO B w (w.setCell ⟨gf, 1, none⟩ (.int .i64 t)) := by
  obtain ⟨A, c, R, d, h1, h2⟩ := h.st.log
  have hg : w.grownBy (w.setCell ⟨gf, 1, none⟩ (.int .i64 t)) (some gf) := only_store (World.grownBy.refl w _) _
  have hk : ∀ k, k ≠ gf → (w.setCell ⟨gf, 1, none⟩ (.int .i64 t)).heap[k]? = w.heap[k]? := fun k hk => Below.heap_setCell w _ _ k (by simpa using hk)
  have hb : Below B w (w.setCell ⟨gf, 1, none⟩ (.int .i64 t)) := (Below.refl B w).grown hg h.st.le fun j e => by cases e; exact h.low
  refine ⟨⟨⟨⟨A, c, R, d, h1.same fun k hb => hk k fun e => not_lblk h1 h.cell (e ▸ hb), h2⟩, DiskB.own h.st.disk hg (fun k e _ => ?_), h.st.env.step hb, h.st.good, h.st.gd⟩, ?_, h.low⟩, hb, fun k cs hk2 => (hk k fun e => ?_).trans hk2⟩
  · cases e
    exact ⟨_, _, h.cell, by decide, by decide⟩
  · have := h.cell.store 1 (.int .i64 t)
    simpa using this
  · subst e
    have e2 : some (Obj.cells cs 52) = _ := hk2.symm.trans h.cell
    injection e2 with e2
    injection e2 with _ e2
    revert e2
    decide

/-! ### What they do -/
def clR (t : Int) : Bs := encE ⟨t, true, []⟩
def clGo (T t : Int) : Bool := isTermB t && decide (T < t)
def clE (L : Lg) (D : Dk) (T t : Int) : Int := if isTermB t = true then (if t ≤ T then 13 else if apE L D (clR t) ≠ 0 then apE L D (clR t) else syE (apL L D (clR t)) (apD L D (clR t))) else 1
def clN (L : Lg) (D : Dk) (T t : Int) : Int := if clE L D T t = 0 then apN L D (clR t) else 0
def clL (L : Lg) (D : Dk) (T t : Int) : Lg := if clGo T t = true then (if apE L D (clR t) ≠ 0 then apL L D (clR t) else syL (apL L D (clR t)) (apD L D (clR t))) else L
def clD (L : Lg) (D : Dk) (T t : Int) : Dk := if clGo T t = true then (if apE L D (clR t) ≠ 0 then apD L D (clR t) else syD (apL L D (clR t)) (apD L D (clR t))) else D
def clT (L : Lg) (D : Dk) (T t : Int) : Int := if clGo T t = true then (if apE L D (clR t) ≠ 0 then T else t) else T
def faR (t : Int) (s : Bs) : Bs := encE ⟨t, false, s⟩
def faGo (T t : Int) (s : Bs) : Bool := decide (chkT T t = 0) && decide (s.length ≤ 4000)
def faE (L : Lg) (D : Dk) (T t : Int) (s : Bs) : Int := if chkT T t ≠ 0 then chkT T t else if 4000 < s.length then 7 else apE L D (faR t s)
def faN (L : Lg) (D : Dk) (T t : Int) (s : Bs) : Int := if faGo T t s = true then apN L D (faR t s) else 0
def faL (L : Lg) (D : Dk) (T t : Int) (s : Bs) : Lg := if faGo T t s = true then apL L D (faR t s) else L
def faD (L : Lg) (D : Dk) (T t : Int) (s : Bs) : Dk := if faGo T t s = true then apD L D (faR t s) else D
def Fa (x : Value) (B gd gl gf : Nat) (L : Lg) (D : Dk) (T : Int) : Value → World → Prop := fun u w => u = x ∧ FSt B gd gl gf L D T w
theorem keeps_fa (x : Value) (B gd gl gf : Nat) (L : Lg) (D : Dk) (T : Int) : Keeps (Fa x B gd gl gf L D T) := fun _ _ _ hb ⟨h1, h2⟩ => ⟨h1, h2.below hb⟩
theorem yieldsW_call {P : Program} {w : World} {o : Oper} {ρ : Operand → Value} {f : FuncId} {xs : Array Operand} {ts : Array TypeId} {T : Value → World → Prop} (ho : o.op = .call { callee := .value (.func f), args := xs, argTypes := ts }) {vs : Array Value} (hx : xs.map ρ = vs) (hf : ρ (.func f) = .func (.func f) #[] #[]) {fn : Func} (hfn : P.funcs[f]? = some fn) (hname : (fn.name == "runtime.NumGoroutine") = false) (hbody : fn.body.isNone = false)
    (h : Calls P f vs w fun e w' => ∃ u, e = .returned u ∧ T u w') : YieldsW P o ρ w T := by
  have h1 : ¬ fn.name = "runtime.NumGoroutine" := by simpa using hname
  have h2 : ¬ fn.body = none := by
    intro e
    rw [e] at hbody
    cases hbody
  refine .inr ⟨f, vs, ?_, h⟩
  unfold execOp
  simp [ho, hx, hf, resolve, go_sem, callFunc, hfn, h1, h2]
theorem clR_len (t : Int) : (clR t).length ≤ 10 := by
  have := encE_len ⟨t, true, []⟩
  simpa [clR] using this
set_option maxRecDepth 100000 in
set_option maxHeartbeats 2000000 in
theorem claim_any (h : FSt B gd gl gf L D T w) (hp : 1 ≤ L.per ∧ L.per ≤ 64) (hn : nextN L ≤ 1000000) (hr : L.recs.length ≤ 1000000) (hF : D.F.length ≤ 900) (hb : Bare L) (t : Int) :
    Calls Tryz.prog 25 #[.pointer (some ⟨gf, 0, none⟩), .int .i64 t] w fun e w' => e = .returned (.tuple #[.int .i64 (clN L D T t), .int .i64 (clE L D T t)]) ∧ FSt B gd gl gf (clL L D T t) (clD L D T t) (clT L D T t) w' ∧ BO B w w' := by
  have HT := Lib.hid (isTerm_any (w := w) t)
  have HF := Lib.hid h
  have hle := h.st.le
  unfold clN clE clL clD clT clGo
  cases hb1 : isTermB t with
  | false =>
    rw [hb1] at HT
    rw [Bool.false_and]
    simp only [Bool.false_eq_true, if_false]
    rw [if_neg (by decide)]
    go_enter Tryz.func25, Tryz.ntmps25
    go_wp2_with (go_at_call 47; refine HT.out.mono ?_; rintro e w1 ⟨rfl, b1⟩; have F1 := Lib.hid (HF.out.below b1); have B1 := Lib.hid (BO.of b1 hle); clear b1)
    go_ret2
    exact ⟨rfl, F1.out, B1.out⟩
  | true =>
    rw [hb1] at HT
    rw [Bool.true_and]
    obtain ⟨t1, t2⟩ := (term_iff t).1 hb1
    clear hb1
    by_cases h1 : t ≤ T
    · rw [decide_eq_false (show ¬ T < t by omega)]
      simp only [if_true, Bool.false_eq_true, if_false, if_pos h1]
      rw [if_neg (by decide)]
      have c1 : Hid (∀ w1, Below w.heap.size w w1 → w1.cell? ⟨gf, 1, none⟩ = some (.int .i64 T) ∧ w1.frozen? ⟨gf, 1, none⟩ = false) := Lib.hid fun w1 b => ⟨(HF.out.below b).cell.read 1, (HF.out.below b).cell.soft 1⟩
      go_enter Tryz.func25, Tryz.ntmps25
      go_wp2_with (go_at_call 47; refine HT.out.mono ?_; rintro e w1 ⟨rfl, b1⟩; obtain ⟨z1, y1⟩ := c1.out w1 b1; have F1 := Lib.hid (HF.out.below b1); have B1 := Lib.hid (BO.of b1 hle); clear b1)
      go_ret2
      exact ⟨rfl, F1.out, B1.out⟩
    · rw [decide_eq_true (show T < t by omega)]
      simp only [if_true, if_neg h1]
      have hrl := clR_len t
      have HEn : Hid (∀ W, Calls Tryz.prog 48 #[.agg #[.int .i64 t, .bool true, .string ⟨#[]⟩]] W fun r w' => r = .returned (sV (clR t)) ∧ Below W.heap.size W w') := Lib.hid fun W => encode_any (w := W) ⟨t, true, []⟩ (by show 0 ≤ t; omega) t2 (by simp)
      have HAp : Hid (∀ w1, FSt B gd gl gf L D T w1 → Calls Tryz.prog 11 #[.pointer (some ⟨gl, 0, none⟩), sV (clR t)] w1 fun e w' => e = .returned (.tuple #[.int .i64 (apN L D (clR t)), .int .i64 (apE L D (clR t))]) ∧ FSt B gd gl gf (apL L D (clR t)) (apD L D (clR t)) T w' ∧ BO B w1 w') := Lib.hid fun w1 k => fst_append k hp (by omega) (by omega) (by omega) (clR t) (by omega) (good_apL h.st.good hb) (good_apD h.st.gd L _)
      have hnx : nextN (apL L D (clR t)) ≤ 1000001 := by
        have := (ap_next (D := D) hb (clR t)).2.1
        rw [this]
        split <;> omega
      have hFx : (apD L D (clR t)).F.length ≤ 902 := by
        unfold apD wrD bgD
        obtain ⟨g1, g2⟩ := good_syD h.st.gd L
        split
        · omega
        split
        · omega
        split
        · split
          · omega
          split
          · omega
          · have := (app_used g1 (fn L.nm (nextF L)) (newB L (clR t))).2
            omega
        · have := (app_used h.st.gd (lastF L) (frameL (clR t))).2
          omega
      have HSy : Hid (∀ w1, FSt B gd gl gf (apL L D (clR t)) (apD L D (clR t)) t w1 → Calls Tryz.prog 12 #[.pointer (some ⟨gl, 0, none⟩)] w1 fun e w' => e = .returned (.int .i64 (syE (apL L D (clR t)) (apD L D (clR t)))) ∧ FSt B gd gl gf (syL (apL L D (clR t)) (apD L D (clR t))) (syD (apL L D (clR t)) (apD L D (clR t))) t w' ∧ BO B w1 w') := Lib.hid fun w1 k => fst_sync k (by omega) (by omega)
      have hN : apE L D (clR t) ≠ 0 → apN L D (clR t) = 0 := fun e => by unfold apN; rw [if_neg e]
      have c1 : Hid (∀ w1, Below w.heap.size w w1 → (w1.cell? ⟨gf, 1, none⟩ = some (.int .i64 T) ∧ w1.frozen? ⟨gf, 1, none⟩ = false) ∧ (w1.cell? ⟨gf, 0, none⟩ = some (.pointer (some ⟨gl, 0, none⟩)) ∧ w1.frozen? ⟨gf, 0, none⟩ = false)) := Lib.hid fun w1 b => ⟨⟨(HF.out.below b).cell.read 1, (HF.out.below b).cell.soft 1⟩, (HF.out.below b).cell.read 0, (HF.out.below b).cell.soft 0⟩
      clear hnx hFx hrl hp hn hr hF hb t1 t2 h
      generalize apN L D (clR t) = an at HAp hN ⊢
      generalize apE L D (clR t) = ae at HAp hN ⊢
      generalize apL L D (clR t) = L1 at HAp HSy ⊢
      generalize apD L D (clR t) = D1 at HAp HSy ⊢
      generalize syE L1 D1 = se at HSy ⊢
      generalize syL L1 D1 = L2 at HSy ⊢
      generalize syD L1 D1 = D2 at HSy ⊢
      generalize clR t = r at HEn HAp
      by_cases ha : ae = 0
      · subst ha
        simp only [ne_eq, not_true_eq_false, if_false]
        by_cases hs : se = 0
        · subst hs
          simp only [if_true]
          go_enter Tryz.func25, Tryz.ntmps25
          go_upto_region 5 with (go_at_call 47; refine HT.out.mono ?_; rintro e w1 ⟨rfl, b1⟩; obtain ⟨⟨z1, y1⟩, z0, y0⟩ := c1.out w1 b1; have F1 := Lib.hid (HF.out.below b1); have B1 := Lib.hid (BO.of b1 hle); clear b1)
          clear z1 y1 z0 y0
          refine region_many 45 (fun k => k == 7) (fun w2 => BO B w w2 ∧ Whole w2 gf 84 #[.pointer (some ⟨gl, 0, none⟩), .int .i64 T]) ?hR ?r0 [Is (.pointer (some ⟨gf, 0, none⟩)), Is (.pointer (some ⟨gf, 0, none⟩)), Is (.pointer (some ⟨gf, 0, none⟩)), Is (.pointer (some ⟨gl, 0, none⟩)), Is (.int .i64 t), Is (.agg #[.int .i64 t, .bool true, .string ⟨#[]⟩]), Is (sV r), Fa (.tuple #[.int .i64 an, .int .i64 0]) B gd gl gf L1 D1 T, Is (.tuple #[.int .i64 an, .int .i64 0]), Is (.int .i64 an), Is (.int .i64 0), Is (.int .i64 an), Is (.int .i64 0)] (fun _ w2 => FSt B gd gl gf L D T w2) (by kernel_rfl) rfl (by kernel_rfl) ?keep ?hO ?h0 ?tell
          case hR => exact fun w2 w4 hb ⟨h1, h2⟩ => ⟨h1.trans (BO.of hb (Nat.le_trans hle h1.below.size)), h2.below hb h2.inside⟩
          case r0 => exact ⟨B1.out, F1.out.cell⟩
          case keep => exact ⟨keeps_is _, keeps_is _, keeps_is _, keeps_is _, keeps_is _, keeps_is _, keeps_is _, keeps_fa _ _ _ _ _ _ _ _, keeps_is _, keeps_is _, keeps_is _, keeps_is _, keeps_is _, trivial⟩
          case hO => exact fun k w2 w4 hb h => h.below hb
          case h0 => exact fun k _ => F1.out
          case tell =>
            intro fin hfin
            simp [lexPut, Act.put] at hfin
            simp only [TellMany]
            refine ⟨⟨?_, ?_, ?_, ?_, ?_, ?_, ?_, ?_, ?_, ?_, ?_, ?_, ?_, trivial⟩, ?_⟩
            · intro v w2 hr hd
              exact yields_move rfl (by rfl)
            · intro v w2 hr hd
              have h0 : v 0 = _ := hd 0 (by kernel_rfl)
              refine yields_run (u := .pointer (some ⟨gf, 0, none⟩)) (w' := w2) ?_ (Below.refl _ _) rfl
              unfold execOp
              simp [go_sem, Act.eval, Act.put, h0]
            · intro v w2 hr hd
              have h1 : v 1 = _ := hd 1 (by kernel_rfl)
              refine yields_run (u := .pointer (some ⟨gf, 0, none⟩)) (w' := w2) ?_ (Below.refl _ _) rfl
              unfold execOp
              simp [go_sem, Act.eval, Act.put, h1]
            · intro v w2 hr hd
              have h2 : v 2 = _ := hd 2 (by kernel_rfl)
              have a6 : w2.cell? ⟨gf, 0, none⟩ = some (.pointer (some ⟨gl, 0, none⟩)) := hr.2.read 0
              refine yields_run (u := .pointer (some ⟨gl, 0, none⟩)) (w' := w2) ?_ (Below.refl _ _) rfl
              unfold execOp
              simp [go_sem, Act.eval, Act.put, h2, a6]
            · intro v w2 hr hd
              exact yields_move rfl (by rfl)
            · intro v w2 hr hd
              have h4 : v 4 = _ := hd 4 (by kernel_rfl)
              refine yields_run (u := .agg #[.int .i64 t, .bool true, .string ⟨#[]⟩]) (w' := w2) ?_ (Below.refl _ _) rfl
              unfold execOp
              simp [go_sem, Act.eval, Act.put, h4]
            · intro v w2 hr hd
              have h5 : v 5 = _ := hd 5 (by kernel_rfl)
              refine yields_call (f := 48) rfl (vs := #[.agg #[.int .i64 t, .bool true, .string ⟨#[]⟩]]) (by simp [Act.eval, Act.put, h5]) rfl Tryz.func48 (by kernel_rfl) (by kernel_rfl) ?_
              exact (HEn.out w2).mono fun e1 w' ⟨he, hb'⟩ => ⟨_, he, hb', rfl⟩
            · intro v w2 hr ho hd
              have h3 : v 3 = _ := hd 3 (by kernel_rfl)
              have h6 : v 6 = _ := hd 6 (by kernel_rfl)
              refine yieldsW_call (f := 11) rfl (vs := #[.pointer (some ⟨gl, 0, none⟩), sV r]) (by simp [Act.eval, Act.put, h3, h6]) rfl Tryz.func11 (by kernel_rfl) (by kernel_rfl) ?_
              refine (HAp.out w2 ho).mono fun e1 w' ⟨he, hm, hg⟩ => ⟨_, he, ⟨hr.1.trans hg, hm.cell⟩, ?_, ?_, rfl, hm⟩
              · intro k u hk hu
                exact match k, hk, hu with
                  | 0, _, hu => hu
                  | 1, _, hu => hu
                  | 2, _, hu => hu
                  | 3, _, hu => hu
                  | 4, _, hu => hu
                  | 5, _, hu => hu
                  | 6, _, hu => hu
                  | 7, hk, _ => absurd rfl hk
                  | 8, _, hu => hu
                  | 9, _, hu => hu
                  | 10, _, hu => hu
                  | 11, _, hu => hu
                  | 12, _, hu => hu
                  | _ + 13, _, _ => trivial
              · intro k hk hk2 _
                exact absurd (by simpa using hk2) hk
            · intro v w2 hr hd
              have h7 : v 7 = _ := (hd 7 (by kernel_rfl)).1
              refine yields_run (u := .tuple #[.int .i64 an, .int .i64 0]) (w' := w2) ?_ (Below.refl _ _) rfl
              unfold execOp
              simp [go_sem, Act.eval, Act.put, h7]
            · intro v w2 hr hd
              have h8 : v 8 = _ := hd 8 (by kernel_rfl)
              refine yields_run (u := .int .i64 an) (w' := w2) ?_ (Below.refl _ _) rfl
              unfold execOp
              simp [go_sem, Act.eval, Act.put, h8]
            · intro v w2 hr hd
              have h8 : v 8 = _ := hd 8 (by kernel_rfl)
              refine yields_run (u := .int .i64 0) (w' := w2) ?_ (Below.refl _ _) rfl
              unfold execOp
              simp [go_sem, Act.eval, Act.put, h8]
            · intro v w2 hr hd
              have h9 : v 9 = _ := hd 9 (by kernel_rfl)
              refine yields_run (u := .int .i64 an) (w' := w2) ?_ (Below.refl _ _) rfl
              unfold execOp
              simp [go_sem, Act.eval, Act.put, h9]
            · intro v w2 hr hd
              have h10 : v 10 = _ := hd 10 (by kernel_rfl)
              refine yields_run (u := .int .i64 0) (w' := w2) ?_ (Below.refl _ _) rfl
              unfold execOp
              simp [go_sem, Act.eval, Act.put, h10]
            · intro v w5 hr hv
              have F5 : Hid (FSt B gd gl gf L1 D1 T w5) := Lib.hid (hv 7 (by decide)).2
              have B5 := Lib.hid hr.1
              have e0 : v 0 = _ := hv 0 (by decide)
              have e1 : v 1 = _ := hv 1 (by decide)
              have e2 : v 2 = _ := hv 2 (by decide)
              have e3 : v 3 = _ := hv 3 (by decide)
              have e4 : v 4 = _ := hv 4 (by decide)
              have e5 : v 5 = _ := hv 5 (by decide)
              have e6 : v 6 = _ := hv 6 (by decide)
              have e8 : v 8 = _ := hv 8 (by decide)
              have e9 : v 9 = _ := hv 9 (by decide)
              have e10 : v 10 = _ := hv 10 (by decide)
              have e11 : v 11 = _ := hv 11 (by decide)
              have e12 : v 12 = _ := hv 12 (by decide)
              have e7 : v 7 = _ := (hv 7 (by decide)).1
              rw [hfin]
              simp only [e0, e1, e2, e3, e4, e5, e6, e7, e8, e9, e10, e11, e12]
              clear hv hfin hr
              have z1 : w5.cell? ⟨gf, 1, none⟩ = some (.int .i64 T) := F5.out.cell.read 1
              have y1 : w5.frozen? ⟨gf, 1, none⟩ = false := F5.out.cell.soft 1
              have hs6 := fst_set F5.out t
              have F6 := Lib.hid hs6.1
              have B6 := Lib.hid (B5.out.trans hs6.2)
              clear hs6
              go_upto_region 9 with fail
              generalize w5.setCell ⟨gf, 1, none⟩ (.int .i64 t) = w6 at F6 B6 ⊢
              clear z1 y1
              have z0 : w6.cell? ⟨gf, 0, none⟩ = some (.pointer (some ⟨gl, 0, none⟩)) := F6.out.cell.read 0
              have y0 : w6.frozen? ⟨gf, 0, none⟩ = false := F6.out.cell.soft 0
              go_wp2_with (go_at_call 12; refine (HSy.out _ F6.out).mono ?_; rintro e w7 ⟨rfl, s7, b7⟩; have F7 := Lib.hid s7; have B7 := Lib.hid (B6.out.trans b7); clear s7 b7)
              go_ret2
              exact ⟨rfl, F7.out, B7.out⟩
        · have hsb : (se != 0) = true := by simpa using hs
          rw [if_neg hs]
          clear hs
          go_enter Tryz.func25, Tryz.ntmps25
          go_upto_region 5 with (go_at_call 47; refine HT.out.mono ?_; rintro e w1 ⟨rfl, b1⟩; obtain ⟨⟨z1, y1⟩, z0, y0⟩ := c1.out w1 b1; have F1 := Lib.hid (HF.out.below b1); have B1 := Lib.hid (BO.of b1 hle); clear b1)
          clear z1 y1 z0 y0
          refine region_many 45 (fun k => k == 7) (fun w2 => BO B w w2 ∧ Whole w2 gf 84 #[.pointer (some ⟨gl, 0, none⟩), .int .i64 T]) ?hR ?r0 [Is (.pointer (some ⟨gf, 0, none⟩)), Is (.pointer (some ⟨gf, 0, none⟩)), Is (.pointer (some ⟨gf, 0, none⟩)), Is (.pointer (some ⟨gl, 0, none⟩)), Is (.int .i64 t), Is (.agg #[.int .i64 t, .bool true, .string ⟨#[]⟩]), Is (sV r), Fa (.tuple #[.int .i64 an, .int .i64 0]) B gd gl gf L1 D1 T, Is (.tuple #[.int .i64 an, .int .i64 0]), Is (.int .i64 an), Is (.int .i64 0), Is (.int .i64 an), Is (.int .i64 0)] (fun _ w2 => FSt B gd gl gf L D T w2) (by kernel_rfl) rfl (by kernel_rfl) ?keep ?hO ?h0 ?tell
          case hR => exact fun w2 w4 hb ⟨h1, h2⟩ => ⟨h1.trans (BO.of hb (Nat.le_trans hle h1.below.size)), h2.below hb h2.inside⟩
          case r0 => exact ⟨B1.out, F1.out.cell⟩
          case keep => exact ⟨keeps_is _, keeps_is _, keeps_is _, keeps_is _, keeps_is _, keeps_is _, keeps_is _, keeps_fa _ _ _ _ _ _ _ _, keeps_is _, keeps_is _, keeps_is _, keeps_is _, keeps_is _, trivial⟩
          case hO => exact fun k w2 w4 hb h => h.below hb
          case h0 => exact fun k _ => F1.out
          case tell =>
            intro fin hfin
            simp [lexPut, Act.put] at hfin
            simp only [TellMany]
            refine ⟨⟨?_, ?_, ?_, ?_, ?_, ?_, ?_, ?_, ?_, ?_, ?_, ?_, ?_, trivial⟩, ?_⟩
            · intro v w2 hr hd
              exact yields_move rfl (by rfl)
            · intro v w2 hr hd
              have h0 : v 0 = _ := hd 0 (by kernel_rfl)
              refine yields_run (u := .pointer (some ⟨gf, 0, none⟩)) (w' := w2) ?_ (Below.refl _ _) rfl
              unfold execOp
              simp [go_sem, Act.eval, Act.put, h0]
            · intro v w2 hr hd
              have h1 : v 1 = _ := hd 1 (by kernel_rfl)
              refine yields_run (u := .pointer (some ⟨gf, 0, none⟩)) (w' := w2) ?_ (Below.refl _ _) rfl
              unfold execOp
              simp [go_sem, Act.eval, Act.put, h1]
            · intro v w2 hr hd
              have h2 : v 2 = _ := hd 2 (by kernel_rfl)
              have a6 : w2.cell? ⟨gf, 0, none⟩ = some (.pointer (some ⟨gl, 0, none⟩)) := hr.2.read 0
              refine yields_run (u := .pointer (some ⟨gl, 0, none⟩)) (w' := w2) ?_ (Below.refl _ _) rfl
              unfold execOp
              simp [go_sem, Act.eval, Act.put, h2, a6]
            · intro v w2 hr hd
              exact yields_move rfl (by rfl)
            · intro v w2 hr hd
              have h4 : v 4 = _ := hd 4 (by kernel_rfl)
              refine yields_run (u := .agg #[.int .i64 t, .bool true, .string ⟨#[]⟩]) (w' := w2) ?_ (Below.refl _ _) rfl
              unfold execOp
              simp [go_sem, Act.eval, Act.put, h4]
            · intro v w2 hr hd
              have h5 : v 5 = _ := hd 5 (by kernel_rfl)
              refine yields_call (f := 48) rfl (vs := #[.agg #[.int .i64 t, .bool true, .string ⟨#[]⟩]]) (by simp [Act.eval, Act.put, h5]) rfl Tryz.func48 (by kernel_rfl) (by kernel_rfl) ?_
              exact (HEn.out w2).mono fun e1 w' ⟨he, hb'⟩ => ⟨_, he, hb', rfl⟩
            · intro v w2 hr ho hd
              have h3 : v 3 = _ := hd 3 (by kernel_rfl)
              have h6 : v 6 = _ := hd 6 (by kernel_rfl)
              refine yieldsW_call (f := 11) rfl (vs := #[.pointer (some ⟨gl, 0, none⟩), sV r]) (by simp [Act.eval, Act.put, h3, h6]) rfl Tryz.func11 (by kernel_rfl) (by kernel_rfl) ?_
              refine (HAp.out w2 ho).mono fun e1 w' ⟨he, hm, hg⟩ => ⟨_, he, ⟨hr.1.trans hg, hm.cell⟩, ?_, ?_, rfl, hm⟩
              · intro k u hk hu
                exact match k, hk, hu with
                  | 0, _, hu => hu
                  | 1, _, hu => hu
                  | 2, _, hu => hu
                  | 3, _, hu => hu
                  | 4, _, hu => hu
                  | 5, _, hu => hu
                  | 6, _, hu => hu
                  | 7, hk, _ => absurd rfl hk
                  | 8, _, hu => hu
                  | 9, _, hu => hu
                  | 10, _, hu => hu
                  | 11, _, hu => hu
                  | 12, _, hu => hu
                  | _ + 13, _, _ => trivial
              · intro k hk hk2 _
                exact absurd (by simpa using hk2) hk
            · intro v w2 hr hd
              have h7 : v 7 = _ := (hd 7 (by kernel_rfl)).1
              refine yields_run (u := .tuple #[.int .i64 an, .int .i64 0]) (w' := w2) ?_ (Below.refl _ _) rfl
              unfold execOp
              simp [go_sem, Act.eval, Act.put, h7]
            · intro v w2 hr hd
              have h8 : v 8 = _ := hd 8 (by kernel_rfl)
              refine yields_run (u := .int .i64 an) (w' := w2) ?_ (Below.refl _ _) rfl
              unfold execOp
              simp [go_sem, Act.eval, Act.put, h8]
            · intro v w2 hr hd
              have h8 : v 8 = _ := hd 8 (by kernel_rfl)
              refine yields_run (u := .int .i64 0) (w' := w2) ?_ (Below.refl _ _) rfl
              unfold execOp
              simp [go_sem, Act.eval, Act.put, h8]
            · intro v w2 hr hd
              have h9 : v 9 = _ := hd 9 (by kernel_rfl)
              refine yields_run (u := .int .i64 an) (w' := w2) ?_ (Below.refl _ _) rfl
              unfold execOp
              simp [go_sem, Act.eval, Act.put, h9]
            · intro v w2 hr hd
              have h10 : v 10 = _ := hd 10 (by kernel_rfl)
              refine yields_run (u := .int .i64 0) (w' := w2) ?_ (Below.refl _ _) rfl
              unfold execOp
              simp [go_sem, Act.eval, Act.put, h10]
            · intro v w5 hr hv
              have F5 : Hid (FSt B gd gl gf L1 D1 T w5) := Lib.hid (hv 7 (by decide)).2
              have B5 := Lib.hid hr.1
              have e0 : v 0 = _ := hv 0 (by decide)
              have e1 : v 1 = _ := hv 1 (by decide)
              have e2 : v 2 = _ := hv 2 (by decide)
              have e3 : v 3 = _ := hv 3 (by decide)
              have e4 : v 4 = _ := hv 4 (by decide)
              have e5 : v 5 = _ := hv 5 (by decide)
              have e6 : v 6 = _ := hv 6 (by decide)
              have e8 : v 8 = _ := hv 8 (by decide)
              have e9 : v 9 = _ := hv 9 (by decide)
              have e10 : v 10 = _ := hv 10 (by decide)
              have e11 : v 11 = _ := hv 11 (by decide)
              have e12 : v 12 = _ := hv 12 (by decide)
              have e7 : v 7 = _ := (hv 7 (by decide)).1
              rw [hfin]
              simp only [e0, e1, e2, e3, e4, e5, e6, e7, e8, e9, e10, e11, e12]
              clear hv hfin hr
              have z1 : w5.cell? ⟨gf, 1, none⟩ = some (.int .i64 T) := F5.out.cell.read 1
              have y1 : w5.frozen? ⟨gf, 1, none⟩ = false := F5.out.cell.soft 1
              have hs6 := fst_set F5.out t
              have F6 := Lib.hid hs6.1
              have B6 := Lib.hid (B5.out.trans hs6.2)
              clear hs6
              go_upto_region 9 with fail
              generalize w5.setCell ⟨gf, 1, none⟩ (.int .i64 t) = w6 at F6 B6 ⊢
              clear z1 y1
              have z0 : w6.cell? ⟨gf, 0, none⟩ = some (.pointer (some ⟨gl, 0, none⟩)) := F6.out.cell.read 0
              have y0 : w6.frozen? ⟨gf, 0, none⟩ = false := F6.out.cell.soft 0
              go_wp2_with (go_at_call 12; refine (HSy.out _ F6.out).mono ?_; rintro e w7 ⟨rfl, s7, b7⟩; have F7 := Lib.hid s7; have B7 := Lib.hid (B6.out.trans b7); clear s7 b7)
              go_ret2
              exact ⟨rfl, F7.out, B7.out⟩
      · have hab : (ae != 0) = true := by simpa using ha
        simp only [ne_eq, ha, not_false_eq_true, if_true, if_false]
        have han := hN ha
        subst han
        clear ha hN HSy
        go_enter Tryz.func25, Tryz.ntmps25
        go_upto_region 5 with (go_at_call 47; refine HT.out.mono ?_; rintro e w1 ⟨rfl, b1⟩; obtain ⟨⟨z1, y1⟩, z0, y0⟩ := c1.out w1 b1; have F1 := Lib.hid (HF.out.below b1); have B1 := Lib.hid (BO.of b1 hle); clear b1)
        clear z1 y1 z0 y0
        refine region_many 45 (fun k => k == 7) (fun w2 => BO B w w2 ∧ Whole w2 gf 84 #[.pointer (some ⟨gl, 0, none⟩), .int .i64 T]) ?hR ?r0 [Is (.pointer (some ⟨gf, 0, none⟩)), Is (.pointer (some ⟨gf, 0, none⟩)), Is (.pointer (some ⟨gf, 0, none⟩)), Is (.pointer (some ⟨gl, 0, none⟩)), Is (.int .i64 t), Is (.agg #[.int .i64 t, .bool true, .string ⟨#[]⟩]), Is (sV r), Fa (.tuple #[.int .i64 0, .int .i64 ae]) B gd gl gf L1 D1 T, Is (.tuple #[.int .i64 0, .int .i64 ae]), Is (.int .i64 0), Is (.int .i64 ae), Is (.int .i64 0), Is (.int .i64 ae)] (fun _ w2 => FSt B gd gl gf L D T w2) (by kernel_rfl) rfl (by kernel_rfl) ?keep ?hO ?h0 ?tell
        case hR => exact fun w2 w4 hb ⟨h1, h2⟩ => ⟨h1.trans (BO.of hb (Nat.le_trans hle h1.below.size)), h2.below hb h2.inside⟩
        case r0 => exact ⟨B1.out, F1.out.cell⟩
        case keep => exact ⟨keeps_is _, keeps_is _, keeps_is _, keeps_is _, keeps_is _, keeps_is _, keeps_is _, keeps_fa _ _ _ _ _ _ _ _, keeps_is _, keeps_is _, keeps_is _, keeps_is _, keeps_is _, trivial⟩
        case hO => exact fun k w2 w4 hb h => h.below hb
        case h0 => exact fun k _ => F1.out
        case tell =>
          intro fin hfin
          simp [lexPut, Act.put] at hfin
          simp only [TellMany]
          refine ⟨⟨?_, ?_, ?_, ?_, ?_, ?_, ?_, ?_, ?_, ?_, ?_, ?_, ?_, trivial⟩, ?_⟩
          · intro v w2 hr hd
            exact yields_move rfl (by rfl)
          · intro v w2 hr hd
            have h0 : v 0 = _ := hd 0 (by kernel_rfl)
            refine yields_run (u := .pointer (some ⟨gf, 0, none⟩)) (w' := w2) ?_ (Below.refl _ _) rfl
            unfold execOp
            simp [go_sem, Act.eval, Act.put, h0]
          · intro v w2 hr hd
            have h1 : v 1 = _ := hd 1 (by kernel_rfl)
            refine yields_run (u := .pointer (some ⟨gf, 0, none⟩)) (w' := w2) ?_ (Below.refl _ _) rfl
            unfold execOp
            simp [go_sem, Act.eval, Act.put, h1]
          · intro v w2 hr hd
            have h2 : v 2 = _ := hd 2 (by kernel_rfl)
            have a6 : w2.cell? ⟨gf, 0, none⟩ = some (.pointer (some ⟨gl, 0, none⟩)) := hr.2.read 0
            refine yields_run (u := .pointer (some ⟨gl, 0, none⟩)) (w' := w2) ?_ (Below.refl _ _) rfl
            unfold execOp
            simp [go_sem, Act.eval, Act.put, h2, a6]
          · intro v w2 hr hd
            exact yields_move rfl (by rfl)
          · intro v w2 hr hd
            have h4 : v 4 = _ := hd 4 (by kernel_rfl)
            refine yields_run (u := .agg #[.int .i64 t, .bool true, .string ⟨#[]⟩]) (w' := w2) ?_ (Below.refl _ _) rfl
            unfold execOp
            simp [go_sem, Act.eval, Act.put, h4]
          · intro v w2 hr hd
            have h5 : v 5 = _ := hd 5 (by kernel_rfl)
            refine yields_call (f := 48) rfl (vs := #[.agg #[.int .i64 t, .bool true, .string ⟨#[]⟩]]) (by simp [Act.eval, Act.put, h5]) rfl Tryz.func48 (by kernel_rfl) (by kernel_rfl) ?_
            exact (HEn.out w2).mono fun e1 w' ⟨he, hb'⟩ => ⟨_, he, hb', rfl⟩
          · intro v w2 hr ho hd
            have h3 : v 3 = _ := hd 3 (by kernel_rfl)
            have h6 : v 6 = _ := hd 6 (by kernel_rfl)
            refine yieldsW_call (f := 11) rfl (vs := #[.pointer (some ⟨gl, 0, none⟩), sV r]) (by simp [Act.eval, Act.put, h3, h6]) rfl Tryz.func11 (by kernel_rfl) (by kernel_rfl) ?_
            refine (HAp.out w2 ho).mono fun e1 w' ⟨he, hm, hg⟩ => ⟨_, he, ⟨hr.1.trans hg, hm.cell⟩, ?_, ?_, rfl, hm⟩
            · intro k u hk hu
              exact match k, hk, hu with
                | 0, _, hu => hu
                | 1, _, hu => hu
                | 2, _, hu => hu
                | 3, _, hu => hu
                | 4, _, hu => hu
                | 5, _, hu => hu
                | 6, _, hu => hu
                | 7, hk, _ => absurd rfl hk
                | 8, _, hu => hu
                | 9, _, hu => hu
                | 10, _, hu => hu
                | 11, _, hu => hu
                | 12, _, hu => hu
                | _ + 13, _, _ => trivial
            · intro k hk hk2 _
              exact absurd (by simpa using hk2) hk
          · intro v w2 hr hd
            have h7 : v 7 = _ := (hd 7 (by kernel_rfl)).1
            refine yields_run (u := .tuple #[.int .i64 0, .int .i64 ae]) (w' := w2) ?_ (Below.refl _ _) rfl
            unfold execOp
            simp [go_sem, Act.eval, Act.put, h7]
          · intro v w2 hr hd
            have h8 : v 8 = _ := hd 8 (by kernel_rfl)
            refine yields_run (u := .int .i64 0) (w' := w2) ?_ (Below.refl _ _) rfl
            unfold execOp
            simp [go_sem, Act.eval, Act.put, h8]
          · intro v w2 hr hd
            have h8 : v 8 = _ := hd 8 (by kernel_rfl)
            refine yields_run (u := .int .i64 ae) (w' := w2) ?_ (Below.refl _ _) rfl
            unfold execOp
            simp [go_sem, Act.eval, Act.put, h8]
          · intro v w2 hr hd
            have h9 : v 9 = _ := hd 9 (by kernel_rfl)
            refine yields_run (u := .int .i64 0) (w' := w2) ?_ (Below.refl _ _) rfl
            unfold execOp
            simp [go_sem, Act.eval, Act.put, h9]
          · intro v w2 hr hd
            have h10 : v 10 = _ := hd 10 (by kernel_rfl)
            refine yields_run (u := .int .i64 ae) (w' := w2) ?_ (Below.refl _ _) rfl
            unfold execOp
            simp [go_sem, Act.eval, Act.put, h10]
          · intro v w5 hr hv
            have F5 : Hid (FSt B gd gl gf L1 D1 T w5) := Lib.hid (hv 7 (by decide)).2
            have B5 := Lib.hid hr.1
            have e0 : v 0 = _ := hv 0 (by decide)
            have e1 : v 1 = _ := hv 1 (by decide)
            have e2 : v 2 = _ := hv 2 (by decide)
            have e3 : v 3 = _ := hv 3 (by decide)
            have e4 : v 4 = _ := hv 4 (by decide)
            have e5 : v 5 = _ := hv 5 (by decide)
            have e6 : v 6 = _ := hv 6 (by decide)
            have e8 : v 8 = _ := hv 8 (by decide)
            have e9 : v 9 = _ := hv 9 (by decide)
            have e10 : v 10 = _ := hv 10 (by decide)
            have e11 : v 11 = _ := hv 11 (by decide)
            have e12 : v 12 = _ := hv 12 (by decide)
            have e7 : v 7 = _ := (hv 7 (by decide)).1
            rw [hfin]
            simp only [e0, e1, e2, e3, e4, e5, e6, e7, e8, e9, e10, e11, e12]
            clear hv hfin hr
            go_wp2_with fail
            go_ret2
            exact ⟨rfl, F5.out, B5.out⟩
set_option maxRecDepth 100000 in
set_option maxHeartbeats 2000000 in
theorem fappend_any (h : FSt B gd gl gf L D T w) (hp : 1 ≤ L.per ∧ L.per ≤ 64) (hn : nextN L ≤ 1000000) (hr : L.recs.length ≤ 1000000) (hF : D.F.length ≤ 900) (hb : Bare L) (t : Int) (s : Bs) (hsl : s.length ≤ 100000) :
    Calls Tryz.prog 26 #[.pointer (some ⟨gf, 0, none⟩), .int .i64 t, sV s] w fun e w' => e = .returned (.tuple #[.int .i64 (faN L D T t s), .int .i64 (faE L D T t s)]) ∧ FSt B gd gl gf (faL L D T t s) (faD L D T t s) T w' ∧ BO B w w' := by
  have HF := Lib.hid h
  have hle := h.st.le
  have HC := Lib.hid (fcheck_any t h.fl)
  unfold faN faE faL faD faGo
  by_cases hc : chkT T t = 0
  · rw [hc] at HC ⊢
    simp only [decide_true, Bool.true_and, ne_eq, not_true_eq_false, if_false]
    by_cases h4 : 4000 < s.length
    · simp only [decide_eq_false (show ¬ s.length ≤ 4000 by omega), Bool.false_eq_true, if_false, if_pos h4]
      have h4i : (4000 : Int) < (s.length : Int) := by omega
      clear h4 hc
      go_enter Tryz.func26, Tryz.ntmps26
      go_wp2_with (go_at_call 49; refine HC.out.mono ?_; rintro e w1 ⟨rfl, b1⟩; have F1 := Lib.hid (HF.out.below b1); have B1 := Lib.hid (BO.of b1 hle); clear b1)
      go_ret2
      exact ⟨rfl, F1.out, B1.out⟩
    · simp only [decide_eq_true (show s.length ≤ 4000 by omega), if_true, if_neg h4]
      have h4i : ¬ (4000 : Int) < (s.length : Int) := by omega
      have htb : isTermB t = true := by
        unfold chkT at hc
        split at hc
        · assumption
        · cases hc
      obtain ⟨t1, t2⟩ := (term_iff t).1 htb
      have hrl : (faR t s).length ≤ 10 + s.length := encE_len ⟨t, false, s⟩
      have HEn : Hid (∀ W, Calls Tryz.prog 48 #[.agg #[.int .i64 t, .bool false, sV s]] W fun r w' => r = .returned (sV (faR t s)) ∧ Below W.heap.size W w') := Lib.hid fun W => encode_any (w := W) ⟨t, false, s⟩ (by show 0 ≤ t; omega) t2 (by show s.length ≤ 100000; omega)
      have HAp : Hid (∀ w1, FSt B gd gl gf L D T w1 → Calls Tryz.prog 11 #[.pointer (some ⟨gl, 0, none⟩), sV (faR t s)] w1 fun e w' => e = .returned (.tuple #[.int .i64 (apN L D (faR t s)), .int .i64 (apE L D (faR t s))]) ∧ FSt B gd gl gf (apL L D (faR t s)) (apD L D (faR t s)) T w' ∧ BO B w1 w') := Lib.hid fun w1 k => fst_append k hp (by omega) (by omega) (by omega) (faR t s) (by omega) (good_apL h.st.good hb) (good_apD h.st.gd L _)
      clear h4 hc htb t1 t2 hrl hp hn hr hF hb h
      generalize apN L D (faR t s) = an at HAp ⊢
      generalize apE L D (faR t s) = ae at HAp ⊢
      generalize apL L D (faR t s) = L1 at HAp ⊢
      generalize apD L D (faR t s) = D1 at HAp ⊢
      generalize faR t s = r at HEn HAp
      go_enter Tryz.func26, Tryz.ntmps26
      go_upto_region 6 with (go_at_call 49; refine HC.out.mono ?_; rintro e w1 ⟨rfl, b1⟩; have F1 := Lib.hid (HF.out.below b1); have B1 := Lib.hid (BO.of b1 hle); clear b1)
      refine region_many 29 (fun k => k == 8) (fun w2 => BO B w w2 ∧ Whole w2 gf 84 #[.pointer (some ⟨gl, 0, none⟩), .int .i64 T]) ?hR ?r0 [Is (.pointer (some ⟨gf, 0, none⟩)), Is (.pointer (some ⟨gf, 0, none⟩)), Is (.pointer (some ⟨gf, 0, none⟩)), Is (.pointer (some ⟨gl, 0, none⟩)), Is (.int .i64 t), Is (sV s), Is (.agg #[.int .i64 t, .bool false, sV s]), Is (sV r), Fa (.tuple #[.int .i64 an, .int .i64 ae]) B gd gl gf L1 D1 T, Is (.int .i64 an), Is (.int .i64 ae), Is (.int .i64 an), Is (.int .i64 ae)] (fun _ w2 => FSt B gd gl gf L D T w2) (by kernel_rfl) rfl (by kernel_rfl) ?keep ?hO ?h0 ?tell
      case hR => exact fun w2 w4 hb ⟨h1, h2⟩ => ⟨h1.trans (BO.of hb (Nat.le_trans hle h1.below.size)), h2.below hb h2.inside⟩
      case r0 => exact ⟨B1.out, F1.out.cell⟩
      case keep => exact ⟨keeps_is _, keeps_is _, keeps_is _, keeps_is _, keeps_is _, keeps_is _, keeps_is _, keeps_is _, keeps_fa _ _ _ _ _ _ _ _, keeps_is _, keeps_is _, keeps_is _, keeps_is _, trivial⟩
      case hO => exact fun k w2 w4 hb h => h.below hb
      case h0 => exact fun k _ => F1.out
      case tell =>
        intro fin hfin
        simp [lexPut, Act.put] at hfin
        simp only [TellMany]
        refine ⟨⟨?_, ?_, ?_, ?_, ?_, ?_, ?_, ?_, ?_, ?_, ?_, ?_, ?_, trivial⟩, ?_⟩
        · intro v w2 hr hd
          exact yields_move rfl (by rfl)
        · intro v w2 hr hd
          have h0 : v 0 = _ := hd 0 (by kernel_rfl)
          refine yields_run (u := .pointer (some ⟨gf, 0, none⟩)) (w' := w2) ?_ (Below.refl _ _) rfl
          unfold execOp
          simp [go_sem, Act.eval, Act.put, h0]
        · intro v w2 hr hd
          have h1 : v 1 = _ := hd 1 (by kernel_rfl)
          refine yields_run (u := .pointer (some ⟨gf, 0, none⟩)) (w' := w2) ?_ (Below.refl _ _) rfl
          unfold execOp
          simp [go_sem, Act.eval, Act.put, h1]
        · intro v w2 hr hd
          have h2 : v 2 = _ := hd 2 (by kernel_rfl)
          have a6 : w2.cell? ⟨gf, 0, none⟩ = some (.pointer (some ⟨gl, 0, none⟩)) := hr.2.read 0
          refine yields_run (u := .pointer (some ⟨gl, 0, none⟩)) (w' := w2) ?_ (Below.refl _ _) rfl
          unfold execOp
          simp [go_sem, Act.eval, Act.put, h2, a6]
        · intro v w2 hr hd
          exact yields_move rfl (by rfl)
        · intro v w2 hr hd
          exact yields_move rfl (by rfl)
        · intro v w2 hr hd
          have h4 : v 4 = _ := hd 4 (by kernel_rfl)
          have h5 : v 5 = _ := hd 5 (by kernel_rfl)
          refine yields_run (u := .agg #[.int .i64 t, .bool false, sV s]) (w' := w2) ?_ (Below.refl _ _) rfl
          unfold execOp
          simp [go_sem, Act.eval, Act.put, h4, h5]
        · intro v w2 hr hd
          have h6 : v 6 = _ := hd 6 (by kernel_rfl)
          refine yields_call (f := 48) rfl (vs := #[.agg #[.int .i64 t, .bool false, sV s]]) (by simp [Act.eval, Act.put, h6]) rfl Tryz.func48 (by kernel_rfl) (by kernel_rfl) ?_
          exact (HEn.out w2).mono fun e1 w' ⟨he, hb'⟩ => ⟨_, he, hb', rfl⟩
        · intro v w2 hr ho hd
          have h3 : v 3 = _ := hd 3 (by kernel_rfl)
          have h7 : v 7 = _ := hd 7 (by kernel_rfl)
          refine yieldsW_call (f := 11) rfl (vs := #[.pointer (some ⟨gl, 0, none⟩), sV r]) (by simp [Act.eval, Act.put, h3, h7]) rfl Tryz.func11 (by kernel_rfl) (by kernel_rfl) ?_
          refine (HAp.out w2 ho).mono fun e1 w' ⟨he, hm, hg⟩ => ⟨_, he, ⟨hr.1.trans hg, hm.cell⟩, ?_, ?_, rfl, hm⟩
          · intro k u hk hu
            exact match k, hk, hu with
              | 0, _, hu => hu
              | 1, _, hu => hu
              | 2, _, hu => hu
              | 3, _, hu => hu
              | 4, _, hu => hu
              | 5, _, hu => hu
              | 6, _, hu => hu
              | 7, _, hu => hu
              | 8, hk, _ => absurd rfl hk
              | 9, _, hu => hu
              | 10, _, hu => hu
              | 11, _, hu => hu
              | 12, _, hu => hu
              | _ + 13, _, _ => trivial
          · intro k hk hk2 _
            exact absurd (by simpa using hk2) hk
        · intro v w2 hr hd
          have h8 : v 8 = _ := (hd 8 (by kernel_rfl)).1
          refine yields_run (u := .int .i64 an) (w' := w2) ?_ (Below.refl _ _) rfl
          unfold execOp
          simp [go_sem, Act.eval, Act.put, h8]
        · intro v w2 hr hd
          have h8 : v 8 = _ := (hd 8 (by kernel_rfl)).1
          refine yields_run (u := .int .i64 ae) (w' := w2) ?_ (Below.refl _ _) rfl
          unfold execOp
          simp [go_sem, Act.eval, Act.put, h8]
        · intro v w2 hr hd
          have h9 : v 9 = _ := hd 9 (by kernel_rfl)
          refine yields_run (u := .int .i64 an) (w' := w2) ?_ (Below.refl _ _) rfl
          unfold execOp
          simp [go_sem, Act.eval, Act.put, h9]
        · intro v w2 hr hd
          have h10 : v 10 = _ := hd 10 (by kernel_rfl)
          refine yields_run (u := .int .i64 ae) (w' := w2) ?_ (Below.refl _ _) rfl
          unfold execOp
          simp [go_sem, Act.eval, Act.put, h10]
        · intro v w5 hr hv
          have F5 : Hid (FSt B gd gl gf L1 D1 T w5) := Lib.hid (hv 8 (by decide)).2
          have B5 := Lib.hid hr.1
          have e0 : v 0 = _ := hv 0 (by decide)
          have e1 : v 1 = _ := hv 1 (by decide)
          have e2 : v 2 = _ := hv 2 (by decide)
          have e3 : v 3 = _ := hv 3 (by decide)
          have e4 : v 4 = _ := hv 4 (by decide)
          have e5 : v 5 = _ := hv 5 (by decide)
          have e6 : v 6 = _ := hv 6 (by decide)
          have e7 : v 7 = _ := hv 7 (by decide)
          have e9 : v 9 = _ := hv 9 (by decide)
          have e10 : v 10 = _ := hv 10 (by decide)
          have e11 : v 11 = _ := hv 11 (by decide)
          have e12 : v 12 = _ := hv 12 (by decide)
          have e8 : v 8 = _ := (hv 8 (by decide)).1
          rw [hfin]
          simp only [e0, e1, e2, e3, e4, e5, e6, e7, e8, e9, e10, e11, e12]
          clear hv hfin hr
          go_wp2_with fail
          go_ret2
          exact ⟨rfl, F5.out, B5.out⟩
  · have hcb : (chkT T t != 0) = true := by simpa using hc
    simp only [decide_eq_false hc, Bool.false_and, Bool.false_eq_true, if_false, ne_eq, hc, not_false_eq_true, if_true]
    clear hc
    generalize chkT T t = x at HC hcb ⊢
    go_enter Tryz.func26, Tryz.ntmps26
    go_wp2_with (go_at_call 49; refine HC.out.mono ?_; rintro e w1 ⟨rfl, b1⟩; have F1 := Lib.hid (HF.out.below b1); have B1 := Lib.hid (BO.of b1 hle); clear b1)
    go_ret2
    exact ⟨rfl, F1.out, B1.out⟩
def fsE (L : Lg) (D : Dk) (T t : Int) : Int := if chkT T t ≠ 0 then chkT T t else syE L D
def fsL (L : Lg) (D : Dk) (T t : Int) : Lg := if chkT T t ≠ 0 then L else syL L D
def fsD (L : Lg) (D : Dk) (T t : Int) : Dk := if chkT T t ≠ 0 then D else syD L D
theorem fsync_any (h : FSt B gd gl gf L D T w) (hn : nextN L ≤ 1000000) (hF : D.F.length ≤ 900) (t : Int) :
    Calls Tryz.prog 44 #[.pointer (some ⟨gf, 0, none⟩), .int .i64 t] w fun e w' => e = .returned (.int .i64 (fsE L D T t)) ∧ FSt B gd gl gf (fsL L D T t) (fsD L D T t) T w' ∧ BO B w w' := by
  have HF := Lib.hid h
  have hle := h.st.le
  have HC := Lib.hid (fcheck_any t h.fl)
  unfold fsE fsL fsD
  by_cases hc : chkT T t = 0
  · rw [hc] at HC ⊢
    rw [if_neg (by decide), if_neg (by decide), if_neg (by decide)]
    have HSy : Hid (∀ w1, FSt B gd gl gf L D T w1 → Calls Tryz.prog 12 #[.pointer (some ⟨gl, 0, none⟩)] w1 fun e w' => e = .returned (.int .i64 (syE L D)) ∧ FSt B gd gl gf (syL L D) (syD L D) T w' ∧ BO B w1 w') := Lib.hid fun w1 k => fst_sync k (by omega) (by omega)
    have c1 : Hid (∀ w1, Below w.heap.size w w1 → w1.cell? ⟨gf, 0, none⟩ = some (.pointer (some ⟨gl, 0, none⟩)) ∧ w1.frozen? ⟨gf, 0, none⟩ = false) := Lib.hid fun w1 b => ⟨(HF.out.below b).cell.read 0, (HF.out.below b).cell.soft 0⟩
    clear hc hn hF h
    generalize syE L D = se at HSy ⊢
    generalize syL L D = L2 at HSy ⊢
    generalize syD L D = D2 at HSy ⊢
    go_enter Tryz.func44, Tryz.ntmps44
    go_wp2_with (first
      | (go_at_call 49; refine HC.out.mono ?_; rintro e w1 ⟨rfl, b1⟩; obtain ⟨z0, y0⟩ := c1.out w1 b1; have F1 := Lib.hid (HF.out.below b1); have B1 := Lib.hid (BO.of b1 hle); clear b1)
      | (go_at_call 12; refine (HSy.out _ F1.out).mono ?_; rintro e w7 ⟨rfl, s7, b7⟩; have F7 := Lib.hid s7; have B7 := Lib.hid (B1.out.trans b7); clear s7 b7))
    go_ret
    exact ⟨rfl, F7.out, B7.out⟩
  · have hcb : (chkT T t != 0) = true := by simpa using hc
    rw [if_pos hc, if_pos hc, if_pos hc]
    clear hc
    generalize chkT T t = x at HC hcb ⊢
    go_enter Tryz.func44, Tryz.ntmps44
    go_wp2_with (go_at_call 49; refine HC.out.mono ?_; rintro e w1 ⟨rfl, b1⟩; have F1 := Lib.hid (HF.out.below b1); have B1 := Lib.hid (BO.of b1 hle); clear b1)
    go_ret
    exact ⟨rfl, F1.out, B1.out⟩
end
end Go.Proofs.YtfpmcomigolacaaGreatDoor.fence
