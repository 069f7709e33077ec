/-
  The contracts of closed, isPast and note.
  The contracts of syncLast and Sync.
-/
import Derived.Test.YtfpmcomigolacaaGreatDoorJUw4
set_option linter.unusedSimpArgs false
set_option linter.unusedVariables false
namespace Go.Proofs.YtfpmcomigolacaaGreatDoor.wal
open Go.ChangeShapes Go.WideShapes Go.ChangeAt Go.RowKit Go.Maps Go.WideMaps
open Go.Proofs.YtfpmcomigolacaaGreatDoor.opened Go.Proofs.YtfpmcomigolacaaGreatDoor.block Go.Proofs.YtfpmcomigolacaaGreatDoor.words Go.Proofs.YtfpmcomigolacaaGreatDoor.disk Go.Proofs.YtfpmcomigolacaaGreatDoor.tailed Go.Proofs.YtfpmcomigolacaaGreatDoor.enc Go.Proofs.YtfpmcomigolacaaGreatDoor.code
theorem whole_type {w : World} {g : Nat} {T U : TypeId} {a b : Array Value} (h : Whole w g T a) (k : Whole w g U b) : T = U := by
  have := Option.some.inj (h.symm.trans k)
  injection this
section
variable {gl gd : Nat} {L : Lg} {A : Option Addr} {c : Nat} {R : Option Addr} {d : Nat} {w : World}
theorem LogE.headAt (h : LogE w gl gd L A c R d) {k : Nat} {x : Int} (hk : L.heads[k]? = some x) : ∃ g, A = some ⟨g, 0, none⟩ ∧ ∀ z : Since w, z.1.cell? ⟨g, k, none⟩ = some (.int .i64 x) := by
  obtain ⟨g, h1, h2, h3⟩ := own_at h.heads (by rw [List.getElem?_map, hk]; rfl)
  exact ⟨g, h1, fun z => (z.2.cell (p := ⟨g, k, none⟩) h2).trans h3⟩
theorem closed_any (G : GoodL L) (hp : 1 ≤ L.per ∧ L.per ≤ 64) (hn : nextN L ≤ 1125899906842624) (h : LogE w gl gd L A c R d) :
    Calls Tryz.prog 64 #[.pointer (some ⟨gl, 0, none⟩)] w fun e w' => e = .returned (.bool (closedB L)) ∧ Below w.heap.size w w' := by
  have HF : Hid (∀ w1, Below w.heap.size w w1 → Calls Tryz.prog 18 #[.pointer (some ⟨gl, 0, none⟩)] w1 fun e w' => e = .returned (.int .i64 (L.heads.length : Int)) ∧ Below w1.heap.size w1 w') := Lib.hid fun w1 b => files_any (h.below b)
  have HN : Hid (∀ w1, Below w.heap.size w w1 → Calls Tryz.prog 16 #[.pointer (some ⟨gl, 0, none⟩)] w1 fun e w' => e = .returned (.int .i64 (nextN L)) ∧ Below w1.heap.size w1 w') := Lib.hid fun w1 b => next_any G hn (h.below b)
  have c2 : Hid (∀ x : Since w, x.1.cell? ⟨gl, 2, none⟩ = some (.int .i64 L.per)) := Lib.hid fun x => (h.below x.2).cells.read 2
  have f2 : Hid (∀ x : Since w, x.1.frozen? ⟨gl, 2, none⟩ = false) := Lib.hid fun x => (h.below x.2).cells.soft 2
  have c4 : Hid (∀ x : Since w, x.1.cell? ⟨gl, 4, none⟩ = some (.slice A L.heads.length c)) := Lib.hid fun x => (h.below x.2).cells.read 4
  have f4 : Hid (∀ x : Since w, x.1.frozen? ⟨gl, 4, none⟩ = false) := Lib.hid fun x => (h.below x.2).cells.soft 4
  have c6 : Hid (∀ x : Since w, x.1.cell? ⟨gl, 6, none⟩ = some (.bool L.torn)) := Lib.hid fun x => (h.below x.2).cells.read 6
  have f6 : Hid (∀ x : Since w, x.1.frozen? ⟨gl, 6, none⟩ = false) := Lib.hid fun x => (h.below x.2).cells.soft 6
  have hh := Lib.hid fun k x => h.headAt (k := k) (x := x)
  have h0 := G.base
  have hlen : (L.heads.length : Int) ≤ 1000 := by have h1 := G.hi; have h2 := G.lo; unfold nextF at h1; omega
  have hlast := Lib.hid G.last
  have hge := Lib.hid (heads_ge G)
  have HR : Hid (closedB L = (decide (L.heads = []) || (L.torn || decide (L.per ≤ nextN L - lastH L)))) := Lib.hid rfl
  have HL : Hid (lastH L = L.heads.getLast?.getD 0) := Lib.hid rfl
  clear h G
  generalize closedB L = R0 at HR ⊢
  generalize lastH L = y at HR HL
  generalize nextN L = m at HN HR hn hlast
  generalize baseN L = b0 at h0 hge
  generalize L.per = per at c2 HR hp
  generalize L.torn = tor at c6 HR
  generalize L.heads = H at HF c4 hh HR HL hlast hge hlen
  cases H with
  | nil =>
    obtain rfl : R0 = true := by rw [HR.out]; simp
    have c2' := c2.out
    have f2' := f2.out
    clear HR HL hh c4 f4 c6 f6 HN c2 f2 c2' f2' hlen
    go_enter Tryz.func64, Tryz.ntmps64
    go_upto_region 2 with (go_at_call 18; refine (HF.out _ (Below.refl _ _)).mono ?_; rintro e w1 ⟨rfl, b1⟩; have B1 := Lib.hid b1; clear b1)
    refine region_since w (by kernel_rfl) (by kernel_rfl) B1.out ?_
    repeat (go_big_quiet_step (fail))
    refine wpQuiet_nil ?_
    rintro w4 ⟨z, rfl⟩
    have hz := z.2
    go_wp2_with fail
    go_ret
    exact ⟨rfl, hz⟩
  | cons x r =>
    have hR := HR.out
    rw [decide_eq_false (by simp), Bool.false_or] at hR
    cases tor with
    | true =>
      obtain rfl : R0 = true := by rw [hR]; simp
      have hzn : (((x :: r).length : Int) == 0) = false := by simp; omega
      generalize (x :: r).length = n at HF c4 hzn
      have c6' := c6.out
      have f6' := f6.out
      clear HR hR HL hh c4 f4 HN c2 f2 c6 f6 hlast hge hlen
      go_enter Tryz.func64, Tryz.ntmps64
      go_upto_region 2 with (go_at_call 18; refine (HF.out _ (Below.refl _ _)).mono ?_; rintro e w1 ⟨rfl, b1⟩; have B1 := Lib.hid b1; clear b1)
      refine region_since w (by kernel_rfl) (by kernel_rfl) B1.out ?_
      repeat (go_big_quiet_step (fail))
      refine wpQuiet_nil ?_
      rintro w4 ⟨z, rfl⟩
      have hz := z.2
      clear c6' f6'
      go_wp2_with fail
      go_ret
      exact ⟨rfl, hz⟩
    | false =>
      rw [Bool.false_or] at hR
      have hzn : (((x :: r).length : Int) == 0) = false := by simp; omega
      obtain ⟨k, hk⟩ : ∃ k, (x :: r).length = k + 1 := ⟨r.length, rfl⟩
      have hy : (x :: r)[k]? = some y := by
        have e1 := HL.out
        rw [List.getLast?_eq_getElem?, hk, Nat.add_sub_cancel] at e1
        rw [List.getElem?_eq_getElem (by omega)] at e1 ⊢
        exact congrArg some e1.symm
      obtain ⟨g, rfl, hcell⟩ := hh.out k y hy
      have hym := hlast.out y (List.mem_of_getElem? hy)
      have hyb := hge.out y (List.mem_of_getElem? hy)
      have hw : wrap64 (m - y) = m - y := by unfold wrap64; omega
      rw [hk] at HF c4 hzn hlen
      have hk1 : ((k + 1 : Nat) : Int) - 1 = (k : Int) := by omega
      have c4' := c4.out
      have f4' := f4.out
      have c6' := c6.out
      have f6' := f6.out
      have c2' := c2.out
      have f2' := f2.out
      have hkk : k < k + 1 := by omega
      have hnil : k + 1 < 1000000000 ∨ True := .inr trivial
      clear HR HL hh c4 f4 c2 f2 c6 f6 hlast hge hy hk hym hyb
      have hw2 : wrap64 (((k + 1 : Nat) : Int) - 1) = (k : Int) := by unfold wrap64; omega
      generalize k + 1 = n at *
      have HCx := Lib.hid hcell
      clear hk1 hnil hcell hlen
      subst hR
      clear hp hn h0
      go_enter Tryz.func64, Tryz.ntmps64
      go_upto_region 2 with (go_at_call 18; refine (HF.out _ (Below.refl _ _)).mono ?_; rintro e w1 ⟨rfl, b1⟩; have B1 := Lib.hid b1; clear b1)
      have hcell := HCx.out
      refine region_since w (by kernel_rfl) (by kernel_rfl) B1.out ?_
      repeat (go_big_quiet_step ((go_at_call 16; with_reducible exact since_callW HN.out _)))
      refine wpQuiet_nil ?_
      rintro w4 ⟨z, rfl⟩
      have hz := z.2
      clear c4' f4' c6' f6' c2' f2' hcell HCx
      go_wp2_with fail
      go_ret
      exact ⟨rfl, hz⟩
theorem past_any (G : GoodL L) (n : Int) (h : LogE w gl gd L A c R d) :
    Calls Tryz.prog 40 #[.pointer (some ⟨gl, 0, none⟩), .int .i64 n] w fun e w' => e = .returned (.bool (pastB L n)) ∧ Below w.heap.size w w' := by
  have HF := Lib.hid (files_any h)
  have c4 : ∀ w1, Below w.heap.size w w1 → w1.cell? ⟨gl, 4, none⟩ = some (.slice A L.heads.length c) ∧ w1.frozen? ⟨gl, 4, none⟩ = false := fun w1 b => ⟨(h.below b).cells.read 4, (h.below b).cells.soft 4⟩
  have hh : ∀ k x, L.heads[k]? = some x → ∃ g, A = some ⟨g, 0, none⟩ ∧ ∀ z : Since w, z.1.cell? ⟨g, k, none⟩ = some (.int .i64 x) := fun k x => h.headAt
  have HR : Hid (pastB L n = match L.heads with | _ :: h :: _ => decide (h ≤ n) | _ => false) := Lib.hid rfl
  clear h G
  generalize pastB L n = R0 at HR ⊢
  generalize L.heads = H at HF c4 hh HR
  have short : ∀ (R0 : Bool), H.length ≤ 1 → R0 = false → Calls Tryz.prog 40 #[.pointer (some ⟨gl, 0, none⟩), .int .i64 n] w fun e w' => e = .returned (.bool R0) ∧ Below w.heap.size w w' := by
    rintro R0 hl rfl
    clear HR hh c4
    generalize H.length = m at HF hl
    have hg : ¬ (1 : Int) < (m : Int) := by omega
    go_enter Tryz.func40, Tryz.ntmps40
    go_wp2_with (go_at_call 18; refine HF.out.mono ?_; rintro e w1 ⟨rfl, b1⟩; have B1 := Lib.hid b1; clear b1)
    go_ret
    exact ⟨rfl, B1.out⟩
  cases H with
  | nil => exact short _ (by simp) (by rw [HR.out])
  | cons x r =>
    cases r with
    | nil => exact short _ (by simp) (by rw [HR.out])
    | cons y r =>
      have hR : R0 = decide (y ≤ n) := HR.out
      obtain ⟨g, rfl, hc⟩ := hh 1 y rfl
      clear hh HR short
      have hg : (1 : Int) < ((x :: y :: r).length : Int) := by simp; omega
      have hg2 : 1 < (x :: y :: r).length := by simp
      generalize (x :: y :: r).length = m at HF c4 hg hg2
      have HC := Lib.hid hc
      clear hc
      subst hR
      go_enter Tryz.func40, Tryz.ntmps40
      go_wp2_with (go_at_call 18; refine HF.out.mono ?_; rintro e w1 ⟨rfl, b1⟩; have B1 := Lib.hid b1; obtain ⟨c5, f5⟩ := c4 w1 B1.out; have c6 := HC.out ⟨w1, B1.out⟩; clear b1)
      go_ret
      exact ⟨rfl, B1.out⟩
/-- A cell of a log's own block is set. -/
theorem LogE.set (h : LogE w gl gd L A c R d) (i : Nat) (v : Value) (M : Lg) (hc : (#[.pointer (some ⟨gd, 0, none⟩), sV L.nm, .int .i64 L.per, .int .i64 L.least, .slice A L.heads.length c, .slice R L.recs.length d, .bool L.torn, .int .i64 L.syn, .bool L.fail] : Array Value).setIfInBounds i v = #[.pointer (some ⟨gd, 0, none⟩), sV M.nm, .int .i64 M.per, .int .i64 M.least, .slice A M.heads.length c, .slice R M.recs.length d, .bool M.torn, .int .i64 M.syn, .bool M.fail]) (h1 : M.heads = L.heads) (h2 : M.recs = L.recs) :
    LogE (w.setCell ⟨gl, i, none⟩ v) gl gd M A c R d ∧ w.grownBy (w.setCell ⟨gl, i, none⟩ v) (some gl) := by
  have hg : w.grownBy (w.setCell ⟨gl, i, none⟩ v) (some gl) := only_store (World.grownBy.refl w _) v
  have hk : ∀ k, k ≠ gl → (w.setCell ⟨gl, i, none⟩ v).heap[k]? = w.heap[k]? := fun k hk => Below.heap_setCell w _ v k (by simpa using hk)
  refine ⟨⟨by have := h.cells.store i v; rw [hc] at this; exact this, ?_, ?_⟩, hg⟩
  · rw [h1]
    refine own_same h.heads fun k e => hk k fun ek => ?_
    subst ek
    obtain ⟨cs, q⟩ := own_type h.heads e
    exact absurd (whole_type q h.cells) (by decide)
  · rw [h2]
    refine own_same h.recs fun k e => hk k fun ek => ?_
    subst ek
    obtain ⟨cs, q⟩ := own_type h.recs e
    exact absurd (whole_type q h.cells) (by decide)
theorem note_any (e : Int) (h : LogE w gl gd L A c R d) :
    Calls Tryz.prog 38 #[.pointer (some ⟨gl, 0, none⟩), .int .i64 e] w fun x w' => x = .returned (.int .i64 e) ∧ LogE w' gl gd (noteL L e) A c R d ∧ w.grownBy w' (some gl) := by
  have f8 : w.frozen? ⟨gl, 8, none⟩ = false := h.cells.soft 8
  have c8 : w.cell? ⟨gl, 8, none⟩ = some (.bool L.fail) := h.cells.read 8
  have HS := Lib.hid (h.set 8 (.bool true) { L with fail := true } rfl rfl rfl)
  have H := Lib.hid h
  have HN : Hid (noteL L e = if e = 14 then { L with fail := true } else L) := Lib.hid rfl
  clear h
  by_cases q : e = 14
  · have e1 := HN.out
    rw [if_pos q] at e1
    rw [e1]
    subst q
    clear HN e1
    generalize L.fail = fl at c8
    go_enter Tryz.func38, Tryz.ntmps38
    go_wp2_with fail
    go_ret
    exact ⟨rfl, HS.out⟩
  · have e1 := HN.out
    rw [if_neg q] at e1
    rw [e1]
    have q2 : (e == 14) = false := by simpa using q
    clear HN e1 q HS
    go_enter Tryz.func38, Tryz.ntmps38
    go_wp2_with fail
    go_ret
    exact ⟨rfl, H.out, World.grownBy.refl w _⟩
end
end Go.Proofs.YtfpmcomigolacaaGreatDoor.wal
set_option linter.unusedSimpArgs false
set_option linter.unusedVariables false
namespace Go.Proofs.YtfpmcomigolacaaGreatDoor.wal
open Go.ChangeShapes Go.WideShapes Go.ChangeAt Go.RowKit Go.Maps Go.WideMaps
open Go.Proofs.YtfpmcomigolacaaGreatDoor.opened Go.Proofs.YtfpmcomigolacaaGreatDoor.block Go.Proofs.YtfpmcomigolacaaGreatDoor.words Go.Proofs.YtfpmcomigolacaaGreatDoor.disk Go.Proofs.YtfpmcomigolacaaGreatDoor.tailed Go.Proofs.YtfpmcomigolacaaGreatDoor.enc Go.Proofs.YtfpmcomigolacaaGreatDoor.code
/-- The listed variables hold what they should, below B, and nothing below B has turned since. -/
def EnvB (B : Nat) (w : World) : Prop := ∃ w0, w0.heap.size = B ∧ Env w0 ∧ Below B w0 w
theorem EnvB.env {B : Nat} {w : World} (h : EnvB B w) : Env w := by
  obtain ⟨w0, rfl, h1, h2⟩ := h
  exact h1.below h2
theorem EnvB.le {B : Nat} {w : World} (h : EnvB B w) : B ≤ w.heap.size := by
  obtain ⟨w0, rfl, h1, h2⟩ := h
  exact h2.size
theorem EnvB.step {B : Nat} {w w' : World} (h : EnvB B w) (hb : Below B w w') : EnvB B w' := by
  obtain ⟨w0, h0, h1, h2⟩ := h
  exact ⟨w0, h0, h1, h2.trans hb⟩
theorem EnvB.below {B : Nat} {w w' : World} (h : EnvB B w) (hb : Below w.heap.size w w') : EnvB B w' := h.step (hb.mono h.le)
theorem EnvB.start {w : World} (h : Env w) : EnvB w.heap.size w := ⟨w, rfl, h, Below.refl _ _⟩
/-- What a call of a log that writes its disk alone leaves. -/
structure DTurn (B gd : Nat) (D' : Dk) (w w' : World) : Prop where
  disk : DiskB w' B gd D'
  wt : WT w w' (fun _ => False)
  below : Below B w w'
theorem DTurn.pre {B gd : Nat} {D' : Dk} {w w1 w' : World} (hb : Below w.heap.size w w1) (hB : B ≤ w.heap.size) (h : DTurn B gd D' w1 w') : DTurn B gd D' w w' :=
  ⟨h.disk, (wt_below hb _).trans h.wt fun _ hf => hf.elim, (hb.mono hB).trans h.below⟩
theorem dturn_below {B gd : Nat} {D : Dk} {w w' : World} (hD : DiskB w B gd D) (hB : B ≤ w.heap.size) (hb : Below w.heap.size w w') : DTurn B gd D w w' := ⟨hD.below hb, wt_below hb _, hb.mono hB⟩

section
variable {gl gd : Nat} {L : Lg} {A : Option Addr} {c : Nat} {R : Option Addr} {d : Nat} {w : World} {B : Nat} {D : Dk}
set_option maxRecDepth 100000 in
set_option maxHeartbeats 1000000 in
theorem syncLast_any (G : GoodL L) (GD : GoodD D) (hF : D.F.length ≤ 1000) (hE : EnvB B w) (h : LogE w gl gd L A c R d) (hD : DiskB w B gd D) :
    Calls Tryz.prog 39 #[.pointer (some ⟨gl, 0, none⟩)] w fun e w' => e = .returned (.int .i64 (slE L D)) ∧ DTurn B gd (slD L D) w w' := by
  have hB := hE.le
  have n0 := G.lo
  have n1 := G.hi
  have HLN : Hid ((lastF L).length ≤ 100000) := Lib.hid (by
    unfold lastF
    by_cases h0 : 0 ≤ nextF L - 1
    · have := fn_len (nm := L.nm) (k := nextF L - 1) h0 (by omega)
      have := G.len
      omega
    · unfold nextF at h0; omega)
  have cD : ∀ w1, Below w.heap.size w w1 → w1.cell? ⟨gl, 0, none⟩ = some (.pointer (some ⟨gd, 0, none⟩)) ∧ w1.frozen? ⟨gl, 0, none⟩ = false := fun w1 b => ⟨(h.below b).cells.read 0, (h.below b).cells.soft 0⟩
  obtain ⟨c0, f0⟩ := cD w (Below.refl _ _)
  have HDn := Lib.hid (downB hD)
  have HF : Hid (∀ w1, Below w.heap.size w w1 → Calls Tryz.prog 18 #[.pointer (some ⟨gl, 0, none⟩)] w1 fun e w' => e = .returned (.int .i64 (L.heads.length : Int)) ∧ Below w1.heap.size w1 w') := Lib.hid fun w1 b => files_any (h.below b)
  have HN : Hid (∀ w1, Below w.heap.size w w1 → Calls Tryz.prog 57 #[.pointer (some ⟨gl, 0, none⟩)] w1 fun e w' => e = .returned (.int .i64 (nextF L)) ∧ Below w1.heap.size w1 w') := Lib.hid fun w1 b => nextFile_any G (h.below b)
  have HFi : Hid (L.heads ≠ [] → ∀ w1, Below w.heap.size w w1 → Calls Tryz.prog 36 #[.pointer (some ⟨gl, 0, none⟩), .int .i64 (nextF L - 1)] w1 fun e w' => e = .returned (sV (lastF L)) ∧ Below w1.heap.size w1 w') := Lib.hid fun hne w1 b => file_any G.len (nextF L - 1) (by unfold nextF; omega) (by omega) (h.below b) (hE.below b).env
  have HR : Hid (∀ w1, Below w.heap.size w w1 → Calls Tryz.prog 58 #[.pointer (some ⟨gd, 0, none⟩), sV (lastF L)] w1 fun e w' => e = .returned (.tuple #[sV (readV D (lastF L)), .int .i64 (readE D (lastF L))]) ∧ Below w1.heap.size w1 w') := Lib.hid fun w1 b => readB' _ HLN.out (hD.below b)
  have HLs : Hid (∀ w1, Below w.heap.size w w1 → Calls Tryz.prog 68 #[.pointer (some ⟨gd, 0, none⟩), sV (lastF L)] w1 fun e w' => e = .returned (.int .i64 (oldL D.F (lastF L) : Int)) ∧ w1 = w') := Lib.hid fun w1 b => lastsB _ HLN.out (hD.below b)
  have HSy : Hid (∀ w1, Below w.heap.size w w1 → Calls Tryz.prog 69 #[.pointer (some ⟨gd, 0, none⟩), sV (lastF L)] w1 fun e w' => e = .returned (.int .i64 (onE D (lastF L))) ∧ DTurn B gd (synV D (lastF L)) w w') := Lib.hid fun w1 b => (synW GD hF _ HLN.out (Nat.le_trans hB b.size) (hD.below b)).mono fun e w' ⟨e1, e2, e3, e4⟩ => ⟨e1, DTurn.pre b hB ⟨e2, e3, e4⟩⟩
  have HT0 : Hid (∀ w1, Below w.heap.size w w1 → DTurn B gd D w w1) := Lib.hid fun w1 b => dturn_below hD hB b
  have HSE : Hid (slE L D = if D.off = true then 14 else if L.heads = [] then 0 else if readE D (lastF L) ≠ 0 then readE D (lastF L) else if oldL D.F (lastF L) = (readV D (lastF L)).length then 0 else onE D (lastF L)) := Lib.hid rfl
  have HSD : Hid (slD L D = if D.off = true then D else if L.heads = [] then D else if readE D (lastF L) ≠ 0 then D else if oldL D.F (lastF L) = (readV D (lastF L)).length then D else synV D (lastF L)) := Lib.hid rfl
  have hlen : (L.heads.length : Int) ≤ 1000 := by unfold nextF at n1; omega
  have hnl : nextF L - 1 ≤ 1000 := by omega
  have hnl0 : 0 ≤ nextF L := by unfold nextF; omega
  have hol : oldL D.F (lastF L) ≤ 262144 := by
    refine Nat.le_trans (old_lasts GD _) ?_
    have := GD.room
    have h2 := old_len GD.srt (lastF L) [] 0
    rw [List.append_nil, used_put] at h2
    have h3 : (oldB D.F (lastF L)).length + used (del (lastF L) D.F) = used D.F + 0 := h2
    omega
  have hrv : (readV D (lastF L)).length ≤ 262144 := by
    unfold readV
    split
    · simp
    · have := GD.room
      have h2 := old_len GD.srt (lastF L) [] 0
      rw [List.append_nil, used_put] at h2
      have h3 : (oldB D.F (lastF L)).length + used (del (lastF L) D.F) = used D.F + 0 := h2
      omega
  clear h hD hE G GD hF n0 n1 HLN hB
  generalize slE L D = se at HSE ⊢
  generalize slD L D = sd at HSD ⊢
  generalize D.off = off at HDn HSE HSD
  cases off
  case true =>
    obtain rfl : se = 14 := HSE.out
    obtain rfl : sd = D := HSD.out
    clear HSE HSD HF HN HFi HR HLs HSy cD hlen hnl hnl0 hol hrv
    go_enter Tryz.func39, Tryz.ntmps39
    go_wp2_with (go_at_call 51; refine HDn.out.mono ?_; rintro e w1 ⟨rfl, rfl⟩)
    go_ret
    exact ⟨rfl, HT0.out _ (Below.refl _ _)⟩
  have hse := HSE.out
  have hsd := HSD.out
  rw [if_neg (by simp)] at hse hsd
  clear HSE HSD
  by_cases hh : L.heads = []
  · rw [if_pos hh] at hse hsd
    subst hse hsd
    have hz : L.heads.length = 0 := by rw [hh]; rfl
    rw [hz] at HF
    clear HN HFi HR HLs HSy cD hlen hnl hnl0 hol hrv hz hh
    go_enter Tryz.func39, Tryz.ntmps39
    go_wp2_with (first
      | (go_at_call 51; refine HDn.out.mono ?_; rintro e w1 ⟨rfl, rfl⟩)
      | (go_at_call 18; refine (HF.out _ (Below.refl _ _)).mono ?_; rintro e w2 ⟨rfl, b2⟩; have B2 := Lib.hid b2; clear b2))
    go_ret
    exact ⟨rfl, HT0.out _ B2.out⟩
  rw [if_neg hh] at hse hsd
  have HFi2 := Lib.hid (HFi.out hh)
  have hz : ((L.heads.length : Int) == 0) = false := by
    have : L.heads.length ≠ 0 := fun e => hh (List.eq_nil_of_length_eq_zero e)
    simp
    exact hh
  clear HFi hh
  generalize L.heads.length = n at HF hz hlen
  generalize lastF L = N at HFi2 HR HLs HSy hse hsd hol hrv
  generalize nextF L = nf at HN HFi2 hnl hnl0
  generalize readE D N = re at HR hse hsd
  generalize readV D N = rv at HR hse hsd hrv
  generalize oldL D.F N = ol at HLs hse hsd hol
  by_cases hre : re = 0
  case neg =>
    rw [if_pos hre] at hse hsd
    subst hse hsd
    have hre2 : (se != 0) = true := by simpa using hre
    clear hre HLs HSy hol hrv
    go_enter Tryz.func39, Tryz.ntmps39
    go_wp2_with (first
      | (go_at_call 51; refine HDn.out.mono ?_; rintro e w1 ⟨rfl, rfl⟩)
      | (go_at_call 58; refine (HR.out _ B4.out).mono ?_; rintro e w5 ⟨rfl, b5⟩; have B5 := Lib.hid (then_below B4.out b5); clear b5)
      | (go_at_call 36; refine (HFi2.out _ B3.out).mono ?_; rintro e w4 ⟨rfl, b4⟩; have B4 := Lib.hid (then_below B3.out b4); obtain ⟨c1, f1⟩ := cD w4 B4.out; clear b4)
      | (go_at_call 57; refine (HN.out _ B2.out).mono ?_; rintro e w3 ⟨rfl, b3⟩; have B3 := Lib.hid (then_below B2.out b3); clear b3)
      | (go_at_call 18; refine (HF.out _ (Below.refl _ _)).mono ?_; rintro e w2 ⟨rfl, b2⟩; have B2 := Lib.hid b2; clear b2))
    go_ret
    exact ⟨rfl, HT0.out _ B5.out⟩
  subst hre
  rw [if_neg (by simp)] at hse hsd
  by_cases hq : ol = rv.length
  · rw [if_pos hq] at hse hsd
    subst hse hsd
    subst hq
    clear HSy hol
    go_enter Tryz.func39, Tryz.ntmps39
    go_wp2_with (first
      | (go_at_call 51; refine HDn.out.mono ?_; rintro e w1 ⟨rfl, rfl⟩)
      | (go_at_call 68; refine (HLs.out _ B5.out).mono ?_; rintro e w6 ⟨rfl, rfl⟩)
      | (go_at_call 58; refine (HR.out _ B4.out).mono ?_; rintro e w5 ⟨rfl, b5⟩; have B5 := Lib.hid (then_below B4.out b5); obtain ⟨c7, f7⟩ := cD w5 B5.out; clear b5)
      | (go_at_call 36; refine (HFi2.out _ B3.out).mono ?_; rintro e w4 ⟨rfl, b4⟩; have B4 := Lib.hid (then_below B3.out b4); obtain ⟨c1, f1⟩ := cD w4 B4.out; clear b4)
      | (go_at_call 57; refine (HN.out _ B2.out).mono ?_; rintro e w3 ⟨rfl, b3⟩; have B3 := Lib.hid (then_below B2.out b3); clear b3)
      | (go_at_call 18; refine (HF.out _ (Below.refl _ _)).mono ?_; rintro e w2 ⟨rfl, b2⟩; have B2 := Lib.hid b2; clear b2))
    go_ret
    exact ⟨rfl, HT0.out _ B5.out⟩
  · rw [if_neg hq] at hse hsd
    subst hse hsd
    have hq2 : ((ol : Int) == (rv.length : Int)) = false := by simp; omega
    clear hq HT0
    generalize onE D N = oe at HSy ⊢
    generalize synV D N = ov at HSy ⊢
    go_enter Tryz.func39, Tryz.ntmps39
    go_wp2_with (first
      | (go_at_call 51; refine HDn.out.mono ?_; rintro e w1 ⟨rfl, rfl⟩)
      | (go_at_call 69; refine (HSy.out _ B5.out).mono ?_; rintro e w8 ⟨rfl, t8⟩; have T8 := Lib.hid t8; clear t8)
      | (go_at_call 68; refine (HLs.out _ B5.out).mono ?_; rintro e w6 ⟨rfl, rfl⟩)
      | (go_at_call 58; refine (HR.out _ B4.out).mono ?_; rintro e w5 ⟨rfl, b5⟩; have B5 := Lib.hid (then_below B4.out b5); obtain ⟨c7, f7⟩ := cD w5 B5.out; clear b5)
      | (go_at_call 36; refine (HFi2.out _ B3.out).mono ?_; rintro e w4 ⟨rfl, b4⟩; have B4 := Lib.hid (then_below B3.out b4); obtain ⟨c1, f1⟩ := cD w4 B4.out; clear b4)
      | (go_at_call 57; refine (HN.out _ B2.out).mono ?_; rintro e w3 ⟨rfl, b3⟩; have B3 := Lib.hid (then_below B2.out b3); clear b3)
      | (go_at_call 18; refine (HF.out _ (Below.refl _ _)).mono ?_; rintro e w2 ⟨rfl, b2⟩; have B2 := Lib.hid b2; clear b2))
    go_ret
    exact ⟨rfl, T8.out⟩
set_option maxRecDepth 100000 in
theorem sync_log (G : GoodL L) (hn : nextN L ≤ 1125899906842624) (GD : GoodD D) (hF : D.F.length ≤ 1000) (hE : EnvB B w) (h : LogE w gl gd L A c R d) (hD : DiskB w B gd D) (hgl : B ≤ gl) :
    Calls Tryz.prog 12 #[.pointer (some ⟨gl, 0, none⟩)] w fun e w' => e = .returned (.int .i64 (syE L D)) ∧ LogE w' gl gd (syL L D) A c R d ∧ DiskB w' B gd (syD L D) ∧ WT w w' (fun k => k = gl) ∧ Below B w w' := by
  have hB := hE.le
  have c8 : w.cell? ⟨gl, 8, none⟩ = some (.bool L.fail) := h.cells.read 8
  have f8 : w.frozen? ⟨gl, 8, none⟩ = false := h.cells.soft 8
  have HL := Lib.hid (syncLast_any G GD hF hE h hD)
  have HT0 : Hid (LogE w gl gd L A c R d ∧ DiskB w B gd D ∧ WT w w (fun k => k = gl) ∧ Below B w w) := Lib.hid ⟨h, hD, WT.refl _ _, Below.refl _ _⟩
  have HK : Hid (∀ w1, DTurn B gd (slD L D) w w1 → LogE w1 gl gd L A c R d) := Lib.hid fun w1 t => h.wt t.wt fun _ _ hf => hf
  have HE : Hid (syE L D = if L.fail = true then 14 else slE L D) := Lib.hid rfl
  have HD : Hid (syD L D = if L.fail = true then D else slD L D) := Lib.hid rfl
  have HM : Hid (syL L D = if L.fail = true then L else if slE L D ≠ 0 then noteL L (slE L D) else { L with syn := nextN L }) := Lib.hid rfl
  -- behind a step of the log's own
  have fin : Hid (∀ w1 w2 M, DTurn B gd (slD L D) w w1 → LogE w2 gl gd M A c R d → w1.grownBy w2 (some gl) → LogE w2 gl gd M A c R d ∧ DiskB w2 B gd (slD L D) ∧ WT w w2 (fun k => k = gl) ∧ Below B w w2) := Lib.hid fun w1 w2 M t hM hg => by
    have h1 := h.wt t.wt fun _ _ hf => hf
    refine ⟨hM, DiskB.own t.disk hg (fun k e _ => by cases e; exact ⟨_, _, h1.cells, by decide, by decide⟩), (t.wt.wide fun _ hf => hf.elim).trans (wt_grown hg (Q := fun k => k = gl) fun k e => by cases e; rfl) fun j hj => .inl hj, t.below.grown hg (Nat.le_trans hB t.wt.size) fun j e => by cases e; exact hgl⟩
  have HNx : Hid (∀ w1, DTurn B gd (slD L D) w w1 → Calls Tryz.prog 16 #[.pointer (some ⟨gl, 0, none⟩)] w1 fun e w' => e = .returned (.int .i64 (nextN L)) ∧ DTurn B gd (slD L D) w w') := Lib.hid fun w1 t => (next_any G hn (HK.out w1 t)).mono fun e w' ⟨e1, e2⟩ => ⟨e1, ⟨t.disk.below e2, t.wt.trans (wt_below e2 (fun _ => False)) fun _ hf => hf.elim, t.below.trans (e2.mono (Nat.le_trans hB t.wt.size))⟩⟩
  have HNo : Hid (∀ w1, DTurn B gd (slD L D) w w1 → Calls Tryz.prog 38 #[.pointer (some ⟨gl, 0, none⟩), .int .i64 (slE L D)] w1 fun x w' => x = .returned (.int .i64 (slE L D)) ∧ LogE w' gl gd (noteL L (slE L D)) A c R d ∧ w1.grownBy w' (some gl)) := Lib.hid fun w1 t => note_any _ (HK.out w1 t)
  have HSt : Hid (∀ w1, DTurn B gd (slD L D) w w1 → w1.cell? ⟨gl, 7, none⟩ = some (.int .i64 L.syn) ∧ w1.frozen? ⟨gl, 7, none⟩ = false ∧ LogE (w1.setCell ⟨gl, 7, none⟩ (.int .i64 (nextN L))) gl gd { L with syn := nextN L } A c R d ∧ w1.grownBy (w1.setCell ⟨gl, 7, none⟩ (.int .i64 (nextN L))) (some gl)) := Lib.hid fun w1 t => ⟨(HK.out w1 t).cells.read 7, (HK.out w1 t).cells.soft 7, (HK.out w1 t).set 7 _ _ rfl rfl rfl⟩
  clear h hD hE G GD hF HK hn hB hgl
  generalize L.syn = sy0 at HSt
  generalize ({ L with syn := nextN L } : Lg) = M1 at HM HSt
  generalize syE L D = se at HE ⊢
  generalize syD L D = sd at HD ⊢
  generalize syL L D = sl at HM ⊢
  generalize L.fail = fl at c8 HE HD HM
  cases fl
  case true =>
    obtain rfl : se = 14 := HE.out
    obtain rfl : sd = D := HD.out
    obtain rfl : sl = L := HM.out
    clear HE HD HM HL fin HNx HNo HSt
    go_enter Tryz.func12, Tryz.ntmps12
    go_wp2_with fail
    go_ret
    exact ⟨rfl, HT0.out⟩
  have e1 : se = slE L D := HE.out
  have e2 : sd = slD L D := HD.out
  have e3 := HM.out
  rw [if_neg (by simp)] at e3
  subst e1 e2
  clear HE HD HM HT0
  generalize slD L D = sd at HL fin HNx HNo HSt ⊢
  by_cases q : slE L D = 0
  · rw [if_neg (by simpa using q)] at e3
    subst e3
    rw [q] at HL ⊢
    clear q HNo
    generalize nextN L = m at HNx HSt ⊢
    go_enter Tryz.func12, Tryz.ntmps12
    go_wp2_with (first
      | (go_at_call 39; refine HL.out.mono ?_; rintro e w1 ⟨rfl, t1⟩; have T1 := Lib.hid t1; clear t1)
      | (go_at_call 16; refine (HNx.out _ T1.out).mono ?_; rintro e w2 ⟨rfl, t2⟩; have T2 := Lib.hid t2; obtain ⟨c7, f7, HS2⟩ := HSt.out _ t2; replace HS2 := Lib.hid HS2; clear t2))
    go_ret
    exact ⟨rfl, fin.out _ _ _ T2.out HS2.out.1 HS2.out.2⟩
  · rw [if_pos q] at e3
    subst e3
    have q2 : (slE L D != 0) = true := by simpa using q
    clear q HNx HSt
    generalize noteL L (slE L D) = M at HNo ⊢
    generalize slE L D = s0 at HL HNo q2 ⊢
    go_enter Tryz.func12, Tryz.ntmps12
    go_wp2_with (first
      | (go_at_call 39; refine HL.out.mono ?_; rintro e w1 ⟨rfl, t1⟩; have T1 := Lib.hid t1; clear t1)
      | (go_at_call 38; refine (HNo.out _ T1.out).mono ?_; rintro e w2 ⟨rfl, h2, g2⟩; have H2 := Lib.hid h2; have G2 := Lib.hid g2; clear h2 g2))
    go_ret
    exact ⟨rfl, fin.out _ _ _ T1.out H2.out G2.out⟩
end
end Go.Proofs.YtfpmcomigolacaaGreatDoor.wal
