/-
  The contracts of words.Number, words.Signed and words.Int, and of the document's.
  The contracts of a log's small functions: Files, Base, Next, nextFile, Synced, file, note, Get, closed, isPast.
-/
import Derived.Test.YtcogehhjofgbiaaGreatDoorJWc
import Derived.Test.YtcogehhjofgbiaaGreatDoorJLayL
import Derived.Test.YtcogehhjofgbiaaGreatDoorJNw
import Derived.Lib.AppendIntMem
import Derived.Shelf.Strconv.ErrVarParseInt
import Derived.Laws.OwnMore
import Derived.Test.YtcogehhjofgbiaaGreatDoorJUw1
import Derived.Test.YtcogehhjofgbiaaGreatDoorJUw4
import Derived.Test.YtcogehhjofgbiaaGreatDoorJUt
import Derived.Test.YtcogehhjofgbiaaGreatDoorJWv
import Derived.Deep.QuietTactic
import Derived.BigQuiet
set_option linter.unusedSimpArgs false
set_option linter.unusedVariables false
namespace Go.Proofs.YtcogehhjofgbiaaGreatDoor.words
open Go.ChangeShapes Go.WideShapes Go.ChangeAt Go.RowKit
open Go.Proofs.YtcogehhjofgbiaaGreatDoor.opened Go.Proofs.YtcogehhjofgbiaaGreatDoor.block

/-- What the listed variables hold. -/
structure Env (w : World) : Prop where
  tab : Lib.TabIs Tryz.prog w "internal/strconv.uint64pow10" .u64 Lib.pow10Tab
  max : MaxIs w
  syn : ∃ tp p, w.var? Tryz.prog "strconv.ErrSyntax" = some #[.iface tp p]
  rng : ∃ tp p, w.var? Tryz.prog "strconv.ErrRange" = some #[.iface tp p]
theorem var_below {P : Program} {w w' : World} {name : String} {cs : Array Value} (h : w.var? P name = some cs) (hb : Below w.heap.size w w') : w'.var? P name = some cs := by
  unfold World.var? at *
  cases hg : P.globalNamed name with
  | none => simp [hg] at h
  | some g =>
    simp only [hg, Option.bind_some] at h ⊢
    have hlt : g < w.heap.size := by
      rcases Nat.lt_or_ge g w.heap.size with h' | h'
      · exact h'
      · simp [Array.getElem?_eq_none h'] at h
    rw [hb.block g hlt]
    exact h
theorem Env.below {w w' : World} (h : Env w) (hb : Below w.heap.size w w') : Env w' := by
  obtain ⟨t1, p1, h1⟩ := h.syn
  obtain ⟨t2, p2, h2⟩ := h.rng
  exact ⟨var_below h.tab hb, h.max.below hb, ⟨t1, p1, var_below h1 hb⟩, ⟨t2, p2, var_below h2 hb⟩⟩
theorem number_any (n : Int) (h0 : -9223372036854775808 ≤ n) (h1 : n ≤ 9223372036854775807) (w : World) (hE : Env w) :
    Calls Tryz.prog 64 #[.int .i64 n] w fun e w' => e = .returned (sV (Lib.itoa n)) ∧ Below w.heap.size w w' := by
  have H := Lib.hid (Any.strconv_FormatInt_10 Tryz.laysM173 n h0 h1 w hE.tab)
  clear hE h0 h1
  go_enter Tryz.func64, Tryz.ntmps64
  go_wp2_with ((go_at_call 93; refine H.out.mono ?_; rintro e w4 ⟨rfl, k, os, rfl⟩))
  go_ret
  exact ⟨rfl, Lib.below_grow _ _ (Nat.le_refl _) k os⟩
/-- What ParseInt tells. -/
def PV (w : Bs) : Option Int := match Lib.parseIntB 64 w with
  | .ok v => some v
  | _ => none
theorem parse_yes (s : Bs) (hs : s.length ≤ 100000) (v : Int) (h : PV s = some v) (w : World) :
    Calls Tryz.prog 101 #[.string ⟨s.toArray⟩, .int .i64 10, .int .i64 64] w fun e w' => e = .returned (.tuple #[.int .i64 v, .nilIface]) ∧ Below w.heap.size w w' := by
  have h2 : Lib.parseIntB 64 s = .ok v := by
    unfold PV at h
    split at h
    · rename_i u hu; simp at h; rw [hu, h]
    · cases h
  refine (Any.strconv_ParseInt_10_at64_ok Tryz.laysC174 ⟨s.toArray⟩ (by show s.toArray.size ≤ _; simp; omega) v h2 w).mono fun e w' ⟨he, hw⟩ => ⟨he, ?_⟩
  rcases hw with rfl | ⟨t, rfl⟩
  · exact Below.refl _ _
  · exact Lib.bytesWorld_below _ _ _
theorem parse_no (s : Bs) (hs : s.length ≤ 100000) (h : PV s = none) (w : World) (hE : Env w) :
    Calls Tryz.prog 101 #[.string ⟨s.toArray⟩, .int .i64 10, .int .i64 64] w fun e w' => ∃ (v : Int) (N : Nat), e = .returned (.tuple #[.int .i64 v, .iface 174 (.pointer (some ⟨N, 0, none⟩))]) ∧ Below w.heap.size w w' := by
  have hz : (⟨s.toArray⟩ : ByteArray).size ≤ 281474976710656 := by show s.toArray.size ≤ _; simp; omega
  obtain ⟨t1, p1, h1⟩ := hE.syn
  obtain ⟨t2, p2, h2⟩ := hE.rng
  rcases hp : Lib.parseIntB 64 s with u | _ | _
  · simp [PV, hp] at h
  · exact (Any.strconv_ParseInt_10_at64_syntax_var Tryz.laysC174 ⟨s.toArray⟩ hz hp t1 p1 w h1).mono fun e w' ⟨N, he, _, _, hb⟩ => ⟨0, N, he, hb⟩
  · exact (Any.strconv_ParseInt_10_at64_range_var Tryz.laysC174 ⟨s.toArray⟩ hz hp t2 p2 w h2).mono fun e w' ⟨N, he, _, _, hb⟩ => ⟨_, N, he, hb⟩
theorem PV_bounds {w : Bs} {v : Int} (h : PV w = some v) : -9223372036854775808 ≤ v ∧ v ≤ 9223372036854775807 := by
  unfold PV at h
  split at h
  · rename_i u hu
    simp at h
    subst h
    have := Lib.parseIntB_bounds hu
    exact ⟨by omega, by omega⟩
  · cases h
theorem sg_PV (w : Bs) : sgP w = (PV w).bind fun v => if Lib.itoa v = w then some v else none := by
  unfold sgP PV
  cases h : Lib.parseIntB 64 w <;> simp
theorem str_ne {a b : Bs} : (sV a = sV b) ↔ a = b := by
  constructor
  · intro h
    injection h with h
    injection h with h
    exact Array.toList_inj.2 h |> fun h => by simpa using h
  · rintro rfl; rfl
set_option maxRecDepth 100000 in
theorem signed_any (s : Bs) (hs : s.length ≤ 100000) (w : World) (hE : Env w) :
    Calls Tryz.prog 86 #[.string ⟨s.toArray⟩] w fun e w' => e = .returned (.tuple #[.int .i64 (sgV s), .int .i64 (sgE s)]) ∧ Below w.heap.size w w' := by
  have HE := Lib.hid hE
  clear hE
  cases hp : PV s with
  | none =>
    obtain ⟨e1, e2⟩ := sgE_none (by rw [sg_PV, hp]; rfl : sgP s = none)
    rw [e1, e2]
    have C := Lib.hid (parse_no s hs hp w HE.out)
    clear hp e1 e2
    go_enter Tryz.func86, Tryz.ntmps86
    go_wp2_with ((go_at_call 101; refine C.out.mono ?_; rintro e w4 ⟨v, N, rfl, b4⟩))
    go_ret2
    exact ⟨rfl, b4⟩
  | some v =>
    have hb := PV_bounds hp
    have C := Lib.hid (parse_yes s hs v hp w)
    have CN := Lib.hid (fun w2 h2 => number_any v hb.1 hb.2 w2 h2)
    by_cases hi : Lib.itoa v = s
    · obtain ⟨e1, e2⟩ := sgE_some (by rw [sg_PV, hp]; simp [hi] : sgP s = some v)
      rw [e1, e2]
      rw [hi] at CN
      clear hp e1 e2 hi hb
      go_enter Tryz.func86, Tryz.ntmps86
      go_wp2_with (first | (go_at_call 101; refine C.out.mono ?_; rintro e w4 ⟨rfl, b4⟩; have B4 := Lib.hid b4; clear b4) | (go_at_call 64; refine (CN.out _ (HE.out.below B4.out)).mono ?_; rintro e w5 ⟨rfl, b5⟩; have B5 := Lib.hid b5; clear b5))
      go_ret2
      exact ⟨rfl, then_below B4.out B5.out⟩
    · obtain ⟨e1, e2⟩ := sgE_none (by rw [sg_PV, hp]; simp [hi] : sgP s = none)
      rw [e1, e2]
      have hne : (Lib.itoa v == s) = false := by simpa using hi
      clear hp e1 e2 hb hi
      generalize Lib.itoa v = z at CN hne
      go_enter Tryz.func86, Tryz.ntmps86
      go_wp2_with (first | (go_at_call 101; refine C.out.mono ?_; rintro e w4 ⟨rfl, b4⟩; have B4 := Lib.hid b4; clear b4) | (go_at_call 64; refine (CN.out _ (HE.out.below B4.out)).mono ?_; rintro e w5 ⟨rfl, b5⟩; have B5 := Lib.hid b5; clear b5))
      go_ret2
      exact ⟨rfl, then_below B4.out B5.out⟩
set_option maxRecDepth 100000 in
theorem int_any (s : Bs) (hs : s.length ≤ 100000) (low high : Int) (w : World) (hE : Env w) :
    Calls Tryz.prog 56 #[.string ⟨s.toArray⟩, .int .i64 low, .int .i64 high] w fun e w' => e = .returned (.tuple #[.int .i64 (inV s low high), .int .i64 (inE s low high)]) ∧ Below w.heap.size w w' := by
  have C := Lib.hid (signed_any s hs w hE)
  clear hE
  unfold inE inV
  rcases sgE_cases s with h | h
  · rw [h] at C ⊢
    have h0 : ¬ ((0 : Int) ≠ 0) := by omega
    rw [if_neg h0, if_neg h0]
    have hb := sg_bounds s
    clear h h0
    generalize sgV s = v at C hb ⊢
    by_cases h1 : v < low
    · rw [if_pos (.inl h1), if_pos (.inl h1)]
      go_enter Tryz.func56, Tryz.ntmps56
      go_wp2_with ((go_at_call 86; refine C.out.mono ?_; rintro e w4 ⟨rfl, b4⟩))
      go_ret2
      exact ⟨rfl, b4⟩
    · by_cases h2 : high < v
      · rw [if_pos (.inr h2), if_pos (.inr h2)]
        go_enter Tryz.func56, Tryz.ntmps56
        go_wp2_with ((go_at_call 86; refine C.out.mono ?_; rintro e w4 ⟨rfl, b4⟩))
        go_ret2
        exact ⟨rfl, b4⟩
      · rw [if_neg (by omega), if_neg (by omega)]
        go_enter Tryz.func56, Tryz.ntmps56
        go_wp2_with ((go_at_call 86; refine C.out.mono ?_; rintro e w4 ⟨rfl, b4⟩))
        go_ret2
        exact ⟨rfl, b4⟩
  · rw [h] at C ⊢
    rw [if_pos (by omega), if_pos (by omega)]
    clear h
    generalize sgV s = v at C
    go_enter Tryz.func56, Tryz.ntmps56
    go_wp2_with ((go_at_call 86; refine C.out.mono ?_; rintro e w4 ⟨rfl, b4⟩))
    go_ret2
    exact ⟨rfl, b4⟩
end Go.Proofs.YtcogehhjofgbiaaGreatDoor.words
set_option linter.unusedSimpArgs false
set_option linter.unusedVariables false
namespace Go.Proofs.YtcogehhjofgbiaaGreatDoor.wal
open Go.ChangeShapes Go.WideShapes Go.ChangeAt Go.RowKit Go.Maps Go.WideMaps
open Go.Proofs.YtcogehhjofgbiaaGreatDoor.opened Go.Proofs.YtcogehhjofgbiaaGreatDoor.block Go.Proofs.YtcogehhjofgbiaaGreatDoor.words Go.Proofs.YtcogehhjofgbiaaGreatDoor.disk Go.Proofs.YtcogehhjofgbiaaGreatDoor.tailed Go.Proofs.YtcogehhjofgbiaaGreatDoor.enc Go.Proofs.YtcogehhjofgbiaaGreatDoor.code

theorem region_since_tail {P : Program} {id : Nat} {Q : Exit → Act → World → Prop} {a : Act} (w0 : World) {w : World} {l : List Oper} (n : Nat) (hm : P.follows .mixedOrders = true) (hB : Region.lexTailB .any l.toArray n = true) (hw : Below w0.heap.size w0 w)
    (h : wpQuiet P l.toArray (fun w' => ∃ x : Since w0, w' = x.1) (fun a' => ∀ w', (∃ x : Since w0, w' = x.1) → wpList P l.toArray Q (l.drop n) a' w') (l.take n) a) : (Code.region id l.toArray true).wp P Q a w :=
  region_tail (C := fun w' => ∃ x : Since w0, w' = x.1) n hm hB ⟨⟨_, hw.drew⟩, rfl⟩ h
theorem since_callW {P : Program} {f : FuncId} {args : Array Value} {v : Value} {w0 : World} (h : ∀ w, Below w0.heap.size w0 w → Calls P f args w fun e w' => e = .returned v ∧ Below w.heap.size w w') (x : Since w0) :
    Calls P f args x.1 fun e w' => e = .returned v ∧ ∃ y : Since w0, w' = y.1 :=
  (h x.1 x.2).mono fun _ w' ⟨he, hb⟩ => ⟨he, ⟨w', then_below x.2 hb⟩, rfl⟩

section
variable {gl gd : Nat} {L : Lg} {A : Option Addr} {c : Nat} {R : Option Addr} {d : Nat} {w : World}
theorem files_any (h : LogE w gl gd L A c R d) :
    Calls Tryz.prog 19 #[.pointer (some ⟨gl, 0, none⟩)] w fun e w' => e = .returned (.int .i64 (L.heads.length : Int)) ∧ Below w.heap.size w w' := by
  have c4 : w.cell? ⟨gl, 4, none⟩ = some (.slice A L.heads.length c) := h.cells.read 4
  have f4 : w.frozen? ⟨gl, 4, none⟩ = false := h.cells.soft 4
  clear h
  generalize L.heads.length = n at c4 ⊢
  go_enter Tryz.func19, Tryz.ntmps19
  go_wp2_with fail
  go_ret
  exact ⟨rfl, Below.refl _ _⟩
theorem synced_any (h : LogE w gl gd L A c R d) :
    Calls Tryz.prog 18 #[.pointer (some ⟨gl, 0, none⟩)] w fun e w' => e = .returned (.int .i64 L.syn) ∧ Below w.heap.size w w' := by
  have c4 : w.cell? ⟨gl, 7, none⟩ = some (.int .i64 L.syn) := h.cells.read 7
  have f4 : w.frozen? ⟨gl, 7, none⟩ = false := h.cells.soft 7
  clear h
  generalize L.syn = n at c4 ⊢
  go_enter Tryz.func18, Tryz.ntmps18
  go_wp2_with fail
  go_ret
  exact ⟨rfl, Below.refl _ _⟩
theorem base_any (h : LogE w gl gd L A c R d) :
    Calls Tryz.prog 20 #[.pointer (some ⟨gl, 0, none⟩)] w fun e w' => e = .returned (.int .i64 (baseN L)) ∧ Below w.heap.size w w' := by
  have HF := Lib.hid (files_any h)
  have c4 : ∀ w1, Below w.heap.size w w1 → w1.cell? ⟨gl, 4, none⟩ = some (.slice A L.heads.length c) ∧ w1.frozen? ⟨gl, 4, none⟩ = false := fun w1 b => ⟨(h.below b).cells.read 4, (h.below b).cells.soft 4⟩
  have hh : ∀ w1, Below w.heap.size w w1 → ∀ k x, L.heads[k]? = some x → ∃ g, A = some ⟨g, 0, none⟩ ∧ g < w1.heap.size ∧ w1.cell? ⟨g, k, none⟩ = some (.int .i64 x) := fun w1 b k x hk => own_at (h.below b).heads (by rw [List.getElem?_map, hk]; rfl)
  clear h
  unfold baseN
  cases e : L.heads with
  | nil =>
    rw [e] at HF c4
    clear hh e c4
    go_enter Tryz.func20, Tryz.ntmps20
    go_wp2_with (go_at_call 19; refine HF.out.mono ?_; rintro e w1 ⟨rfl, b1⟩; have B1 := Lib.hid b1; clear b1)
    go_ret
    exact ⟨rfl, B1.out⟩
  | cons x r =>
    rw [e] at HF c4 hh
    have hh0 := fun w1 b => hh w1 b 0 x rfl
    clear hh e
    have hz : (((x :: r).length : Int) == 0) = false := by simp; omega
    have hz2 : 0 < (x :: r).length := by simp
    have HX : Hid (((x :: r).head?.getD 0 : Int) = x) := Lib.hid rfl
    generalize (x :: r).length = n at HF c4 hz hz2
    generalize ((x :: r).head?.getD 0 : Int) = y at HX ⊢
    obtain rfl : y = x := HX.out
    go_enter Tryz.func20, Tryz.ntmps20
    go_upto_region 3 with (go_at_call 19; refine HF.out.mono ?_; rintro e w1 ⟨rfl, b1⟩; have B1 := Lib.hid b1; clear b1)
    obtain ⟨c5, f5⟩ := c4 w1 B1.out
    obtain ⟨g, rfl, -, c6⟩ := hh0 w1 B1.out
    clear c4 hh0
    go_wp2_with fail
    go_ret
    exact ⟨rfl, B1.out⟩
theorem next_any (G : GoodL L) (hn : nextN L ≤ 1125899906842624) (h : LogE w gl gd L A c R d) :
    Calls Tryz.prog 17 #[.pointer (some ⟨gl, 0, none⟩)] w fun e w' => e = .returned (.int .i64 (nextN L)) ∧ Below w.heap.size w w' := by
  have HB : Hid (∀ w1, Below w.heap.size w w1 → Calls Tryz.prog 20 #[.pointer (some ⟨gl, 0, none⟩)] w1 fun e w' => e = .returned (.int .i64 (baseN L)) ∧ Below w1.heap.size w1 w') := Lib.hid fun w1 b => base_any (h.below b)
  have c5 : ∀ x : Since w, x.1.cell? ⟨gl, 5, none⟩ = some (.slice R L.recs.length d) := fun x => (h.below x.2).cells.read 5
  have f5 : ∀ x : Since w, x.1.frozen? ⟨gl, 5, none⟩ = false := fun x => (h.below x.2).cells.soft 5
  have h0 := G.base
  unfold nextN at hn ⊢
  clear h G
  generalize baseN L = b at HB hn h0 ⊢
  generalize L.recs.length = n at c5 hn ⊢
  have hw : wrap64 (b + (n : Int)) = b + (n : Int) := by unfold wrap64; omega
  clear hn h0
  go_enter Tryz.func17, Tryz.ntmps17
  go_upto_region 1 with fail
  refine region_since w (by kernel_rfl) (by kernel_rfl) (Below.refl _ _) ?_
  repeat (go_big_quiet_step ((go_at_call 20; with_reducible exact since_callW HB.out _)))
  refine wpQuiet_nil ?_
  rintro w4 ⟨z, rfl⟩
  have hz := z.2
  clear c5 f5
  rw [hw]
  go_wp2_with fail
  go_ret
  exact ⟨rfl, hz⟩
theorem nextFile_any (G : GoodL L) (h : LogE w gl gd L A c R d) :
    Calls Tryz.prog 58 #[.pointer (some ⟨gl, 0, none⟩)] w fun e w' => e = .returned (.int .i64 (nextF L)) ∧ Below w.heap.size w w' := by
  have HB : Hid (∀ w1, Below w.heap.size w w1 → Calls Tryz.prog 19 #[.pointer (some ⟨gl, 0, none⟩)] w1 fun e w' => e = .returned (.int .i64 (L.heads.length : Int)) ∧ Below w1.heap.size w1 w') := Lib.hid fun w1 b => files_any (h.below b)
  have c5 : ∀ x : Since w, x.1.cell? ⟨gl, 3, none⟩ = some (.int .i64 L.least) := fun x => (h.below x.2).cells.read 3
  have f5 : ∀ x : Since w, x.1.frozen? ⟨gl, 3, none⟩ = false := fun x => (h.below x.2).cells.soft 3
  have h0 := G.lo
  have h1 := G.hi
  unfold nextF at h1 ⊢
  clear h G
  generalize L.least = b at c5 h0 h1 ⊢
  generalize L.heads.length = n at HB h1 ⊢
  have hw : wrap64 (b + (n : Int)) = b + (n : Int) := by unfold wrap64; omega
  clear h0 h1
  go_enter Tryz.func58, Tryz.ntmps58
  go_upto_region 1 with fail
  refine region_since w (by kernel_rfl) (by kernel_rfl) (Below.refl _ _) ?_
  repeat (go_big_quiet_step ((go_at_call 19; with_reducible exact since_callW HB.out _)))
  refine wpQuiet_nil ?_
  rintro w4 ⟨z, rfl⟩
  have hz := z.2
  clear c5 f5
  rw [hw]
  go_wp2_with fail
  go_ret
  exact ⟨rfl, hz⟩
theorem file_any (hl : L.nm.length ≤ 8) (k : Int) (h0 : 0 ≤ k) (h1 : k ≤ 1000000) (h : LogE w gl gd L A c R d) (hE : Env w) :
    Calls Tryz.prog 37 #[.pointer (some ⟨gl, 0, none⟩), .int .i64 k] w fun e w' => e = .returned (sV (fn L.nm k)) ∧ Below w.heap.size w w' := by
  have HB : Hid (∀ w1, Below w.heap.size w w1 → Calls Tryz.prog 64 #[.int .i64 k] w1 fun e w' => e = .returned (sV (Lib.itoa k)) ∧ Below w1.heap.size w1 w') := Lib.hid fun w1 b => number_any k (by omega) (by omega) w1 (hE.below b)
  have c5 : ∀ x : Since w, x.1.cell? ⟨gl, 1, none⟩ = some (sV L.nm) := fun x => (h.below x.2).cells.read 1
  have f5 : ∀ x : Since w, x.1.frozen? ⟨gl, 1, none⟩ = false := fun x => (h.below x.2).cells.soft 1
  have hi := (itoa_shape k (by omega) (by omega)).1
  unfold fn
  clear h hE
  generalize L.nm = nm at c5 hl ⊢
  generalize Lib.itoa k = t at HB hi ⊢
  have ha : (⟨nm.toArray⟩ : ByteArray) ++ (⟨t.toArray⟩ : ByteArray) = ⟨(nm ++ t).toArray⟩ := ByteArray.ext (by simp)
  have hab : ¬ 9223372036854775807 < nm.length + t.length := by omega
  rw [show sV (nm ++ t) = .string ((⟨nm.toArray⟩ : ByteArray) ++ (⟨t.toArray⟩ : ByteArray)) from by rw [ha]]
  clear ha hl hi
  go_enter Tryz.func37, Tryz.ntmps37
  go_upto_region 1 with fail
  refine region_since w (by kernel_rfl) (by kernel_rfl) (Below.refl _ _) ?_
  repeat (go_big_quiet_step ((go_at_call 64; with_reducible exact since_callW HB.out _)))
  refine wpQuiet_nil ?_
  rintro w4 ⟨z, rfl⟩
  have hz := z.2
  clear c5 f5
  go_wp2_with fail
  go_ret
  exact ⟨rfl, hz⟩
theorem get_any (G : GoodL L) (hn : nextN L ≤ 1125899906842624) (n : Int) (n0 : -9223372036854775808 ≤ n) (n1 : n ≤ 9223372036854775807) (h : LogE w gl gd L A c R d) :
    Calls Tryz.prog 21 #[.pointer (some ⟨gl, 0, none⟩), .int .i64 n] w fun e w' => e = .returned (.tuple #[sV (gtV L n), .int .i64 (gtE L n)]) ∧ Below w.heap.size w w' := by
  have HB : Hid (∀ w1, Below w.heap.size w w1 → Calls Tryz.prog 20 #[.pointer (some ⟨gl, 0, none⟩)] w1 fun e w' => e = .returned (.int .i64 (baseN L)) ∧ Below w1.heap.size w1 w') := Lib.hid fun w1 b => base_any (h.below b)
  have HN : Hid (∀ w1, Below w.heap.size w w1 → Calls Tryz.prog 17 #[.pointer (some ⟨gl, 0, none⟩)] w1 fun e w' => e = .returned (.int .i64 (nextN L)) ∧ Below w1.heap.size w1 w') := Lib.hid fun w1 b => next_any G hn (h.below b)
  have c5 : Hid (∀ x : Since w, x.1.cell? ⟨gl, 5, none⟩ = some (.slice R L.recs.length d)) := Lib.hid fun x => (h.below x.2).cells.read 5
  have f5 : Hid (∀ x : Since w, x.1.frozen? ⟨gl, 5, none⟩ = false) := Lib.hid fun x => (h.below x.2).cells.soft 5
  have hh : Hid (∀ k s, L.recs[k]? = some s → ∃ g, R = some ⟨g, 0, none⟩ ∧ ∀ x : Since w, x.1.cell? ⟨g, k, none⟩ = some (sV s)) := Lib.hid fun k s hk => by
    obtain ⟨g, h1, h2, h3⟩ := own_at h.recs (by rw [List.getElem?_map, hk]; rfl)
    exact ⟨g, h1, fun x => (x.2.cell (p := ⟨g, k, none⟩) h2).trans h3⟩
  have h0 := G.base
  have HX : Hid (nextN L = baseN L + L.recs.length) := Lib.hid rfl
  have HE : Hid (gtE L n = if n < baseN L ∨ nextN L ≤ n then 1 else 0) := Lib.hid rfl
  have HV : Hid (gtV L n = if n < baseN L ∨ nextN L ≤ n then [] else (L.recs[(n - baseN L).toNat]?).getD []) := Lib.hid rfl
  clear h G
  generalize gtE L n = ge at HE ⊢
  generalize gtV L n = gv at HV ⊢
  generalize baseN L = b at HB HX HE HV h0
  generalize nextN L = m at HN HX HE HV hn
  by_cases q1 : n < b
  · have e1 := HE.out
    have e2 := HV.out
    rw [if_pos (.inl q1)] at e1 e2
    subst e1 e2
    clear HE HV HX hh c5 f5 HN
    go_enter Tryz.func21, Tryz.ntmps21
    go_wp2_with (go_at_call 20; refine (HB.out _ (Below.refl _ _)).mono ?_; rintro e w1 ⟨rfl, b1⟩; have B1 := Lib.hid b1; clear b1)
    go_ret2
    exact ⟨rfl, B1.out⟩
  by_cases q2 : m ≤ n
  · have e1 := HE.out
    have e2 := HV.out
    rw [if_pos (.inr q2)] at e1 e2
    subst e1 e2
    clear HE HV HX hh c5 f5
    go_enter Tryz.func21, Tryz.ntmps21
    go_wp2_with (first
      | (go_at_call 20; refine (HB.out _ (Below.refl _ _)).mono ?_; rintro e w1 ⟨rfl, b1⟩; have B1 := Lib.hid b1; clear b1)
      | (go_at_call 17; refine (HN.out _ B1.out).mono ?_; rintro e w2 ⟨rfl, b2⟩; have B2 := Lib.hid (then_below B1.out b2); clear b2))
    go_ret2
    exact ⟨rfl, B2.out⟩
  have e1 := HE.out
  have e2 := HV.out
  rw [if_neg (by omega)] at e1 e2
  subst e1
  clear HE HV
  have hx := HX.out
  obtain ⟨k, hk⟩ : ∃ k : Nat, n - b = k := ⟨(n - b).toNat, by omega⟩
  have hkl : k < L.recs.length := by omega
  rw [hk, Int.toNat_natCast, List.getElem?_eq_getElem hkl] at e2
  have hw : wrap64 (n - b) = (k : Int) := by unfold wrap64; omega
  obtain ⟨g, rfl, hc⟩ := hh.out k _ (List.getElem?_eq_getElem hkl)
  have e3 : L.recs[k] = gv := e2.symm
  rw [e3] at hc
  clear hh e2 e3 hx HX h0
  have HC := Lib.hid hc
  clear hc
  generalize L.recs.length = len at c5 hkl
  clear hk
  go_enter Tryz.func21, Tryz.ntmps21
  go_upto_region 3 with (first
      | (go_at_call 20; refine (HB.out _ (Below.refl _ _)).mono ?_; rintro e w1 ⟨rfl, b1⟩; have B1 := Lib.hid b1; clear b1)
      | (go_at_call 17; refine (HN.out _ B1.out).mono ?_; rintro e w2 ⟨rfl, b2⟩; have B2 := Lib.hid (then_below B1.out b2); clear b2))
  clear q1 q2
  have c5' := c5.out
  have f5' := f5.out
  have hc := HC.out
  refine region_since w (by kernel_rfl) (by kernel_rfl) B2.out ?_
  repeat (go_big_quiet_step ((go_at_call 20; with_reducible exact since_callW HB.out _)))
  refine wpQuiet_nil ?_
  rintro w4 ⟨z, rfl⟩
  have hz := z.2
  clear c5 f5 c5' f5' hc HC
  go_wp2_with fail
  go_ret2
  exact ⟨rfl, hz⟩
end
end Go.Proofs.YtcogehhjofgbiaaGreatDoor.wal
