/-
  Entries of a fenced log: what they are written as; the contracts of isTerm, isEntry, encode, decode, follows.
  The contract of decode.
-/
import Derived.Test.YtfpmcomigolacaaGreatDoorJUop
import Derived.Test.YtfpmcomigolacaaGreatDoorJUy1
set_option linter.unusedSimpArgs false
set_option linter.unusedVariables false
namespace Go.Proofs.YtfpmcomigolacaaGreatDoor.fence
open Go.ChangeShapes Go.WideShapes Go.ChangeAt Go.RowKit Go.Maps Go.WideMaps
open Go.Proofs.YtfpmcomigolacaaGreatDoor.opened Go.Proofs.YtfpmcomigolacaaGreatDoor.block Go.Proofs.YtfpmcomigolacaaGreatDoor.words Go.Proofs.YtfpmcomigolacaaGreatDoor.disk Go.Proofs.YtfpmcomigolacaaGreatDoor.tailed Go.Proofs.YtfpmcomigolacaaGreatDoor.enc Go.Proofs.YtfpmcomigolacaaGreatDoor.code Go.Proofs.YtfpmcomigolacaaGreatDoor.wal

structure En where
  t : Int
  c : Bool
  s : Bs
abbrev En.cells (e : En) : Array Value := #[.int .i64 e.t, .bool e.c, sV e.s]
abbrev En.val (e : En) : Value := .agg e.cells
def isTermB (t : Int) : Bool := decide (1 ≤ t) && decide (t ≤ 1073741824)
def mostN (c : Bool) : Int := if c = true then 0 else 4000
def isEnB (e : En) : Bool := isTermB e.t && decide ((e.s.length : Int) ≤ mostN e.c)
def encN (e : En) : Int := 2 * e.t + if e.c = true then 1 else 0
def encE (e : En) : Bs := enc (encN e).toNat ++ e.s
def decR (b : Bs) : Int × Nat × Int := rInt b 0 2147483649
def decOf (b : Bs) : En := ⟨(decR b).1 / 2, (decR b).1 % 2 == 1, b.drop (decR b).2.1⟩
def noE : En := ⟨0, false, []⟩
def decV (b : Bs) : En × Bool := if (decR b).2.2 ≠ 0 then (noE, false) else if isEnB (decOf b) = true then (decOf b, true) else (noE, false)
def folB (e : En) (t : Int) : Bool := if e.c = true then decide (t < e.t) else decide (t ≤ e.t)
theorem term_iff (t : Int) : isTermB t = true ↔ 1 ≤ t ∧ t ≤ 1073741824 := by
  unfold isTermB
  simp
theorem dec_encE {e : En} (h : isEnB e = true) : decV (encE e) = (e, true) := by
  have h' := h
  unfold isEnB at h'
  rw [Bool.and_eq_true, term_iff] at h'
  obtain ⟨⟨h1, h2⟩, h3⟩ := h'
  have hv : 0 ≤ encN e ∧ encN e ≤ 2147483649 := by
    unfold encN
    split <;> omega
  have e1 : decR (encE e) = (encN e, (enc (encN e).toNat).length, 0) := by
    unfold decR encE rInt rNum
    rw [if_pos rfl, dec_enc (by omega)]
    dsimp only
    rw [if_pos rfl, if_neg (by omega), Int.toNat_of_nonneg hv.1]
  have e2 : decOf (encE e) = e := by
    unfold decOf
    rw [e1]
    dsimp only
    unfold encE
    rw [List.drop_left]
    obtain ⟨t, c, s⟩ := e
    unfold encN
    cases c with
    | true =>
      show En.mk ((2 * t + 1) / 2) ((2 * t + 1) % 2 == 1) s = _
      rw [show (2 * t + 1) / 2 = t by omega, show (2 * t + 1) % 2 = 1 by omega]
      rfl
    | false =>
      show En.mk ((2 * t + 0) / 2) ((2 * t + 0) % 2 == 1) s = _
      rw [show (2 * t + 0) / 2 = t by omega, show (2 * t + 0) % 2 = 0 by omega]
      rfl
  unfold decV
  rw [e1, if_neg (by simp), e2, if_pos h]
theorem dec_good {b : Bs} (h : (decV b).2 = true) : isEnB (decV b).1 = true := by
  unfold decV at h ⊢
  split
  · rename_i a
    rw [if_pos a] at h
    cases h
  · rename_i a
    rw [if_neg a] at h
    split
    · rename_i a2
      exact a2
    · rename_i a2
      rw [if_neg a2] at h
      cases h
theorem en_term {e : En} (h : isEnB e = true) : 1 ≤ e.t ∧ e.t ≤ 1073741824 ∧ e.s.length ≤ 4000 := by
  unfold isEnB at h
  rw [Bool.and_eq_true, term_iff] at h
  obtain ⟨⟨h1, h2⟩, h3⟩ := h
  have h4 : (e.s.length : Int) ≤ mostN e.c := of_decide_eq_true h3
  unfold mostN at h4
  refine ⟨h1, h2, ?_⟩
  split at h4 <;> omega
theorem encE_len (e : En) : (encE e).length ≤ 10 + e.s.length := by
  unfold encE
  have := len_enc (encN e).toNat
  rw [List.length_append]
  omega

section
variable {w : World}
theorem isTerm_any (t : Int) : Calls Tryz.prog 47 #[.int .i64 t] w fun e w' => e = .returned (.bool (isTermB t)) ∧ Below w.heap.size w w' := by
  unfold isTermB
  by_cases h1 : 1 ≤ t
  · rw [decide_eq_true h1, Bool.true_and]
    by_cases h2 : t ≤ 1073741824
    · rw [decide_eq_true h2]
      go_enter Tryz.func47, Tryz.ntmps47
      go_wp2_with fail
      go_ret
      exact ⟨rfl, Below.refl _ _⟩
    · rw [decide_eq_false h2]
      go_enter Tryz.func47, Tryz.ntmps47
      go_wp2_with fail
      go_ret
      exact ⟨rfl, Below.refl _ _⟩
  · rw [decide_eq_false h1, Bool.false_and]
    go_enter Tryz.func47, Tryz.ntmps47
    go_wp2_with fail
    go_ret
    exact ⟨rfl, Below.refl _ _⟩
theorem isEntry_any (e : En) (hl : e.s.length ≤ 140737488351232) : Calls Tryz.prog 81 #[e.val] w fun r w' => r = .returned (.bool (isEnB e)) ∧ Below w.heap.size w w' := by
  obtain ⟨t, c, s⟩ := e
  have HT : Hid (∀ w1, Calls Tryz.prog 47 #[.int .i64 t] w1 fun r w' => r = .returned (.bool (isTermB t)) ∧ Below w1.heap.size w1 w') := Lib.hid fun w1 => isTerm_any t
  have HB : Hid (Below w.heap.size w (w.alloc (.cells #[.int .i64 t, .bool c, sV s] 57))) := Lib.hid (fresh1' w _)
  have OZ : Hid (Whole (w.alloc (.cells #[.int .i64 t, .bool c, sV s] 57)) w.heap.size 57 #[.int .i64 t, .bool c, sV s]) := Lib.hid (Whole.fresh w 57 #[.int .i64 t, .bool c, sV s])
  show Calls Tryz.prog 81 #[.agg #[.int .i64 t, .bool c, sV s]] w fun r w' => r = .returned (.bool (isTermB t && decide ((s.length : Int) ≤ mostN c))) ∧ _
  have hl' : (s.length : Int) ≤ 140737488351232 := by have : s.length ≤ 140737488351232 := hl; omega
  clear hl
  generalize isTermB t = tb at HT ⊢
  unfold mostN
  cases c with
  | true =>
    rw [if_pos rfl]
    cases tb with
    | false =>
      rw [Bool.false_and]
      go_enter Tryz.func81, Tryz.ntmps81
      go_wp2_with (go_at_call 47; refine (HT.out _).mono ?_; rintro r w2 ⟨rfl, b⟩; have B2 := Lib.hid (then_below HB.out b); clear b)
      go_ret
      exact ⟨rfl, B2.out⟩
    | true =>
      rw [Bool.true_and]
      go_enter Tryz.func81, Tryz.ntmps81
      go_wp2_with (go_at_call 47; refine (HT.out _).mono ?_; rintro r w2 ⟨rfl, b⟩; have B2 := Lib.hid (then_below HB.out b); have z2 := (OZ.out.below b OZ.out.inside).read 2; have y2 := (OZ.out.below b OZ.out.inside).soft 2; clear b)
      go_ret
      refine ⟨?_, B2.out⟩
      show Ending.returned (.bool (decide (s = []))) = Ending.returned (.bool (decide ((s.length : Int) ≤ 0)))
      congr 2
      rw [decide_eq_decide]
      constructor
      · intro h; rw [h]; exact Int.le_refl _
      · intro h; exact List.eq_nil_of_length_eq_zero (by omega)
  | false =>
    rw [if_neg (by decide)]
    cases tb with
    | false =>
      rw [Bool.false_and]
      go_enter Tryz.func81, Tryz.ntmps81
      go_wp2_with (go_at_call 47; refine (HT.out _).mono ?_; rintro r w2 ⟨rfl, b⟩; have B2 := Lib.hid (then_below HB.out b); clear b)
      go_ret
      exact ⟨rfl, B2.out⟩
    | true =>
      rw [Bool.true_and]
      go_enter Tryz.func81, Tryz.ntmps81
      go_wp2_with (go_at_call 47; refine (HT.out _).mono ?_; rintro r w2 ⟨rfl, b⟩; have B2 := Lib.hid (then_below HB.out b); have z2 := (OZ.out.below b OZ.out.inside).read 2; have y2 := (OZ.out.below b OZ.out.inside).soft 2; clear b)
      go_ret
      exact ⟨rfl, B2.out⟩
theorem follows_any (e : En) (t : Int) : Calls Tryz.prog 75 #[e.val, .int .i64 t] w fun r w' => r = .returned (.bool (folB e t)) ∧ Below w.heap.size w w' := by
  obtain ⟨a, c, s⟩ := e
  have HB : Hid (Below w.heap.size w (w.alloc (.cells #[.int .i64 a, .bool c, sV s] 57))) := Lib.hid (fresh1' w _)
  show Calls Tryz.prog 75 #[.agg #[.int .i64 a, .bool c, sV s], .int .i64 t] w fun r w' => r = .returned (.bool (if c = true then decide (t < a) else decide (t ≤ a))) ∧ _
  cases c with
  | true =>
    rw [if_pos rfl]
    by_cases h : t < a
    · rw [decide_eq_true h]
      go_enter Tryz.func75, Tryz.ntmps75
      go_wp2_with fail
      go_ret
      exact ⟨rfl, HB.out⟩
    · rw [decide_eq_false h]
      go_enter Tryz.func75, Tryz.ntmps75
      go_wp2_with fail
      go_ret
      exact ⟨rfl, HB.out⟩
  | false =>
    rw [if_neg (by decide)]
    by_cases h : t ≤ a
    · rw [decide_eq_true h]
      go_enter Tryz.func75, Tryz.ntmps75
      go_wp2_with fail
      go_ret
      exact ⟨rfl, HB.out⟩
    · rw [decide_eq_false h]
      go_enter Tryz.func75, Tryz.ntmps75
      go_wp2_with fail
      go_ret
      exact ⟨rfl, HB.out⟩
set_option maxRecDepth 100000 in
theorem encode_any (e : En) (h0 : 0 ≤ e.t) (h1 : e.t ≤ 1073741824) (hl : e.s.length ≤ 100000) : Calls Tryz.prog 48 #[e.val] w fun r w' => r = .returned (sV (encE e)) ∧ Below w.heap.size w w' := by
  obtain ⟨t, c, s⟩ := e
  have h0 : 0 ≤ t := h0
  have h1 : t ≤ 1073741824 := h1
  have hl : s.length ≤ 100000 := hl
  have HB : Hid (Below w.heap.size w (w.alloc (.cells #[.int .i64 t, .bool c, sV s] 57))) := Lib.hid (fresh1' w _)
  have OZ : Hid (Whole (w.alloc (.cells #[.int .i64 t, .bool c, sV s] 57)) w.heap.size 57 #[.int .i64 t, .bool c, sV s]) := Lib.hid (Whole.fresh w 57 #[.int .i64 t, .bool c, sV s])
  have hv : 0 ≤ encN ⟨t, c, s⟩ ∧ encN ⟨t, c, s⟩ ≤ 2147483649 := by
    unfold encN
    dsimp only
    split <;> omega
  have HNu : Hid (∀ w1, Calls Tryz.prog 76 #[.int .u64 (encN ⟨t, c, s⟩)] w1 fun e w' => e = .returned (sV (enc (encN ⟨t, c, s⟩).toNat)) ∧ Below w1.heap.size w1 w') := Lib.hid fun w1 => by
    have := num_any (encN ⟨t, c, s⟩).toNat (by omega) w1
    rwa [Int.toNat_of_nonneg hv.1] at this
  have hle := len_enc (encN ⟨t, c, s⟩).toNat
  have hN : encN ⟨t, c, s⟩ = 2 * t + if c = true then 1 else 0 := rfl
  have HX : Hid (encE ⟨t, c, s⟩ = enc (encN ⟨t, c, s⟩).toNat ++ s) := Lib.hid rfl
  generalize encE ⟨t, c, s⟩ = r at HX ⊢
  generalize enc (encN ⟨t, c, s⟩).toNat = x at HX HNu hle
  generalize encN ⟨t, c, s⟩ = v at hN HNu hv
  have ha : (⟨x.toArray⟩ : ByteArray) ++ (⟨s.toArray⟩ : ByteArray) = ⟨r.toArray⟩ := ByteArray.ext (by rw [HX.out]; simp)
  have hab : ¬ 9223372036854775807 < x.length + s.length := by omega
  rw [show sV r = .string ((⟨x.toArray⟩ : ByteArray) ++ (⟨s.toArray⟩ : ByteArray)) from by rw [ha]]
  clear ha HX hle
  have w1 : IntKind.u64.wrap t = t := by simp only [IntKind.wrap_u64]; omega
  have w2 : IntKind.u64.wrap (2 * t) = 2 * t := by simp only [IntKind.wrap_u64]; omega
  have w3 : IntKind.u64.wrap (2 * t + 1) = 2 * t + 1 := by simp only [IntKind.wrap_u64]; omega
  cases c with
  | true =>
    rw [if_pos rfl] at hN
    subst hN
    go_enter Tryz.func48, Tryz.ntmps48
    go_upto_region 4 with fail
    clear hv h0 h1
    clear w1 w2 w3
    generalize w.alloc (.cells #[.int .i64 t, .bool true, sV s] 57) = W at HB OZ ⊢
    generalize w.heap.size = gz at OZ ⊢
    have c5 : ∀ y : Since W, y.1.cell? ⟨gz, 2, none⟩ = some (sV s) := fun y => (OZ.out.below y.2 OZ.out.inside).read 2
    have f5 : ∀ y : Since W, y.1.frozen? ⟨gz, 2, none⟩ = false := fun y => (OZ.out.below y.2 OZ.out.inside).soft 2
    refine region_since W (by kernel_rfl) (by kernel_rfl) (Below.refl _ _) ?_
    repeat (go_big_quiet_step ((go_at_call 76; with_reducible exact since_callW (fun w1 _ => HNu.out w1) _)))
    refine wpQuiet_nil ?_
    rintro w4 ⟨z, rfl⟩
    have hz := Lib.hid (then_below HB.out z.2)
    clear c5 f5
    go_wp2_with fail
    go_ret
    exact ⟨rfl, hz.out⟩
  | false =>
    rw [if_neg (by decide), Int.add_zero] at hN
    subst hN
    go_enter Tryz.func48, Tryz.ntmps48
    go_upto_region 4 with fail
    clear hv h0 h1
    clear w1 w2 w3
    generalize w.alloc (.cells #[.int .i64 t, .bool false, sV s] 57) = W at HB OZ ⊢
    generalize w.heap.size = gz at OZ ⊢
    have c5 : ∀ y : Since W, y.1.cell? ⟨gz, 2, none⟩ = some (sV s) := fun y => (OZ.out.below y.2 OZ.out.inside).read 2
    have f5 : ∀ y : Since W, y.1.frozen? ⟨gz, 2, none⟩ = false := fun y => (OZ.out.below y.2 OZ.out.inside).soft 2
    refine region_since W (by kernel_rfl) (by kernel_rfl) (Below.refl _ _) ?_
    repeat (go_big_quiet_step ((go_at_call 76; with_reducible exact since_callW (fun w1 _ => HNu.out w1) _)))
    refine wpQuiet_nil ?_
    rintro w4 ⟨z, rfl⟩
    have hz := Lib.hid (then_below HB.out z.2)
    clear c5 f5
    go_wp2_with fail
    go_ret
    exact ⟨rfl, hz.out⟩
end
end Go.Proofs.YtfpmcomigolacaaGreatDoor.fence
set_option linter.unusedSimpArgs false
set_option linter.unusedVariables false
namespace Go.Proofs.YtfpmcomigolacaaGreatDoor.fence
open Go.ChangeShapes Go.WideShapes Go.ChangeAt Go.RowKit Go.Maps Go.WideMaps
open Go.Proofs.YtfpmcomigolacaaGreatDoor.opened Go.Proofs.YtfpmcomigolacaaGreatDoor.block Go.Proofs.YtfpmcomigolacaaGreatDoor.words Go.Proofs.YtfpmcomigolacaaGreatDoor.disk Go.Proofs.YtfpmcomigolacaaGreatDoor.tailed Go.Proofs.YtfpmcomigolacaaGreatDoor.enc Go.Proofs.YtfpmcomigolacaaGreatDoor.code Go.Proofs.YtfpmcomigolacaaGreatDoor.wal

theorem infoE : (Tryz.prog.info? 57).map (·.size) = some 3 := by kernel_rfl
abbrev zE : Array Value := #[.int .i64 0, .bool false, .string ByteArray.empty]
theorem extractE (s : Bs) (a b : Nat) : (⟨s.toArray⟩ : ByteArray).extract a b = ⟨((s.drop a).take (b - a)).toArray⟩ := by
  have := Lib.extract_eq (⟨s.toArray⟩ : ByteArray) a b
  simpa using this
theorem slice_drop (s : Bs) (a : Nat) (ha : a ≤ s.length) (W : World) : (Instr.slice 9 (.string ⟨s.toArray⟩) (some (.int .i64 (a : Int))) none none).run Tryz.prog W = .ok (.string ⟨(s.drop a).toArray⟩) W := by
  have h := extractE s a s.length
  rw [List.take_of_length_le (by simp)] at h
  rw [← h]
  go_simp
theorem two_entry {fn : Func} {p q : Tmp} (h : fn.results = #[.cell p 57, .tmp q]) {tmps : Array Value} {w : World} {g : Nat} {ty : TypeId} {e : En} {v : Value}
    (hp : tmps[p]?.getD undef = .pointer (some ⟨g, 0, none⟩)) (hq : tmps[q]?.getD undef = v) (hw : Whole w g ty e.cells) : (results fn tmps).run Tryz.prog w = .ok (.tuple #[e.val, v]) w := by
  simp [results, h, hp, hq, asAddr, loaded hw Tryz.underlying57 rfl infoE]
theorem below_own2 {w w1 w2 : World} {g : Nat} (h : Below w.heap.size w w1) (hg : w.heap.size ≤ g) (k : w1.grownBy w2 (some g)) : Below w.heap.size w w2 := h.grown k h.size fun j e => by cases e; exact hg
theorem dec_fits {b : Bs} : 0 ≤ (decR b).1 ∧ (decR b).1 ≤ 2147483649 ∧ (decR b).2.1 ≤ b.length := by
  obtain ⟨h1, h2, h3⟩ := rInt_bd b 0 2147483649
  refine ⟨h1, ?_, h3⟩
  rcases h2 with h | h
  · exact h
  · show (rInt b 0 2147483649).1 ≤ _
    omega
set_option maxRecDepth 100000 in
set_option maxHeartbeats 2000000 in
theorem decode_any (b : Bs) (hb : b.length ≤ 100000) (w : World) : Calls Tryz.prog 50 #[sV b] w fun r w' => r = .returned (.tuple #[(decV b).1.val, .bool (decV b).2]) ∧ Below w.heap.size w w' := by
  obtain ⟨v0, v1, v2⟩ := dec_fits (b := b)
  have HV : Hid (decV b = if (decR b).2.2 ≠ 0 then (noE, false) else if isEnB (decOf b) = true then (decOf b, true) else (noE, false)) := Lib.hid rfl
  have HD : Hid (decOf b = ⟨(decR b).1 / 2, (decR b).1 % 2 == 1, b.drop (decR b).2.1⟩) := Lib.hid rfl
  have NW : Hid (∀ w1, Calls Tryz.prog 77 #[sV b] w1 fun e w' => e = .returned (.pointer (some ⟨w1.heap.size, 0, none⟩)) ∧ RdA w' w1.heap.size b 0 ∧ w1.grownBy w' none) := Lib.hid fun w1 => new_l b w1
  have IN : Hid (∀ g W, RdA W g b 0 → Calls Tryz.prog 78 #[.pointer (some ⟨g, 0, none⟩), .int .i64 2147483649] W fun e w' => e = .returned (.int .i64 (decR b).1) ∧ RdA w' g (b.drop (decR b).2.1) (decR b).2.2 ∧ W.grownBy w' (some g)) := Lib.hid (fun g W h => intA g b 0 2147483649 (by omega) (by omega) (by omega) W h)
  have ER := Lib.hid (fun g l e W (h : RdA W g l e) => errA g l e W h)
  have LE := Lib.hid (fun g l e W (h : RdA W g l e) => leftA g l e W h)
  have B1 : Hid (Below w.heap.size w (w.alloc (.cells zE 57))) := Lib.hid (fresh1' w _)
  have R1 : Hid (Whole (w.alloc (.cells zE 57)) w.heap.size 57 zE) := Lib.hid (Whole.fresh w 57 zE)
  generalize decV b = dv at HV ⊢
  generalize hdo : decOf b = eo at HD HV
  clear hdo
  generalize (decR b).2.2 = er at HV IN
  generalize (decR b).2.1 = u at HD IN v2
  generalize (decR b).1 = v at HD IN v0 v1
  go_enter Tryz.func50, Tryz.ntmps50
  go_upto_region 1 with fail
  change Code.wp _ _ _ _ (w.alloc (.cells zE 57))
  generalize w.alloc (.cells zE 57) = W1 at B1 R1 ⊢
  obtain ⟨g0, hg0⟩ : ∃ g, g = w.heap.size := ⟨_, rfl⟩
  have HG0 := Lib.hid hg0
  rw [← hg0] at R1 ⊢
  clear hg0
  go_upto_region 3 with (first
    | (go_at_call 77; refine (NW.out W1).mono ?_; rintro e w2 ⟨rfl, r2, k2⟩; have B2 := Lib.hid (B1.out.grown k2 B1.out.size (fun j e => by cases e)); have R2 := Lib.hid (R1.out.grown k2 (by intro e; cases e)); have D2 := Lib.hid r2; have hlt := R1.out.inside; obtain ⟨g, hg⟩ : ∃ g, W1.heap.size = g := ⟨_, rfl⟩; rw [hg] at D2 hlt ⊢; clear r2 k2 hg)
    | (go_at_call 78; refine (IN.out _ _ D2.out).mono ?_; rintro e w3 ⟨rfl, r3, k3⟩; have B3 := Lib.hid (below_own2 B2.out (by rw [← HG0.out]; omega) k3); have R3 := Lib.hid (R2.out.grown k3 (by intro e; cases e; omega)); have D3 := Lib.hid r3; clear r3 k3))
  by_cases he : er = 0
  · subst he
    have hdv := HV.out
    rw [if_neg (by simp)] at hdv
    have HDV := Lib.hid hdv
    clear hdv HV
    obtain ⟨m, hm⟩ : ∃ m, m = (b.drop u).length := ⟨_, rfl⟩
    have hmu : m + u = b.length := by rw [hm, List.length_drop]; omega
    have LM : Hid (∀ W, RdA W g (b.drop u) 0 → Calls Tryz.prog 80 #[.pointer (some ⟨g, 0, none⟩)] W fun e w' => e = .returned (.int .i64 (m : Int)) ∧ W = w') := Lib.hid fun W h => by
      rw [hm]
      exact LE.out g _ 0 W h
    have hsl : ∀ W, (Instr.slice 9 (.string ⟨b.toArray⟩) (some (.int .i64 (u : Int))) none none).run Tryz.prog W = .ok (.string ⟨(b.drop u).toArray⟩) W := fun W => slice_drop b u v2 W
    have hws : wrap64 ((b.length : Int) - (m : Int)) = (u : Int) := by unfold wrap64; omega
    clear hm LE hmu
    go_upto_region 6 with (first
      | (go_at_call 79; refine (ER.out _ _ _ _ D3.out).mono ?_; rintro e w4 ⟨rfl, rfl⟩)
      | (go_at_call 80; refine (LM.out _ D3.out).mono ?_; rintro e w4 ⟨rfl, rfl⟩))
    have hd := HD.out
    have hel : eo.s.length ≤ 140737488351232 := by
      rw [hd]
      show (b.drop u).length ≤ _
      rw [List.length_drop]
      omega
    change Code.wp _ _ _ _ (w3.alloc (.cells (En.cells ⟨v / 2, v % 2 == 1, b.drop u⟩) 57))
    rw [← hd]
    have B4 := Lib.hid (B3.out.alloc B3.out.size (.cells eo.cells 57))
    have R4 := Lib.hid (R3.out.alloc (.cells eo.cells 57))
    have E4 := Lib.hid (Whole.fresh w3 57 eo.cells)
    have hlt2 := R3.out.inside
    have HI := Lib.hid (fun w1 => isEntry_any (w := w1) eo hel)
    clear hd HD hsl hws LM hel R3 B3 D3 hlt
    generalize w3.alloc (.cells eo.cells 57) = W4 at B4 R4 E4 ⊢
    generalize w3.heap.size = ge at E4 hlt2 ⊢
    cases hie : isEnB eo with
    | false =>
      rw [hie] at HI HDV
      have hdv := HDV.out
      rw [if_neg (by decide)] at hdv
      subst hdv
      go_wp2_with (first
        | (refine get rfl 57 (.tmp 6) rfl rfl E4.out Tryz.underlying57 rfl infoE ?_)
        | (go_at_call 81; refine (HI.out _).mono ?_; rintro e w5 ⟨rfl, b5⟩; have B5 := Lib.hid (then_below B4.out b5); have R5 := Lib.hid (R4.out.below b5 R4.out.inside); clear b5)
        | (refine put rfl 57 (.tmp 2) _ rfl (g := g0) rfl rfl R5.out (by kernel_rfl) rfl (by simp [Value.oneCell']) B5.out (by rw [HG0.out]; exact Nat.le_refl _) ?_; intro w9 hR9 hB9 hs9 ho9))
      exact bodyPost_ret (two_entry Tryz.results50 rfl rfl (e := noE) hR9) rfl ⟨rfl, hB9⟩
    | true =>
      rw [hie] at HI HDV
      have hdv := HDV.out
      rw [if_pos rfl] at hdv
      subst hdv
      go_wp2_with (first
        | (refine put rfl 57 (.tmp 2) _ rfl (g := g0) rfl rfl R5.out (by kernel_rfl) rfl (by simp [Value.oneCell']) B5.out (by rw [HG0.out]; exact Nat.le_refl _) ?_; intro w9 hR9 hB9 hs9 ho9)
        | (refine get rfl 57 (.tmp 6) rfl rfl E5.out Tryz.underlying57 rfl infoE ?_)
        | (refine get rfl 57 (.tmp 6) rfl rfl E4.out Tryz.underlying57 rfl infoE ?_)
        | (go_at_call 81; refine (HI.out _).mono ?_; rintro e w5 ⟨rfl, b5⟩; have B5 := Lib.hid (then_below B4.out b5); have R5 := Lib.hid (R4.out.below b5 R4.out.inside); have E5 := Lib.hid (E4.out.below b5 E4.out.inside); clear b5))
      exact bodyPost_ret (two_entry Tryz.results50 rfl rfl (e := eo) hR9) rfl ⟨rfl, hB9⟩
  · have hdv := HV.out
    rw [if_pos (by simpa using he)] at hdv
    subst hdv
    have heb : (er != 0) = true := by simpa using he
    clear HV HD he
    go_wp2_with (first
      | (go_at_call 79; refine (ER.out _ _ _ _ D3.out).mono ?_; rintro e w4 ⟨rfl, rfl⟩)
      | (refine put rfl 57 (.tmp 2) _ rfl (g := g0) rfl rfl R3.out (by kernel_rfl) rfl (by simp [Value.oneCell']) B3.out (by rw [HG0.out]; exact Nat.le_refl _) ?_; intro w9 hR9 hB9 hs9 ho9))
    exact bodyPost_ret (two_entry Tryz.results50 rfl rfl (e := noE) hR9) rfl ⟨rfl, hB9⟩
end Go.Proofs.YtfpmcomigolacaaGreatDoor.fence
