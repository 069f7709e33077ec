/-
  The contract of words.Name.
  Graphs: their parts, how they lie, what is wrong with one (mathematics).
-/
import Derived.Test.YtpblpjopinllcaaGreatDoorJLayW
import Derived.Laws.RangeAny
import Derived.Test.YtpblpjopinllcaaGreatDoorJWm
namespace Go.Proofs.YtpblpjopinllcaaGreatDoor.words
open Go.ChangeShapes Go.WideShapes Go.ChangeAt Go.RowKit
open Go.Proofs.YtpblpjopinllcaaGreatDoor.opened Go.Proofs.YtpblpjopinllcaaGreatDoor.block

theorem letter_any (c : Int) (w : World) : Calls Tryz.prog 264 #[.int .i32 c] w fun e w' => e = .returned (.bool (decide (97 ≤ c ∧ c ≤ 122))) ∧ w = w' := by
  by_cases h1 : 97 ≤ c
  · by_cases h2 : c ≤ 122
    · rw [decide_eq_true (And.intro h1 h2)]
      go_enter Tryz.func264, Tryz.ntmps264
      go_wp2
      go_ret
      exact ⟨rfl, rfl⟩
    · rw [decide_eq_false (fun h => h2 h.2)]
      go_enter Tryz.func264, Tryz.ntmps264
      go_wp2
      go_ret
      exact ⟨rfl, rfl⟩
  · rw [decide_eq_false (fun h => h1 h.1)]
    go_enter Tryz.func264, Tryz.ntmps264
    go_wp2
    go_ret
    exact ⟨rfl, rfl⟩
theorem digit_any (c : Int) (w : World) : Calls Tryz.prog 265 #[.int .i32 c] w fun e w' => e = .returned (.bool (decide (48 ≤ c ∧ c ≤ 57))) ∧ w = w' := by
  by_cases h1 : 48 ≤ c
  · by_cases h2 : c ≤ 57
    · rw [decide_eq_true (And.intro h1 h2)]
      go_enter Tryz.func265, Tryz.ntmps265
      go_wp2
      go_ret
      exact ⟨rfl, rfl⟩
    · rw [decide_eq_false (fun h => h2 h.2)]
      go_enter Tryz.func265, Tryz.ntmps265
      go_wp2
      go_ret
      exact ⟨rfl, rfl⟩
  · rw [decide_eq_false (fun h => h1 h.1)]
    go_enter Tryz.func265, Tryz.ntmps265
    go_wp2
    go_ret
    exact ⟨rfl, rfl⟩
def okB (j : Nat) (c : UInt8) : Bool := isA c || (decide (j ≠ 0) && isD c)
theorem name_yes {s : Bs} (h1 : 1 ≤ s.length) (h2 : s.length ≤ 12) (h : ∀ j c, s[j]? = some c → okB j c = true) : nameB s = true := by
  cases s with
  | nil => simp at h1
  | cons c r =>
    have h0 := h 0 c rfl
    unfold nameB
    rw [decide_eq_true h2, Bool.true_and]
    simp only [Bool.and_eq_true, List.all_eq_true]
    refine ⟨by simpa [okB] using h0, fun x hx => ?_⟩
    obtain ⟨i, hi⟩ := List.getElem?_of_mem hx
    have := h (i + 1) x (by simpa using hi)
    simpa [okB] using this
theorem name_not {s : Bs} {j : Nat} {c : UInt8} (hj : s[j]? = some c) (h : okB j c = false) : nameB s = false := by
  cases s with
  | nil => simp at hj
  | cons x r =>
    unfold nameB
    cases j with
    | zero =>
      simp at hj
      subst hj
      have : isA x = false := by simpa [okB] using h
      simp [this]
    | succ j =>
      have hm : c ∈ r := List.mem_of_getElem? (by simpa using hj)
      have : (r.all fun x => isA x || isD x) = false := by
        rw [List.all_eq_false]
        exact ⟨c, hm, by simp [okB] at h; simp [h]⟩
      simp [this]
theorem ok_int (j : Nat) (c : UInt8) : okB j c = (decide (97 ≤ (c.toNat : Int) ∧ (c.toNat : Int) ≤ 122) || (decide (j ≠ 0) && decide (48 ≤ (c.toNat : Int) ∧ (c.toNat : Int) ≤ 57))) := by
  have e1 : isA c = decide (97 ≤ (c.toNat : Int) ∧ (c.toNat : Int) ≤ 122) := by
    unfold isA
    rw [Bool.eq_iff_iff, decide_eq_true_iff, decide_eq_true_iff]
    omega
  have e2 : isD c = decide (48 ≤ (c.toNat : Int) ∧ (c.toNat : Int) ≤ 57) := by
    unfold isD
    rw [Bool.eq_iff_iff, decide_eq_true_iff, decide_eq_true_iff]
    omega
  unfold okB
  rw [e1, e2]
theorem name_at {s : Bs} {j : Nat} (h : j < s.length) : s[j]? = some ((⟨s.toArray⟩ : ByteArray)[j]'(by show j < s.toArray.size; simpa using h)) := by
  rw [List.getElem?_eq_getElem h]
  rfl
theorem name_off {s : Bs} {j : Nat} (h : j < s.length) (hk : 128 ≤ ((⟨s.toArray⟩ : ByteArray)[j]'(by show j < s.toArray.size; simpa using h)).toNat) : nameB s = false := by
  refine name_not (name_at h) ?_
  rw [ok_int]
  rw [decide_eq_false (by omega), decide_eq_false (p := 48 ≤ _ ∧ _) (by omega)]
  simp
set_option maxRecDepth 100000 in
theorem name_any (s : Bs) (hs : s.length ≤ 100000) (w : World) : Calls Tryz.prog 197 #[.string ⟨s.toArray⟩] w fun e w' => e = .returned (.bool (nameB s)) ∧ Below w.heap.size w w' := by
  have hsz : (⟨s.toArray⟩ : ByteArray).size = s.length := by show s.toArray.size = _; simp
  cases hs0 : s with
  | nil =>
    have e : nameB [] = false := rfl
    rw [e]
    go_enter Tryz.func197, Tryz.ntmps197
    go_wp2
    go_ret
    exact ⟨rfl, Below.refl _ _⟩
  | cons x q =>
    rw [← hs0]
    have hpos : 1 ≤ s.length := by rw [hs0]; simp
    have hne : s.isEmpty = false := by rw [hs0]; rfl
    have hne2 : ¬ s = [] := by rw [hs0]; simp
    clear hs0
    by_cases h12 : s.length ≤ 12
    · have h12' : (s.length : Int) ≤ 12 := by omega
      go_enter Tryz.func197, Tryz.ntmps197
      go_wp2_with fail
      clear hne hne2
      go_loopw [3] (fun _ wr => ∃ k : Nat, k ≤ s.length ∧ wr = w.iter ⟨s.toArray⟩ k ∧ Hid (∀ j c, j < k → s[j]? = some c → okB j c = true)) (fun _ wr => s.length - wr.iterPos w.heap.size)
      case atStart => exact ⟨0, Nat.zero_le _, rfl, Lib.hid (fun j c h => absurd h (Nat.not_lt_zero _))⟩
      case round =>
        obtain ⟨k, hk, rfl, HN⟩ := hrel
        by_cases hlt : k < s.length
        · have hkS : k < (⟨s.toArray⟩ : ByteArray).size := by rw [hsz]; exact hlt
          have hnx := fun ty => run_next_any (P := Tryz.prog) w ⟨s.toArray⟩ k ty hkS
          have HA := Lib.hid (name_at hlt)
          have HO := Lib.hid (name_off hlt)
          have hdec : (((⟨s.toArray⟩ : ByteArray)[k]'hkS).toNat < 128 ∧ Utf8.decode ⟨s.toArray⟩ k = (((⟨s.toArray⟩ : ByteArray)[k]'hkS).toNat, 1)) ∨ (128 ≤ ((⟨s.toArray⟩ : ByteArray)[k]'hkS).toNat ∧ 128 ≤ (Utf8.decode ⟨s.toArray⟩ k).1) := by
            by_cases h : ((⟨s.toArray⟩ : ByteArray)[k]'hkS).toNat < 128
            · exact .inl ⟨h, decode_ascii _ _ hkS h⟩
            · exact .inr ⟨by omega, (decode_high _ _ hkS (by omega)).1⟩
          generalize ((⟨s.toArray⟩ : ByteArray)[k]'hkS) = c at HA HO hdec
          generalize Utf8.decode ⟨s.toArray⟩ k = dd at hnx hdec
          obtain ⟨R, wd⟩ := dd
          dsimp only at hnx hdec
          rcases hdec with ⟨h1, h2⟩ | ⟨h1, h2⟩
          · obtain ⟨rfl, rfl⟩ : R = c.toNat ∧ wd = 1 := by simpa using h2
            have HK := Lib.hid (ok_int k c)
            have HL := Lib.hid (fun W => letter_any (c.toNat : Int) W)
            have HD := Lib.hid (fun W => digit_any (c.toNat : Int) W)
            obtain ⟨p, hp⟩ : ∃ p, decide (97 ≤ (c.toNat : Int) ∧ (c.toNat : Int) ≤ 122) = p := ⟨_, rfl⟩
            obtain ⟨q', hq⟩ : ∃ q', decide (48 ≤ (c.toNat : Int) ∧ (c.toNat : Int) ≤ 57) = q' := ⟨_, rfl⟩
            rw [hp, hq] at HK
            rw [hp] at HL
            rw [hq] at HD
            clear hp hq h2 h1 hsz
            have HM : okB k c = true → Hid (∀ j d, j < k + 1 → s[j]? = some d → okB j d = true) := fun ho => Lib.hid (fun j d hj hd => by
              by_cases hjk : j = k
              · subst hjk
                rw [HA.out] at hd
                cases hd
                exact ho
              · exact HN.out j d (by omega) hd)
            cases p
            · cases q'
              · replace HK : Hid (okB k c = false) := Lib.hid (by have := HK.out; simpa using this)
                clear HM
                by_cases hk0 : k = 0
                · subst hk0
                  have HF : Hid (nameB s = false) := Lib.hid (name_not HA.out HK.out)
                  go_wp2_with (first | (go_at_call 264; refine (HL.out _).mono ?_; rintro e w4 ⟨rfl, rfl⟩) | (go_at_call 265; refine (HD.out _).mono ?_; rintro e w4 ⟨rfl, rfl⟩))
                  go_ret
                  rw [HF.out]
                  exact ⟨rfl, fresh1 w _⟩
                · have hk1 : ((k : Int) == 0) = false := by simp; omega
                  have HF : Hid (nameB s = false) := Lib.hid (name_not HA.out HK.out)
                  go_wp2_with (first | (go_at_call 264; refine (HL.out _).mono ?_; rintro e w4 ⟨rfl, rfl⟩) | (go_at_call 265; refine (HD.out _).mono ?_; rintro e w4 ⟨rfl, rfl⟩))
                  go_ret
                  rw [HF.out]
                  exact ⟨rfl, fresh1 w _⟩
              · by_cases hk0 : k = 0
                · subst hk0
                  replace HK : Hid (okB 0 c = false) := Lib.hid (by have := HK.out; simpa using this)
                  clear HM
                  have HF : Hid (nameB s = false) := Lib.hid (name_not HA.out HK.out)
                  go_wp2_with (first | (go_at_call 264; refine (HL.out _).mono ?_; rintro e w4 ⟨rfl, rfl⟩) | (go_at_call 265; refine (HD.out _).mono ?_; rintro e w4 ⟨rfl, rfl⟩))
                  go_ret
                  rw [HF.out]
                  exact ⟨rfl, fresh1 w _⟩
                · have hk1 : ((k : Int) == 0) = false := by simp; omega
                  replace HM := HM (by have := HK.out; simpa [hk0] using this)
                  go_wp2_with (first | (go_at_call 264; refine (HL.out _).mono ?_; rintro e w4 ⟨rfl, rfl⟩) | (go_at_call 265; refine (HD.out _).mono ?_; rintro e w4 ⟨rfl, rfl⟩))
                  go_roundw
                  case rel => exact ⟨k + 1, by omega, rfl, HM⟩
                  case measure => simp; omega
            · replace HM := HM (by have := HK.out; simpa using this)
              go_wp2_with (first | (go_at_call 264; refine (HL.out _).mono ?_; rintro e w4 ⟨rfl, rfl⟩) | (go_at_call 265; refine (HD.out _).mono ?_; rintro e w4 ⟨rfl, rfl⟩))
              go_roundw
              case rel => exact ⟨k + 1, by omega, rfl, HM⟩
              case measure => simp; omega
          · have HL := Lib.hid (fun W => letter_any (R : Int) W)
            have HD := Lib.hid (fun W => digit_any (R : Int) W)
            rw [decide_eq_false (by omega)] at HL
            rw [decide_eq_false (by omega)] at HD
            have HF0 := Lib.hid (HO.out h1)
            clear h1 h2 hsz
            by_cases hk0 : k = 0
            · subst hk0
              have HF : Hid (nameB s = false) := Lib.hid (HF0.out)
              go_wp2_with (first | (go_at_call 264; refine (HL.out _).mono ?_; rintro e w4 ⟨rfl, rfl⟩) | (go_at_call 265; refine (HD.out _).mono ?_; rintro e w4 ⟨rfl, rfl⟩))
              go_ret
              rw [HF.out]
              exact ⟨rfl, fresh1 w _⟩
            · have hk1 : ((k : Int) == 0) = false := by simp; omega
              have HF : Hid (nameB s = false) := Lib.hid (HF0.out)
              go_wp2_with (first | (go_at_call 264; refine (HL.out _).mono ?_; rintro e w4 ⟨rfl, rfl⟩) | (go_at_call 265; refine (HD.out _).mono ?_; rintro e w4 ⟨rfl, rfl⟩))
              go_ret
              rw [HF.out]
              exact ⟨rfl, fresh1 w _⟩
        · have hkk : k = s.length := by omega
          subst hkk
          have HY : Hid (nameB s = true) := Lib.hid (name_yes hpos h12 (fun j c hj => HN.out j c (List.getElem?_eq_some_iff.1 hj).1 hj))
          have hnx := fun ty => run_next_end (P := Tryz.prog) w ⟨s.toArray⟩ s.length ty (by rw [hsz]; omega)
          clear hsz
          go_wp2_with fail
          go_ret
          rw [HY.out]
          exact ⟨rfl, fresh1 w _⟩
    · have e : nameB s = false := by unfold nameB; rw [decide_eq_false h12, Bool.false_and]
      rw [e]
      go_enter Tryz.func197, Tryz.ntmps197
      go_wp2
      go_ret
      exact ⟨rfl, Below.refl _ _⟩
end Go.Proofs.YtpblpjopinllcaaGreatDoor.words
namespace Go.Proofs.YtpblpjopinllcaaGreatDoor.graph
open Go.ChangeShapes Go.WideShapes Go.ChangeAt Go.RowKit
open Go.Proofs.YtpblpjopinllcaaGreatDoor.opened Go.Proofs.YtpblpjopinllcaaGreatDoor.block Go.Proofs.YtpblpjopinllcaaGreatDoor.words

structure Cl where
  n : Bs
  w : Int
deriving DecidableEq
structure Lo where
  n : Bs
  u : Int
  r : Int
deriving DecidableEq
structure Oq where
  n : Bs
  k : Int
  l : Int
  a : Int
  x : Int
  y : Int
deriving DecidableEq
structure Ch where
  f : Int
  t : Int
deriving DecidableEq
structure Gr where
  c : List Cl
  l : List Lo
  o : List Oq
  h : List Ch
abbrev I64 (n : Int) : Prop := -9223372036854775808 ≤ n ∧ n ≤ 9223372036854775807
structure Gr.In (g : Gr) : Prop where
  c : ∀ x ∈ g.c, I64 x.w
  l : ∀ x ∈ g.l, I64 x.u ∧ I64 x.r
  o : ∀ x ∈ g.o, I64 x.k ∧ I64 x.l ∧ I64 x.a ∧ I64 x.x ∧ I64 x.y
  h : ∀ x ∈ g.h, I64 x.f ∧ I64 x.t
def cCl (x : Cl) : List Value := [sV x.n, .int .i64 x.w]
def cLo (x : Lo) : List Value := [sV x.n, .int .i64 x.u, .int .i64 x.r]
def cOq (x : Oq) : List Value := [sV x.n, .int .i64 x.k, .int .i64 x.l, .int .i64 x.a, .int .i64 x.x, .int .i64 x.y]
def cCh (x : Ch) : List Value := [.int .i64 x.f, .int .i64 x.t]
/-- A row of parts. -/
def Lg {α : Type} (m : Nat) (f : α → List Value) (w : World) (A : Option Addr) (M : List α) : Prop := LiesN w A m (M.map f)
theorem Lg.below {α : Type} {m : Nat} {f : α → List Value} {w w' : World} {A : Option Addr} {M : List α} (h : Lg m f w A M) (hb : Below w.heap.size w w') : Lg m f w' A M := by
  rcases h with h | ⟨b, off, hA, hbl, hc⟩
  · exact .inl h
  · exact .inr ⟨b, off, hA, Nat.lt_of_lt_of_le hbl hb.size, fun i x hx => ⟨(hc i x hx).1, fun j hj => (hb.cell (p := ⟨b, off + (i * m + j), none⟩) hbl).trans ((hc i x hx).2 j hj)⟩⟩
theorem Lg.cells {α : Type} {m : Nat} {f : α → List Value} {w : World} {A : Option Addr} {M : List α} (h : Lg m f w A M) {k : Nat} {p : α} (hk : M[k]? = some p) :
    ∃ b off, A = some ⟨b, off, none⟩ ∧ b < w.heap.size ∧ ∀ j, j < m → w.cell? ⟨b, off + (k * m + j), none⟩ = (f p)[j]? := by
  rcases h with h | ⟨b, off, hA, hbl, hc⟩
  · have : M = [] := by simpa using h
    subst this
    simp at hk
  · have hx : (M.map f)[k]? = some (f p) := by rw [List.getElem?_map, hk]; rfl
    exact ⟨b, off, hA, hbl, (hc k (f p) hx).2⟩
theorem at_cl {w : World} {A : Option Addr} {M : List Cl} (h : Lg 2 cCl w A M) {k : Nat} {p : Cl} (hk : M[k]? = some p) :
    ∃ b off, A = some ⟨b, off, none⟩ ∧ b < w.heap.size ∧ w.cell? ⟨b, off + k * 2, none⟩ = some (sV p.n) ∧ w.cell? ⟨b, off + k * 2 + 1, none⟩ = some (.int .i64 p.w) := by
  obtain ⟨b, off, hA, hb, hc⟩ := h.cells hk
  exact ⟨b, off, hA, hb, by simpa [cCl, Nat.add_assoc] using hc 0 (by omega), by simpa [cCl, Nat.add_assoc] using hc 1 (by omega)⟩
theorem at_lo {w : World} {A : Option Addr} {M : List Lo} (h : Lg 3 cLo w A M) {k : Nat} {p : Lo} (hk : M[k]? = some p) :
    ∃ b off, A = some ⟨b, off, none⟩ ∧ b < w.heap.size ∧ w.cell? ⟨b, off + k * 3, none⟩ = some (sV p.n) ∧ w.cell? ⟨b, off + k * 3 + 1, none⟩ = some (.int .i64 p.u) ∧ w.cell? ⟨b, off + k * 3 + 2, none⟩ = some (.int .i64 p.r) := by
  obtain ⟨b, off, hA, hb, hc⟩ := h.cells hk
  exact ⟨b, off, hA, hb, by simpa [cLo, Nat.add_assoc] using hc 0 (by omega), by simpa [cLo, Nat.add_assoc] using hc 1 (by omega), by simpa [cLo, Nat.add_assoc] using hc 2 (by omega)⟩
theorem at_oq {w : World} {A : Option Addr} {M : List Oq} (h : Lg 6 cOq w A M) {k : Nat} {p : Oq} (hk : M[k]? = some p) :
    ∃ b off, A = some ⟨b, off, none⟩ ∧ b < w.heap.size ∧ w.cell? ⟨b, off + k * 6, none⟩ = some (sV p.n) ∧ w.cell? ⟨b, off + k * 6 + 1, none⟩ = some (.int .i64 p.k) ∧ w.cell? ⟨b, off + k * 6 + 2, none⟩ = some (.int .i64 p.l) ∧ w.cell? ⟨b, off + k * 6 + 3, none⟩ = some (.int .i64 p.a) ∧ w.cell? ⟨b, off + k * 6 + 4, none⟩ = some (.int .i64 p.x) ∧ w.cell? ⟨b, off + k * 6 + 5, none⟩ = some (.int .i64 p.y) := by
  obtain ⟨b, off, hA, hb, hc⟩ := h.cells hk
  exact ⟨b, off, hA, hb, by simpa [cOq, Nat.add_assoc] using hc 0 (by omega), by simpa [cOq, Nat.add_assoc] using hc 1 (by omega), by simpa [cOq, Nat.add_assoc] using hc 2 (by omega), by simpa [cOq, Nat.add_assoc] using hc 3 (by omega), by simpa [cOq, Nat.add_assoc] using hc 4 (by omega), by simpa [cOq, Nat.add_assoc] using hc 5 (by omega)⟩
theorem at_ch {w : World} {A : Option Addr} {M : List Ch} (h : Lg 2 cCh w A M) {k : Nat} {p : Ch} (hk : M[k]? = some p) :
    ∃ b off, A = some ⟨b, off, none⟩ ∧ b < w.heap.size ∧ w.cell? ⟨b, off + k * 2, none⟩ = some (.int .i64 p.f) ∧ w.cell? ⟨b, off + k * 2 + 1, none⟩ = some (.int .i64 p.t) := by
  obtain ⟨b, off, hA, hb, hc⟩ := h.cells hk
  exact ⟨b, off, hA, hb, by simpa [cCh, Nat.add_assoc] using hc 0 (by omega), by simpa [cCh, Nat.add_assoc] using hc 1 (by omega)⟩
/-- Where a graph lies: four rows, with their rooms. -/
structure Gv where
  a : Option Addr
  b : Option Addr
  d : Option Addr
  e : Option Addr
  i : Nat
  j : Nat
  k : Nat
  m : Nat
/-- A graph as a value: four slices. -/
abbrev gV (v : Gv) (g : Gr) : Value := .agg #[.slice v.a g.c.length v.i, .slice v.b g.l.length v.j, .slice v.d g.o.length v.k, .slice v.e g.h.length v.m]
structure Lies4 (w : World) (v : Gv) (g : Gr) : Prop where
  c : Lg 2 cCl w v.a g.c
  l : Lg 3 cLo w v.b g.l
  o : Lg 6 cOq w v.d g.o
  h : Lg 2 cCh w v.e g.h
theorem Lies4.below {w w' : World} {v : Gv} {g : Gr} (h : Lies4 w v g) (hb : Below w.heap.size w w') : Lies4 w' v g := ⟨h.c.below hb, h.l.below hb, h.o.below hb, h.h.below hb⟩
/-! ### What is wrong with a graph -/
/-- The first thing that is wrong, of so many. -/
def firstE (f : Nat → Int) : Nat → Int
  | 0 => 0
  | k + 1 => if firstE f k = 0 then f k else firstE f k
theorem first_next {f : Nat → Int} {k : Nat} (h : firstE f k = 0) : firstE f (k + 1) = f k := by simp [firstE, h]
theorem first_keep {f : Nat → Int} {k : Nat} (h : firstE f k ≠ 0) : ∀ n, k ≤ n → firstE f n = firstE f k
  | 0, hn => by
    obtain rfl : k = 0 := by omega
    rfl
  | n + 1, hn => by
    by_cases e : k = n + 1
    · rw [e]
    · have ih := first_keep h n (by omega)
      rw [firstE, if_neg (by rw [ih]; exact h), ih]
theorem first_stop {f : Nat → Int} {k : Nat} (h : firstE f k = 0) (he : f k ≠ 0) : ∀ n, k < n → firstE f n = f k := fun n hn => by
  have e := first_next h
  rw [first_keep (k := k + 1) (by rw [e]; exact he) n hn, e]
theorem first_zero {f : Nat → Int} : ∀ {n : Nat}, firstE f n = 0 → ∀ k, k < n → f k = 0
  | 0, _, k, hk => by omega
  | n + 1, h, k, hk => by
    rw [firstE] at h
    split at h
    · rename_i h0
      by_cases e : k = n
      · rw [e]; exact h
      · exact first_zero h0 k (by omega)
    · rename_i h0
      exact absurd h h0
def sizesE (g : Gr) : Int := if 4 < g.c.length ∨ 6 < g.l.length ∨ 24 < g.o.length ∨ 48 < g.h.length then 7 else if g.c.length = 0 ∨ g.o.length = 0 then 3 else 0
def nameE (ahead : List Bs) (n : Bs) : Int := if nameB n = false then 6 else if n ∈ ahead then 4 else 0
def clE (C : List Cl) (i : Nat) : Int := match C[i]? with
  | none => 0
  | some x => if nameE ((C.take i).map (·.n)) x.n ≠ 0 then nameE ((C.take i).map (·.n)) x.n else if x.w < 1 ∨ 4 < x.w then 1 else 0
/-- How many loops a loop is in, itself among them; its Ups are less than their numbers. -/
def deepF (L : List Lo) : Nat → Int → Nat
  | 0, _ => 0
  | f + 1, i => if i < 0 then 0 else match L[i.toNat]? with
    | none => 0
    | some x => deepF L f x.u + 1
/-- Each loop's Up is less than its number, up to a place. -/
def UpOk (L : List Lo) (n : Nat) : Prop := ∀ i x, i < n → L[i]? = some x → -1 ≤ x.u ∧ x.u < i
theorem deepF_more {L : List Lo} {n : Nat} (h : UpOk L n) : ∀ (f e : Nat) (i : Int), i < n → i < f → i < e → deepF L f i = deepF L e i
  | 0, 0, i, _, _, _ => rfl
  | 0, e + 1, i, h1, h2, h3 => by
    have : i < 0 := by omega
    simp [deepF, this]
  | f + 1, 0, i, h1, h2, h3 => by
    have : i < 0 := by omega
    simp [deepF, this]
  | f + 1, e + 1, i, h1, h2, h3 => by
    unfold deepF
    by_cases hi : i < 0
    · rw [if_pos hi, if_pos hi]
    · rw [if_neg hi, if_neg hi]
      cases hx : L[i.toNat]? with
      | none => rfl
      | some x =>
        have := h i.toNat x (by omega) hx
        dsimp only
        rw [deepF_more h f e x.u (by omega) (by omega) (by omega)]
def deepL (L : List Lo) (i : Int) : Nat := deepF L (i + 1).toNat i
theorem deep_neg {L : List Lo} {i : Int} (h : i < 0) : deepL L i = 0 := by
  unfold deepL
  cases (i + 1).toNat <;> simp [deepF, h]
theorem deep_step {L : List Lo} {n : Nat} (h : UpOk L n) {i : Nat} {x : Lo} (hi : i < n) (hx : L[i]? = some x) : deepL L i = deepL L x.u + 1 := by
  have hu := h i x hi hx
  unfold deepL
  rw [show ((i : Int) + 1).toNat = i + 1 by omega]
  show (if (i : Int) < 0 then 0 else _) = _
  rw [if_neg (by omega), show ((i : Int)).toNat = i by omega, hx]
  dsimp only
  rw [deepF_more h i (x.u + 1).toNat x.u (by omega) (by omega) (by omega)]
theorem deep_le {L : List Lo} {n : Nat} (h : UpOk L n) : ∀ (f : Nat) (i : Int), i < n → i < f → deepF L f i ≤ f
  | 0, i, _, _ => Nat.le_refl _
  | f + 1, i, h1, h2 => by
    unfold deepF
    by_cases hi : i < 0
    · rw [if_pos hi]; omega
    · rw [if_neg hi]
      cases hx : L[i.toNat]? with
      | none => simp
      | some x =>
        have := h i.toNat x (by omega) hx
        have := deep_le h f x.u (by omega) (by omega)
        dsimp only
        omega
def loE (L : List Lo) (i : Nat) : Int := match L[i]? with
  | none => 0
  | some x => if nameE ((L.take i).map (·.n)) x.n ≠ 0 then nameE ((L.take i).map (·.n)) x.n else if x.u < -1 ∨ (i : Int) ≤ x.u ∨ x.r < 1 ∨ 8 < x.r then 1 else if 3 < deepL L i then 10 else 0
theorem up_of {L : List Lo} {n : Nat} (h : firstE (loE L) n = 0) : UpOk L n := by
  intro i x hi hx
  have e := first_zero h i hi
  unfold loE at e
  rw [hx] at e
  dsimp only at e
  split at e
  · rename_i h1
    exact absurd e h1
  · split at e
    · cases e
    · omega
/-- May an operator of a kind be in a loop? -/
def whereB (k l : Int) : Bool := if k ≤ 2 then decide (l = -1) else if 7 ≤ k ∧ k ≤ 9 then decide (l ≠ -1) else true
/-- What A and B may be. -/
def numsB (k x y : Int) : Bool := if k = 3 then true else if k = 4 then decide (1 ≤ x ∧ x ≤ 1000 ∧ 0 ≤ y ∧ y < x) else if k = 6 then decide (1 ≤ x ∧ x ≤ 1000 ∧ y = 0) else if k = 10 then decide (0 ≤ x ∧ x ≤ 1000 ∧ y = 0) else decide (x = 0 ∧ y = 0)
def opE (g : Gr) (x : Oq) : Int := if x.k < 1 ∨ 14 < x.k then 70 else if x.l < -1 ∨ (g.l.length : Int) ≤ x.l ∨ x.a < 0 ∨ (g.c.length : Int) ≤ x.a then 1 else if whereB x.k x.l = false then 10 else if numsB x.k x.x x.y = false then 1 else 0
def oqE (g : Gr) (i : Nat) : Int := match g.o[i]? with
  | none => 0
  | some x => if nameE ((g.o.take i).map (·.n)) x.n ≠ 0 then nameE ((g.o.take i).map (·.n)) x.n else opE g x
/-- The loop of a place (2i: where operator i takes in, 2i + 1: where it gives out). -/
def loopV (g : Gr) (i : Nat) (out : Bool) : Int := match g.o[i]? with
  | none => -1
  | some x => if (x.k = 7 ∧ out = false) ∨ (x.k = 8 ∧ out = true) then (match g.l[x.l.toNat]? with | none => -1 | some y => y.u) else x.l
def kindAt (g : Gr) (i : Int) : Int := match g.o[i.toNat]? with
  | none => 0
  | some x => x.k
def chE (g : Gr) (i : Nat) : Int := match g.h[i]? with
  | none => 0
  | some x => if x.f < 0 ∨ (g.o.length : Int) ≤ x.f ∨ x.t < 0 ∨ (g.o.length : Int) ≤ x.t then 1 else if kindAt g x.f = 2 ∨ kindAt g x.t = 1 then 5 else if loopV g x.f.toNat true ≠ loopV g x.t.toNat false then 10 else if x ∈ g.h.take i then 4 else 0
def checkE (g : Gr) : Int :=
  if sizesE g ≠ 0 then sizesE g else if firstE (clE g.c) g.c.length ≠ 0 then firstE (clE g.c) g.c.length else if firstE (loE g.l) g.l.length ≠ 0 then firstE (loE g.l) g.l.length
  else if firstE (oqE g) g.o.length ≠ 0 then firstE (oqE g) g.o.length else firstE (chE g) g.h.length
end Go.Proofs.YtpblpjopinllcaaGreatDoor.graph
