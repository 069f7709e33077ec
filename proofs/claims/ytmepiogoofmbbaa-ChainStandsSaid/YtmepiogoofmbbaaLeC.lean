/-
  The contracts of chain.LE, watershedref06.LE and of slices.Equal over times.
-/
import Derived.Test.YtmepiogoofmbbaaHd
namespace Go.Proofs.Ytmepiogoofmbbaa.chain
open Go.ChangeShapes Go.WideShapes Go.ChangeAt Go.RowKit Go.Shelf
open Go.Proofs.Ytmepiogoofmbbaa.tm Go.Proofs.Ytmepiogoofmbbaa.opened Go.Proofs.Ytmepiogoofmbbaa.block Go.Proofs.Ytmepiogoofmbbaa.stamp

/-- Is a list of times not behind another one? -/
def leL (L M : List Tm) : Bool := M.all fun t => holdsB L t
theorem all_no {M : List Tm} {k : Nat} {t : Tm} {p : Tm → Bool} (hk : M[k]? = some t) (h : p t = false) : M.all p = false := by
  rw [← Bool.not_eq_true, List.all_eq_true]
  exact fun hh => by rw [hh t (List.mem_of_getElem? hk)] at h; cases h
theorem all_of_take {M : List Tm} {p : Tm → Bool} (h : ∀ y ∈ M, p y = true) : M.all p = true := List.all_eq_true.2 h
set_option maxRecDepth 100000 in
theorem lists_any (A B : Option Addr) (c d : Nat) (L M : List Tm) (iL : InL L) (iM : InL M) (mL : L.length ≤ 4611686018427387903) (mM : M.length ≤ 4611686018427387903) (w : World) (hL : Lt w A L) (hM : Lt w B M) :
    Calls Try.prog 24 #[.slice A L.length c, .slice B M.length d] w fun e w' => e = .returned (.bool (leL L M)) ∧ Below w.heap.size w w' := by
  have HL := Lib.hid hL
  have HM := Lib.hid hM
  go_enter Try.func24, Try.ntmps24
  go_wp2_with fail
  go_loopw [9] (fun s wr => ∃ k : Nat, k ≤ M.length ∧ s = .int .i64 k ∧ Hid (∀ y ∈ M.take k, holdsB L y = true) ∧ Below w.heap.size w wr) (fun s _ => M.length - (intOf s).toNat)
  case atStart => exact ⟨0, Nat.zero_le _, rfl, Lib.hid (by simp), Below.refl _ _⟩
  case round =>
    obtain ⟨k, hk, rfl, HN, hb0⟩ := hrel
    by_cases hlt : k < M.length
    · obtain ⟨x, hx, hm⟩ := get_lt hlt
      obtain ⟨b, off, hA, hb, c0, c1, c2, c3, c4⟩ := (HM.out.below hb0).at hx
      subst hA
      have HX := Lib.hid hx
      have K := Lib.hid (holds_any A c L x (iM x hm) iL mL)
      clear hx hm
      obtain ⟨v, hv⟩ : ∃ v, holdsB L x = v := ⟨_, rfl⟩
      rw [hv] at K
      have HV := Lib.hid hv
      clear hv
      have BW := hb0.alloc hb0.size (.cells #[.int .u32 x.e, .int .i64 x.d, .int .u32 x.a, .int .u32 x.b, .int .u32 x.c] 26)
      go_wp2_with fail
      refine (K.out _ (by exact HL.out.below BW)).mono ?_
      rintro e w4 ⟨rfl, b4⟩
      have B4 : Below w.heap.size w w4 := BW.trans (b4.mono BW.size)
      clear b4 c0 c1 c2 c3 c4 hb hb0 BW
      cases v
      · go_wp2_with fail
        go_ret
        exact ⟨by rw [show leL L M = false from all_no HX.out HV.out]; rfl, B4⟩
      · go_wp2_with fail
        go_roundw
        case rel => exact ⟨k + 1, by omega, by go_num, Lib.hid (more HX.out HN.out HV.out), B4⟩
        case measure => simp [intOf]; omega
    · have hkk : k = M.length := by omega
      have H0 : Hid (∀ y ∈ M, holdsB L y = true) := Lib.hid (by have := HN.out; rwa [hkk, List.take_length] at this)
      clear HN hkk
      go_wp2_with fail
      go_ret
      exact ⟨by rw [show leL L M = true from all_of_take H0.out]; rfl, hb0⟩
set_option maxRecDepth 100000 in
theorem listsR_any (A B : Option Addr) (c d : Nat) (L M : List Tm) (iL : InL L) (iM : InL M) (mL : L.length ≤ 4611686018427387903) (mM : M.length ≤ 4611686018427387903) (w : World) (hL : Lt w A L) (hM : Lt w B M) :
    Calls Try.prog 25 #[.slice A L.length c, .slice B M.length d] w fun e w' => e = .returned (.bool (leL L M)) ∧ Below w.heap.size w w' := by
  have HL := Lib.hid hL
  have HM := Lib.hid hM
  go_enter Try.func25, Try.ntmps25
  go_wp2_with fail
  go_loopw [5] (fun s wr => ∃ k : Nat, k ≤ M.length ∧ s = .int .i64 k ∧ Hid (∀ y ∈ M.take k, holdsB L y = true) ∧ Below w.heap.size w wr) (fun s _ => M.length - (intOf s).toNat)
  case atStart => exact ⟨0, Nat.zero_le _, rfl, Lib.hid (by simp), Below.refl _ _⟩
  case round =>
    obtain ⟨k, hk, rfl, HN, hb0⟩ := hrel
    by_cases hlt : k < M.length
    · obtain ⟨x, hx, hm⟩ := get_lt hlt
      obtain ⟨b, off, hA, hb, c0, c1, c2, c3, c4⟩ := (HM.out.below hb0).at hx
      subst hA
      have HX := Lib.hid hx
      have K := Lib.hid (holdsR_any A c L x (iM x hm) iL mL)
      clear hx hm
      obtain ⟨v, hv⟩ : ∃ v, holdsB L x = v := ⟨_, rfl⟩
      rw [hv] at K
      have HV := Lib.hid hv
      clear hv
      go_wp2_with fail
      refine (K.out _ (by exact HL.out.below hb0)).mono ?_
      rintro e w4 ⟨rfl, b4⟩
      have B4 : Below w.heap.size w w4 := hb0.trans (b4.mono hb0.size)
      clear b4 c0 c1 c2 c3 c4 hb hb0
      cases v
      · go_wp2_with fail
        go_ret
        exact ⟨by rw [show leL L M = false from all_no HX.out HV.out]; rfl, B4⟩
      · go_wp2_with fail
        go_roundw
        case rel => exact ⟨k + 1, by omega, by go_num, Lib.hid (more HX.out HN.out HV.out), B4⟩
        case measure => simp [intOf]; omega
    · have hkk : k = M.length := by omega
      have H0 : Hid (∀ y ∈ M, holdsB L y = true) := Lib.hid (by have := HN.out; rwa [hkk, List.take_length] at this)
      clear HN hkk
      go_wp2_with fail
      go_ret
      exact ⟨by rw [show leL L M = true from all_of_take H0.out]; rfl, hb0⟩
/-- Great: are times too many to be asked? -/
theorem great_any (A : Option Addr) (c n : Nat) (hn : n ≤ 4611686018427387903) (w : World) : Calls Try.prog 11 #[.slice A n c] w fun e w' => e = .returned (.bool (decide (200 < n))) ∧ w = w' := by
  by_cases h : 200 < n
  · rw [decide_eq_true h]
    go_enter Try.func11, Try.ntmps11
    go_wp2
    go_ret
    exact ⟨by first | rfl | (simp; omega), rfl⟩
  · rw [decide_eq_false h]
    go_enter Try.func11, Try.ntmps11
    go_wp2
    go_ret
    exact ⟨by first | rfl | (simp; omega), rfl⟩
instance : Inhabited Tm := ⟨T0⟩
theorem neqT : NeqAt Try.prog 26 (fun t : Tm => .agg (cT t).toArray) eqT := ⟨fun x y w => run_neT x y w, GuardAt.agg _ (by kernel_rfl)⟩
theorem cell_cT {w : World} {A : Option Addr} {L : List Tm} {b off : Nat} (hL : Lt w A L) (hA : A = some ⟨b, off, none⟩) (j : Nat) (hj : j < L.length) (i : Nat) (v : Value) (hi : (cT L[j]!)[i]? = some v) : w.cell? ⟨b, off + j * 5 + i, none⟩ = some v := by
  have e : L[j]? = some L[j]! := by rw [getElem!_pos L j hj]; exact List.getElem?_eq_getElem hj
  obtain ⟨b', off', hA', -, c0, c1, c2, c3, c4⟩ := hL.at e
  rw [hA] at hA'
  injection (Option.some.inj hA') with h1 h2
  subst h1 h2
  generalize L[j]! = x at hi c0 c1 c2 c3 c4
  match i, hi with
  | 0, hi => simp [cT] at hi; rw [← hi]; exact c0
  | 1, hi => simp [cT] at hi; rw [← hi]; exact c1
  | 2, hi => simp [cT] at hi; rw [← hi]; exact c2
  | 3, hi => simp [cT] at hi; rw [← hi]; exact c3
  | 4, hi => simp [cT] at hi; rw [← hi]; exact c4
  | i + 5, hi => simp [cT] at hi
end Go.Proofs.Ytmepiogoofmbbaa.chain
