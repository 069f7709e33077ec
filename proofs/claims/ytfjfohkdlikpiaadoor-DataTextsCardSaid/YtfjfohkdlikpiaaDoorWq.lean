/-
  The contracts of words.Number, words.Signed and words.Int, and of the document's.
-/
import Derived.Test.YtfjfohkdlikpiaaDoorWc
import Derived.Test.YtfjfohkdlikpiaaDoorNw
import Derived.Lib.AppendIntMem
import Derived.Shelf.Strconv.ErrVarParseInt
import Derived.Laws.OwnMore
namespace Go.Proofs.YtfjfohkdlikpiaaDoor.words
open Go.ChangeShapes Go.WideShapes Go.ChangeAt Go.RowKit
open Go.Proofs.YtfjfohkdlikpiaaDoor.opened Go.Proofs.YtfjfohkdlikpiaaDoor.block

/-- What the listed variables hold. -/
structure Env (w : World) : Prop where
  tab : Lib.TabIs Tryd.prog w "internal/strconv.uint64pow10" .u64 Lib.pow10Tab
  max : MaxIs w
  syn : ∃ tp p, w.var? Tryd.prog "strconv.ErrSyntax" = some #[.iface tp p]
  rng : ∃ tp p, w.var? Tryd.prog "strconv.ErrRange" = some #[.iface tp p]
theorem var_below {P : Program} {w w' : World} {name : String} {cs : Array Value} (h : w.var? P name = some cs) (hb : Below w.heap.size w w') : w'.var? P name = some cs := by
  unfold World.var? at *
  cases hg : P.globalNamed name with
  | none => simp [hg] at h
  | some g =>
    simp only [hg, Option.bind_some] at h ⊢
    have hlt : g < w.heap.size := by
      rcases Nat.lt_or_ge g w.heap.size with h' | h'
      · exact h'
      · simp [Array.getElem?_eq_none h'] at h
    rw [hb.block g hlt]
    exact h
theorem Env.below {w w' : World} (h : Env w) (hb : Below w.heap.size w w') : Env w' := by
  obtain ⟨t1, p1, h1⟩ := h.syn
  obtain ⟨t2, p2, h2⟩ := h.rng
  exact ⟨var_below h.tab hb, h.max.below hb, ⟨t1, p1, var_below h1 hb⟩, ⟨t2, p2, var_below h2 hb⟩⟩
theorem number_any (n : Int) (h0 : -9223372036854775808 ≤ n) (h1 : n ≤ 9223372036854775807) (w : World) (hE : Env w) :
    Calls Tryd.prog 13 #[.int .i64 n] w fun e w' => e = .returned (sV (Lib.itoa n)) ∧ Below w.heap.size w w' := by
  have H := Lib.hid (Any.strconv_FormatInt_10 Tryd.laysM173 n h0 h1 w hE.tab)
  clear hE h0 h1
  go_enter Tryd.func13, Tryd.ntmps13
  go_wp2_with ((go_at_call 19; refine H.out.mono ?_; rintro e w4 ⟨rfl, k, os, rfl⟩))
  go_ret
  exact ⟨rfl, Lib.below_grow _ _ (Nat.le_refl _) k os⟩
/-- What ParseInt tells. -/
def PV (w : Bs) : Option Int := match Lib.parseIntB 64 w with
  | .ok v => some v
  | _ => none
theorem parse_yes (s : Bs) (hs : s.length ≤ 100000) (v : Int) (h : PV s = some v) (w : World) :
    Calls Tryd.prog 27 #[.string ⟨s.toArray⟩, .int .i64 10, .int .i64 64] w fun e w' => e = .returned (.tuple #[.int .i64 v, .nilIface]) ∧ Below w.heap.size w w' := by
  have h2 : Lib.parseIntB 64 s = .ok v := by
    unfold PV at h
    split at h
    · rename_i u hu; simp at h; rw [hu, h]
    · cases h
  refine (Any.strconv_ParseInt_10_at64_ok Tryd.laysC174 ⟨s.toArray⟩ (by show s.toArray.size ≤ _; simp; omega) v h2 w).mono fun e w' ⟨he, hw⟩ => ⟨he, ?_⟩
  rcases hw with rfl | ⟨t, rfl⟩
  · exact Below.refl _ _
  · exact Lib.bytesWorld_below _ _ _
theorem parse_no (s : Bs) (hs : s.length ≤ 100000) (h : PV s = none) (w : World) (hE : Env w) :
    Calls Tryd.prog 27 #[.string ⟨s.toArray⟩, .int .i64 10, .int .i64 64] w fun e w' => ∃ (v : Int) (N : Nat), e = .returned (.tuple #[.int .i64 v, .iface 84 (.pointer (some ⟨N, 0, none⟩))]) ∧ Below w.heap.size w w' := by
  have hz : (⟨s.toArray⟩ : ByteArray).size ≤ 281474976710656 := by show s.toArray.size ≤ _; simp; omega
  obtain ⟨t1, p1, h1⟩ := hE.syn
  obtain ⟨t2, p2, h2⟩ := hE.rng
  rcases hp : Lib.parseIntB 64 s with u | _ | _
  · simp [PV, hp] at h
  · exact (Any.strconv_ParseInt_10_at64_syntax_var Tryd.laysC174 ⟨s.toArray⟩ hz hp t1 p1 w h1).mono fun e w' ⟨N, he, _, _, hb⟩ => ⟨0, N, he, hb⟩
  · exact (Any.strconv_ParseInt_10_at64_range_var Tryd.laysC174 ⟨s.toArray⟩ hz hp t2 p2 w h2).mono fun e w' ⟨N, he, _, _, hb⟩ => ⟨_, N, he, hb⟩
theorem PV_bounds {w : Bs} {v : Int} (h : PV w = some v) : -9223372036854775808 ≤ v ∧ v ≤ 9223372036854775807 := by
  unfold PV at h
  split at h
  · rename_i u hu
    simp at h
    subst h
    have := Lib.parseIntB_bounds hu
    exact ⟨by omega, by omega⟩
  · cases h
theorem sg_PV (w : Bs) : sgP w = (PV w).bind fun v => if Lib.itoa v = w then some v else none := by
  unfold sgP PV
  cases h : Lib.parseIntB 64 w <;> simp
theorem str_ne {a b : Bs} : (sV a = sV b) ↔ a = b := by
  constructor
  · intro h
    injection h with h
    injection h with h
    exact Array.toList_inj.2 h |> fun h => by simpa using h
  · rintro rfl; rfl
set_option maxRecDepth 100000 in
theorem signed_any (s : Bs) (hs : s.length ≤ 100000) (w : World) (hE : Env w) :
    Calls Tryd.prog 18 #[.string ⟨s.toArray⟩] w fun e w' => e = .returned (.tuple #[.int .i64 (sgV s), .int .i64 (sgE s)]) ∧ Below w.heap.size w w' := by
  have HE := Lib.hid hE
  clear hE
  cases hp : PV s with
  | none =>
    obtain ⟨e1, e2⟩ := sgE_none (by rw [sg_PV, hp]; rfl : sgP s = none)
    rw [e1, e2]
    have C := Lib.hid (parse_no s hs hp w HE.out)
    clear hp e1 e2
    go_enter Tryd.func18, Tryd.ntmps18
    go_wp2_with ((go_at_call 27; refine C.out.mono ?_; rintro e w4 ⟨v, N, rfl, b4⟩))
    go_ret2
    exact ⟨rfl, b4⟩
  | some v =>
    have hb := PV_bounds hp
    have C := Lib.hid (parse_yes s hs v hp w)
    have CN := Lib.hid (fun w2 h2 => number_any v hb.1 hb.2 w2 h2)
    by_cases hi : Lib.itoa v = s
    · obtain ⟨e1, e2⟩ := sgE_some (by rw [sg_PV, hp]; simp [hi] : sgP s = some v)
      rw [e1, e2]
      rw [hi] at CN
      clear hp e1 e2 hi hb
      go_enter Tryd.func18, Tryd.ntmps18
      go_wp2_with (first | (go_at_call 27; refine C.out.mono ?_; rintro e w4 ⟨rfl, b4⟩; have B4 := Lib.hid b4; clear b4) | (go_at_call 13; refine (CN.out _ (HE.out.below B4.out)).mono ?_; rintro e w5 ⟨rfl, b5⟩; have B5 := Lib.hid b5; clear b5))
      go_ret2
      exact ⟨rfl, then_below B4.out B5.out⟩
    · obtain ⟨e1, e2⟩ := sgE_none (by rw [sg_PV, hp]; simp [hi] : sgP s = none)
      rw [e1, e2]
      have hne : (Lib.itoa v == s) = false := by simpa using hi
      clear hp e1 e2 hb hi
      generalize Lib.itoa v = z at CN hne
      go_enter Tryd.func18, Tryd.ntmps18
      go_wp2_with (first | (go_at_call 27; refine C.out.mono ?_; rintro e w4 ⟨rfl, b4⟩; have B4 := Lib.hid b4; clear b4) | (go_at_call 13; refine (CN.out _ (HE.out.below B4.out)).mono ?_; rintro e w5 ⟨rfl, b5⟩; have B5 := Lib.hid b5; clear b5))
      go_ret2
      exact ⟨rfl, then_below B4.out B5.out⟩
end Go.Proofs.YtfjfohkdlikpiaaDoor.words
