/-
  A builder of texts: what is written on is behind what was there; its text is all that was written.
-/
import Derived.Test.YtaiaadojnoipfaaDe
import Derived.Shelf.Strings.Builder1
import Derived.Lib.AppendStr
import Derived.Lib.UnsafeStr
import Derived.Laws.Externs
import Derived.WalkKit
import Derived.Test.YtaiaadojnoipfaaDBl
namespace Go.Proofs.Ytaiaadojnoipfaa.data
open Go.ChangeShapes Go.WideShapes Go.ChangeAt Go.RowKit
open Go.Proofs.Ytaiaadojnoipfaa.opened Go.Proofs.Ytaiaadojnoipfaa.block Go.Proofs.Ytaiaadojnoipfaa.region

abbrev sB (l : List UInt8) : Value := .string ⟨l.toArray⟩
theorem str_app (a b : List UInt8) : ({ data := a.toArray } : ByteArray) ++ { data := b.toArray } = ⟨(a ++ b).toArray⟩ := ByteArray.ext (by simp)
/-- Block b is a builder that holds these bytes; nothing of it lies below B. -/
def BL (w : World) (B b : Nat) (l : List UInt8) : Prop := Lib.IsBuilder 71 5 B b (Lib.byteCells l) w ∧ B ≤ w.heap.size
theorem row_keep {w w' : World} {base size n : Nat} {e : TypeId} {v : Value} {xs : List Value} (h : w.ownsRow base e size v n xs) (hb : Below w.heap.size w w') : w'.ownsRow base e size v n xs := row_below h hb
theorem BL.below {w w' : World} {B b : Nat} {l : List UInt8} (h : BL w B b l) (hb : Below w.heap.size w w') : BL w' B b l := by
  have k : ∀ p, Lib.BuilderAt 71 5 B b p (Lib.byteCells l) w → Lib.BuilderAt 71 5 B b p (Lib.byteCells l) w' := by
    rintro p ⟨h1, v, h2, h3, h4⟩
    exact ⟨h1, v, (hb.block b (Array.getElem?_eq_some_iff.1 h2).1).trans h2, row_below h3 hb, h4⟩
  exact ⟨h.1.imp (k _) (k _), Nat.le_trans h.2 hb.size⟩
theorem bl_new (w : World) : BL (w.alloc (.cells #[.pointer none, .slice none 0 0] 71)) w.heap.size w.heap.size [] :=
  ⟨.inl ⟨Nat.le_refl _, .slice none 0 0, heap_alloc_new w _, World.ownsRow_nil _ _ _ _, by simp [Value.ownBlock]⟩, by simp⟩
theorem enters_nothing (x : Value) (w : World) : (callFunc 72 #[x]).run Try.prog w = .ok (.value x) w := by
  rw [run_callFunc_extern Try.func72 (by kernel_rfl) (by kernel_rfl) (by kernel_rfl) (e := Extern.AbiNoEscape.same) (by kernel_rfl), Lib.run_noEscape]
  rfl
set_option maxRecDepth 100000 in
set_option maxHeartbeats 1000000 in
/-- Behind copyCheck a builder knows its own place. -/
theorem check_copy (b : Nat) (p v : Value) (hp : p = .pointer none ∨ p = .pointer (some ⟨b, 0, none⟩)) (w : World) (h : w.heap[b]? = some (.cells #[p, v] 71 (0, 0))) :
    Calls Try.prog 63 #[.pointer (some ⟨b, 0, none⟩)] w fun e w' => e = .returned (.tuple #[]) ∧ (w' = w ∧ p = .pointer (some ⟨b, 0, none⟩) ∨ w' = w.setCell ⟨b, 0, none⟩ (.pointer (some ⟨b, 0, none⟩))) := by
  have c0 : w.cell? ⟨b, 0, none⟩ = some p := by simp [World.cell?, h]
  rcases hp with rfl | rfl
  · have f0 : w.frozen? ⟨b, 0, none⟩ = false := by simp [World.frozen?, h]
    have hsh : w.shape? b = some (71, 2) := by simp [World.shape?, h]
    obtain ⟨j, hj, hjs⟩ := Option.map_eq_some_iff.1 (show (Try.prog.info? 71).map (·.size) = some 2 by kernel_rfl)
    have u1 := Lib.run_to_unsafe (src := 68) (dst := 106) w ⟨b, 0, none⟩ Try.underlying68 Try.underlying106 hj (by rw [hjs]; decide) hsh (Nat.zero_lt_succ 1)
    have u2 := Lib.run_from_unsafe (src := 106) (dst := 68) w ⟨b, 0, none⟩ Try.underlying106 Try.underlying68 hj hsh (by kernel_rfl)
    have u3 := enters_nothing (.pointer (some ⟨b, 0, none⟩)) w
    clear hj hjs hsh
    go_enter Try.func63, Try.ntmps63
    go_wp2_with fail
    go_end0
    exact ⟨rfl, .inr rfl⟩
  · obtain ⟨j, hj, -⟩ := Option.map_eq_some_iff.1 (show (Try.prog.info? 71).map (·.size) = some 2 by kernel_rfl)
    have u1 := Lib.run_neq_ptr_same (P := Try.prog) (tp := 68) w ⟨b, 0, none⟩ Try.underlying68 hj
    clear hj
    go_enter Try.func63, Try.ntmps63
    go_wp2_with fail
    go_end0
    exact ⟨rfl, .inl ⟨rfl, trivial⟩⟩
theorem info8 : ∃ i, Try.prog.info? 5 = some i ∧ i.zero = some (.int .u8 0) ∧ i.size = 1 ∧ i.bytes = 1 := by
  have h : (Try.prog.info? 5).map (fun i => (i.zero, i.size, i.bytes)) = some (some (.int .u8 0), 1, 1) := by kernel_rfl
  rw [Option.map_eq_some_iff] at h
  obtain ⟨i, hi, he⟩ := h
  simp only [Prod.mk.injEq] at he
  exact ⟨i, hi, he.1, he.2.1, he.2.2⟩
set_option maxRecDepth 100000 in
set_option maxHeartbeats 1000000 in
theorem write_on (B b : Nat) (l s : List UInt8) (h1 : l.length + s.length ≤ 1000000) (w : World) (h : BL w B b l) :
    Calls Try.prog 37 #[.pointer (some ⟨b, 0, none⟩), .string ⟨s.toArray⟩] w fun e w' => (∃ v, e = .returned v) ∧ BL w' B b (l ++ s) ∧ Below B w w' := by
  have hBw := h.2
  obtain ⟨i0, hi0, hz0, hz1, hz2⟩ := info8
  obtain ⟨p, hp, hB, v, hbk, hown, hne⟩ : ∃ p, (p = .pointer none ∨ p = .pointer (some ⟨b, 0, none⟩)) ∧ Lib.BuilderAt 71 5 B b p (Lib.byteCells l) w := by
    rcases h.1 with h | h
    · exact ⟨_, .inl rfl, h⟩
    · exact ⟨_, .inr rfl, h⟩
  have hbw : b < w.heap.size := (Array.getElem?_eq_some_iff.1 hbk).1
  have CC := Lib.hid (check_copy b p v hp w hbk)
  have K : ∀ w1, (w1 = w ∧ p = .pointer (some ⟨b, 0, none⟩) ∨ w1 = w.setCell ⟨b, 0, none⟩ (.pointer (some ⟨b, 0, none⟩))) → w1.heap[b]? = some (.cells #[.pointer (some ⟨b, 0, none⟩), v] 71 (0, 0)) ∧ w1.ownsRow B 5 1 v (Lib.byteCells l).length (Lib.byteCells l) ∧ Below B w w1 := by
    rintro w1 (⟨rfl, rfl⟩ | rfl)
    · exact ⟨hbk, hown, Below.refl _ _⟩
    · refine ⟨Whole.store (show Whole w b _ _ from hbk) 0 _, ?_, (Below.refl B w).setCell (p := ⟨b, 0, none⟩) hB _⟩
      exact hown.kept (row := some b) (only_store (World.grownBy.refl w (some b)) _) (.inr hne)
  have KK := Lib.hid K
  clear K h hown hp hbk
  go_enter Try.func37, Try.ntmps37
  go_wp2_with fail
  refine CC.out.mono ?_
  rintro e w1 ⟨rfl, hw1⟩
  obtain ⟨k1, k2, k3⟩ := KK.out w1 hw1
  have c1 : w1.cell? ⟨b, 1, none⟩ = some v := by simp [World.cell?, k1]
  have hsz : (⟨s.toArray⟩ : ByteArray).size = s.length := by show s.toArray.size = _; simp
  have hln := Lib.byteCells_length l
  clear hw1 CC KK
  go_wp2_with (at_builtin; refine Lib.wpList_append_own_string _ rfl _ _ 69 9 rfl B 5 i0 Try.underlying69 Try.underlying9 hi0 hz0 hz1 hz2 _ _ _ rfl k2 ⟨s.toArray⟩ rfl (by unfold maxLen; rw [hsz, hln]; omega) (by rw [hsz, hln]; omega) (Nat.le_trans hBw k3.size) ?_)
  intro v' w2 hown' hgrow _
  have hb2 : w2.heap[b]? = some (.cells #[.pointer (some ⟨b, 0, none⟩), v] 71 (0, 0)) := (hgrow.block b (Nat.lt_of_lt_of_le hbw k3.size) (fun e => hne e.symm)).trans k1
  have d1 : w2.cell? ⟨b, 1, none⟩ = some v := by simp [World.cell?, hb2]
  have f1 : w2.frozen? ⟨b, 1, none⟩ = false := by simp [World.frozen?, hb2]
  have hB2 := Lib.hid (k3.grown hgrow (Nat.le_trans hBw k3.size) (fun j e => (k2.lt j e).1))
  have hput := Lib.hid (Lib.BuilderAt.put (T := 71) (e := 5) (bs' := Lib.byteCells (l ++ s)) hB hb2 (by
    have e2 : Lib.byteCells l ++ Lib.strCells ⟨s.toArray⟩ = Lib.byteCells (l ++ s) := by simp [Lib.byteCells, Lib.strCells]
    rw [← e2, List.length_append, Lib.strCells_length, hln, hsz]
    exact hown') (by decide))
  have hsz2 := Lib.hid (Nat.le_trans hBw hB2.out.size)
  obtain ⟨ao, n', cap, rfl⟩ : ∃ ao n' cap, v' = .slice ao n' cap := by
    rcases hown'.2 with ⟨hv, _⟩ | ⟨g, cap, cur, hv, _⟩
    · exact ⟨_, _, _, hv⟩
    · exact ⟨_, _, _, hv⟩
  clear hown' hgrow hb2 k1 k2 k3 c1 hsz hln hne
  go_wp2_with fail
  go_ret2
  exact ⟨⟨_, rfl⟩, ⟨.inr hput.out, by simpa [World.setCell] using hsz2.out⟩, hB2.out.setCell (p := ⟨b, 1, none⟩) hB _⟩
theorem text_of (B b : Nat) (l : List UInt8) (w : World) (h : BL w B b l) :
    Calls Try.prog 40 #[.pointer (some ⟨b, 0, none⟩)] w fun e w' => e = .returned (sB l) ∧ Below B w w' :=
  Any.Builder_String_any Try.lays169 Try.Builder_Extra_169 B b l w h.1 h.2
end Go.Proofs.Ytaiaadojnoipfaa.data
