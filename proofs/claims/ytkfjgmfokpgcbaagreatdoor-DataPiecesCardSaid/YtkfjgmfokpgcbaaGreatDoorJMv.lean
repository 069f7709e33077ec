/-
  The contracts of what makes one time of another.
  The contracts of stamp.Write and watershedref04.Write.
-/
import Derived.Test.YtkfjgmfokpgcbaaGreatDoorJChk
import Derived.Test.YtkfjgmfokpgcbaaGreatDoorJCnt
import Derived.Test.YtkfjgmfokpgcbaaGreatDoorJEnc
import Derived.Deep.QuietTactic
import Derived.BigQuiet
namespace Go.Proofs.YtkfjgmfokpgcbaaGreatDoor.stamp
open Go.ChangeShapes Go.WideShapes Go.ChangeAt Go.RowKit
open Go.Proofs.YtkfjgmfokpgcbaaGreatDoor.tm Go.Proofs.YtkfjgmfokpgcbaaGreatDoor.opened Go.Proofs.YtkfjgmfokpgcbaaGreatDoor.block

theorem fresh2 (w : World) (o o' : Obj) : Below w.heap.size w ((w.alloc o).alloc o') := ((Below.refl _ _).alloc (Nat.le_refl _) _).alloc (by simp) _
theorem over2 {w w1 : World} {o o' : Obj} (b1 : Below ((w.alloc o).alloc o').heap.size ((w.alloc o).alloc o') w1) : Below w.heap.size w w1 := (fresh2 _ _ _).trans (b1.mono (by simp; omega))
theorem over1 {w w1 : World} {o : Obj} (b1 : Below (w.alloc o).heap.size (w.alloc o) w1) : Below w.heap.size w w1 := (fresh1 _ _).trans (b1.mono (by simp))
theorem bcell {W w1 : World} (hb : Below W.heap.size W w1) : (∀ b o, b < W.heap.size → w1.cell? ⟨b, o, none⟩ = W.cell? ⟨b, o, none⟩) ∧ (∀ b o, b < W.heap.size → w1.frozen? ⟨b, o, none⟩ = W.frozen? ⟨b, o, none⟩) :=
  ⟨fun b o h => hb.cell (p := ⟨b, o, none⟩) h, fun b o h => hb.frozen (p := ⟨b, o, none⟩) h⟩
theorem tup {a b : Tm} {x y : Int} (h : a = b) (k : x = y) : Ending.returned (.tuple #[.agg #[.int .u32 a.e, .int .i64 a.d, .int .u32 a.a, .int .u32 a.b, .int .u32 a.c], .int .i64 x]) = .returned (.tuple #[.agg #[.int .u32 b.e, .int .i64 b.d, .int .u32 b.a, .int .u32 b.b, .int .u32 b.c], .int .i64 y]) := by rw [h, k]
theorem check_is (t : Tm) (i : t.In) {E : Int} (h : chk t = E) (w : World) : Calls Tryz.prog 43 #[.agg #[.int .u32 t.e, .int .i64 t.d, .int .u32 t.a, .int .u32 t.b, .int .u32 t.c]] w fun e w' => e = .returned (.int .i64 E) ∧ Below w.heap.size w w' := by
  have k := check_any t i w
  rw [h] at k
  exact k
end Go.Proofs.YtkfjgmfokpgcbaaGreatDoor.stamp
namespace Go.Proofs.YtkfjgmfokpgcbaaGreatDoor.stamp
open Go.ChangeShapes Go.WideShapes Go.ChangeAt Go.RowKit
open Go.Proofs.YtkfjgmfokpgcbaaGreatDoor.tm Go.Proofs.YtkfjgmfokpgcbaaGreatDoor.opened Go.Proofs.YtkfjgmfokpgcbaaGreatDoor.block Go.Proofs.YtkfjgmfokpgcbaaGreatDoor.enc Go.Proofs.YtkfjgmfokpgcbaaGreatDoor.code

/-- The bytes of a number. -/
def encI (x : Int) : List UInt8 := enc x.toNat
/-- The bytes of numbers. -/
def encs : List Int → List UInt8
  | [] => []
  | x :: l => encI x ++ encs l
theorem encs_snoc (l : List Int) (x : Int) : encs (l ++ [x]) = encs l ++ encI x := by
  induction l with
  | nil => simp [encs]
  | cons y l ih => simp [encs, ih]
theorem len_encI (x : Int) : (encI x).length ≤ 10 := by have := len_enc x.toNat; exact this
theorem len_encs (l : List Int) : (encs l).length ≤ 10 * l.length := by
  induction l with
  | nil => simp [encs]
  | cons y l ih => have := len_encI y; simp [encs]; omega
def wrtL (t : Tm) : List UInt8 := encI t.d ++ encs (cnt t)
def wrtV (t : Tm) : List UInt8 := if chk t = 0 then wrtL t else []
theorem num_i (a : Int) (h0 : 0 ≤ a) (h1 : a ≤ 18446744073709551615) (w : World) : Calls Tryz.prog 28 #[.int .u64 a] w fun e w' => e = .returned (.string ⟨(encI a).toArray⟩) ∧ Below w.heap.size w w' := numI_any a h0 h1 w
theorem str_cat (l m : List UInt8) : (⟨l.toArray⟩ : ByteArray) ++ ⟨m.toArray⟩ = ⟨(l ++ m).toArray⟩ := ByteArray.ext (by simp)
theorem cnt_len {t : Tm} (_h0 : 0 ≤ t.d) (_h1 : t.d ≤ 3) : (cnt t).length ≤ 4 := by
  unfold cnt
  split
  · simp
  · split
    · simp
    · split <;> simp
theorem cnt_in {t : Tm} (i : t.In) : ∀ x ∈ cnt t, 0 ≤ x ∧ x ≤ 4294967295 := by
  have := i.e0; have := i.e1; have := i.a0; have := i.a1; have := i.b0; have := i.b1; have := i.c0; have := i.c1
  unfold cnt
  split
  · simp; omega
  · split
    · simp; omega
    · split
      · simp; omega
      · simp; omega
theorem write_bad (t : Tm) (i : t.In) (h : chk t ≠ 0) (w : World) : Calls Tryz.prog 26 #[.agg #[.int .u32 t.e, .int .i64 t.d, .int .u32 t.a, .int .u32 t.b, .int .u32 t.c]] w fun e w' => e = .returned (.tuple #[.string ⟨#[]⟩, .int .i64 (chk t)]) ∧ Below w.heap.size w w' := by
  generalize hE : chk t = E at h
  have h' : (E != 0) = true := by simpa using h
  clear h
  have HE := Lib.hid hE
  clear hE
  go_enter Tryz.func26, Tryz.ntmps26
  go_wp2_with fail
  refine (check_is _ i HE.out _).mono ?_
  rintro e w1 ⟨rfl, b1⟩
  go_wp2
  go_ret2
  exact ⟨rfl, over1 b1⟩
theorem facts5' {w : World} {g : Nat} {a b c d e : Value} (h : Whole w g 41 #[a, b, c, d, e]) :
    w.cell? ⟨g, 0, none⟩ = some a ∧ w.cell? ⟨g, 1, none⟩ = some b ∧ w.cell? ⟨g, 2, none⟩ = some c ∧ w.cell? ⟨g, 3, none⟩ = some d ∧ w.cell? ⟨g, 4, none⟩ = some e ∧
    w.frozen? ⟨g, 0, none⟩ = false ∧ w.frozen? ⟨g, 1, none⟩ = false ∧ w.frozen? ⟨g, 2, none⟩ = false ∧ w.frozen? ⟨g, 3, none⟩ = false ∧ w.frozen? ⟨g, 4, none⟩ = false :=
  ⟨h.read 0, h.read 1, h.read 2, h.read 3, h.read 4, h.soft 0, h.soft 1, h.soft 2, h.soft 3, h.soft 4⟩
theorem str_ret2 {a b : ByteArray} {x : Int} (h : a = b) : Ending.returned (.tuple #[.string a, .int .i64 x]) = .returned (.tuple #[.string b, .int .i64 x]) := by rw [h]
set_option maxRecDepth 100000 in
set_option maxHeartbeats 1000000 in
theorem write_good (t : Tm) (i : t.In) (h : chk t = 0) (w : World) : Calls Tryz.prog 26 #[.agg #[.int .u32 t.e, .int .i64 t.d, .int .u32 t.a, .int .u32 t.b, .int .u32 t.c]] w fun e w' => e = .returned (.tuple #[.string ⟨(wrtL t).toArray⟩, .int .i64 0]) ∧ Below w.heap.size w w' := by
  obtain ⟨z0, z1, -⟩ := chk_zero h
  have HE := Lib.hid h
  clear h
  have hcl := cnt_len z0 z1
  have HI := Lib.hid (cnt_in i)
  have HC := Lib.hid (fun W => counts_any t z0 z1 W)
  generalize hl : cnt t = l at hcl HI HC
  have HL := Lib.hid hl
  clear hl
  have hdl := len_encI t.d
  go_enter Tryz.func26, Tryz.ntmps26
  go_wp2_with fail
  refine (check_is _ i HE.out _).mono ?_
  rintro e w1 ⟨rfl, b1⟩
  clear i
  have h1 : Whole w1 w.heap.size 41 #[.int .u32 t.e, .int .i64 t.d, .int .u32 t.a, .int .u32 t.b, .int .u32 t.c] := (Whole.fresh w 41 _).below b1 (by simp)
  have v1 := over1 b1
  clear b1
  obtain ⟨aa0, aa1, aa2, aa3, aa4, aaf0, aaf1, aaf2, aaf3, aaf4⟩ := facts5' h1
  go_wp2_with fail
  refine (num_i _ (by omega) (by omega) _).mono ?_
  rintro e w2 ⟨rfl, b2⟩
  have h2 := h1.below b2 h1.inside
  have v2 := v1.trans (b2.mono v1.size)
  clear b2 aa0 aa1 aa2 aa3 aa4 aaf0 aaf1 aaf2 aaf3 aaf4 h1 v1
  obtain ⟨aa0, aa1, aa2, aa3, aa4, aaf0, aaf1, aaf2, aaf3, aaf4⟩ := facts5' h2
  go_wp2_with fail
  refine (HC.out _).mono ?_
  rintro e w3 ⟨b, cap, rfl, hown, b3⟩
  have v3 := v2.trans (b3.mono v2.size)
  clear b3 aa0 aa1 aa2 aa3 aa4 aaf0 aaf1 aaf2 aaf3 aaf4 h2 v2 HC
  go_wp2_with fail
  go_loopw [5, 20] (fun s i wr => ∃ k : Nat, k ≤ l.length ∧ i = .int .i64 k ∧ s = .string ⟨(encI t.d ++ encs (l.take k)).toArray⟩ ∧ Below w3.heap.size w3 wr) (fun _ i _ => l.length - (intOf i).toNat)
  case atStart => exact ⟨0, by omega, rfl, by simp [encs], Below.refl _ _⟩
  case round =>
    obtain ⟨k, hk, rfl, rfl, hb⟩ := hrel
    have hlen := len_encs (l.take k)
    rw [List.length_take] at hlen
    by_cases hkl : k < l.length
    · have hx := HI.out l[k] (List.getElem_mem hkl)
      have hc : wr.cell? ⟨b, k, none⟩ = some (.int .u32 l[k]) := by
        have h4 := hown.cellAt k (by omega)
        rw [List.getElem?_map, List.getElem?_eq_getElem hkl] at h4
        exact (hb.cell (p := ⟨b, k, none⟩) (World.block_lt_of_cell? w3 _ h4)).trans h4
      obtain ⟨x0, x1⟩ := hx
      have hsn : encs (l.take (k + 1)) = encs (l.take k) ++ encI l[k] := by rw [List.take_succ_eq_append_getElem hkl, encs_snoc]
      have HSN := Lib.hid hsn
      clear hsn
      generalize l[k] = x at hc x0 x1 HSN
      have hlx := len_encI x
      go_wp2_with fail
      refine (num_i _ (by omega) (by omega) _).mono ?_
      rintro e w4 ⟨rfl, b4⟩
      go_wp2
      go_roundw
      case rel => exact ⟨k + 1, by omega, by go_num, by rw [str_cat, HSN.out, List.append_assoc], hb.trans (b4.mono hb.size)⟩
      case measure => simp [intOf]; omega
    · go_wp2
      go_ret2
      exact ⟨str_ret2 (by rw [List.take_of_length_le (by omega), ← HL.out]; rfl), v3.trans (hb.mono v3.size)⟩
theorem since5 {W : World} {g : Nat} {a b c d e : Value} (h : Whole W g 41 #[a, b, c, d, e]) :
    (∀ x : Since W, x.1.cell? ⟨g, 0, none⟩ = some a) ∧ (∀ x : Since W, x.1.cell? ⟨g, 1, none⟩ = some b) ∧ (∀ x : Since W, x.1.cell? ⟨g, 2, none⟩ = some c) ∧ (∀ x : Since W, x.1.cell? ⟨g, 3, none⟩ = some d) ∧ (∀ x : Since W, x.1.cell? ⟨g, 4, none⟩ = some e) :=
  ⟨fun x => (h.below x.2 h.inside).read 0, fun x => (h.below x.2 h.inside).read 1, fun x => (h.below x.2 h.inside).read 2, fun x => (h.below x.2 h.inside).read 3, fun x => (h.below x.2 h.inside).read 4⟩
/-- The bytes of a time's front. -/
def wrp (t : Tm) : Nat → List UInt8
  | 0 => encI t.d ++ encI t.e
  | 1 => encI t.d ++ encI t.e ++ encI t.a
  | 2 => encI t.d ++ encI t.e ++ encI t.a ++ encI t.b
  | _ => encI t.d ++ encI t.e ++ encI t.a ++ encI t.b ++ encI t.c
theorem wrp_all {t : Tm} (h0 : 0 ≤ t.d) (h1 : t.d ≤ 3) : wrp t t.d.toNat = wrtL t := by
  obtain ⟨e, d, a, b, c⟩ := t
  dsimp only at *
  have hk : d = 0 ∨ d = 1 ∨ d = 2 ∨ d = 3 := by omega
  rcases hk with rfl | rfl | rfl | rfl <;> simp [wrp, wrtL, cnt, encs]
theorem len_wrp (t : Tm) (k : Nat) : (wrp t k).length ≤ 50 := by
  have := len_encI t.d; have := len_encI t.e; have := len_encI t.a; have := len_encI t.b; have := len_encI t.c
  unfold wrp
  split <;> simp <;> omega
theorem write_any (t : Tm) (i : t.In) (w : World) : Calls Tryz.prog 26 #[.agg #[.int .u32 t.e, .int .i64 t.d, .int .u32 t.a, .int .u32 t.b, .int .u32 t.c]] w fun e w' => e = .returned (.tuple #[.string ⟨(wrtV t).toArray⟩, .int .i64 (chk t)]) ∧ Below w.heap.size w w' := by
  by_cases h : chk t = 0
  · rw [show wrtV t = wrtL t by simp [wrtV, h], h]
    exact write_good t i h w
  · rw [show wrtV t = [] by simp [wrtV, h]]
    exact write_bad t i h w
end Go.Proofs.YtkfjgmfokpgcbaaGreatDoor.stamp
