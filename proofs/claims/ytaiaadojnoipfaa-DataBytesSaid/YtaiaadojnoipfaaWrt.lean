/-
  The contracts of stamp.Write and watershedref04.Write.
-/
import Derived.Test.YtaiaadojnoipfaaCnt
import Derived.Test.YtaiaadojnoipfaaMv
import Derived.Test.YtaiaadojnoipfaaWrite
import Derived.Deep.QuietTactic
import Derived.BigQuiet
namespace Go.Proofs.Ytaiaadojnoipfaa.stamp
open Go.ChangeShapes Go.WideShapes Go.ChangeAt Go.RowKit
open Go.Proofs.Ytaiaadojnoipfaa.tm Go.Proofs.Ytaiaadojnoipfaa.opened Go.Proofs.Ytaiaadojnoipfaa.block Go.Proofs.Ytaiaadojnoipfaa.enc Go.Proofs.Ytaiaadojnoipfaa.code

/-- The bytes of a number. -/
def encI (x : Int) : List UInt8 := enc x.toNat
/-- The bytes of numbers. -/
def encs : List Int → List UInt8
  | [] => []
  | x :: l => encI x ++ encs l
theorem encs_snoc (l : List Int) (x : Int) : encs (l ++ [x]) = encs l ++ encI x := by
  induction l with
  | nil => simp [encs]
  | cons y l ih => simp [encs, ih]
theorem len_encI (x : Int) : (encI x).length ≤ 10 := by have := len_enc x.toNat; exact this
theorem len_encs (l : List Int) : (encs l).length ≤ 10 * l.length := by
  induction l with
  | nil => simp [encs]
  | cons y l ih => have := len_encI y; simp [encs]; omega
def wrtL (t : Tm) : List UInt8 := encI t.d ++ encs (cnt t)
def wrtV (t : Tm) : List UInt8 := if chk t = 0 then wrtL t else []
theorem num_i (a : Int) (h0 : 0 ≤ a) (h1 : a ≤ 18446744073709551615) (w : World) : Calls Try.prog 38 #[.int .u64 a] w fun e w' => e = .returned (.string ⟨(encI a).toArray⟩) ∧ Below w.heap.size w w' := numI_any a h0 h1 w
theorem numR_i (a : Int) (h0 : 0 ≤ a) (h1 : a ≤ 18446744073709551615) (w : World) : Calls Try.prog 42 #[.int .u64 a] w fun e w' => e = .returned (.string ⟨(encI a).toArray⟩) ∧ Below w.heap.size w w' := numRI_any a h0 h1 w
theorem str_cat (l m : List UInt8) : (⟨l.toArray⟩ : ByteArray) ++ ⟨m.toArray⟩ = ⟨(l ++ m).toArray⟩ := ByteArray.ext (by simp)
theorem cnt_len {t : Tm} (_h0 : 0 ≤ t.d) (_h1 : t.d ≤ 3) : (cnt t).length ≤ 4 := by
  unfold cnt
  split
  · simp
  · split
    · simp
    · split <;> simp
theorem cnt_in {t : Tm} (i : t.In) : ∀ x ∈ cnt t, 0 ≤ x ∧ x ≤ 4294967295 := by
  have := i.e0; have := i.e1; have := i.a0; have := i.a1; have := i.b0; have := i.b1; have := i.c0; have := i.c1
  unfold cnt
  split
  · simp; omega
  · split
    · simp; omega
    · split
      · simp; omega
      · simp; omega
theorem write_bad (t : Tm) (i : t.In) (h : chk t ≠ 0) (w : World) : Calls Try.prog 36 #[.agg #[.int .u32 t.e, .int .i64 t.d, .int .u32 t.a, .int .u32 t.b, .int .u32 t.c]] w fun e w' => e = .returned (.tuple #[.string ⟨#[]⟩, .int .i64 (chk t)]) ∧ Below w.heap.size w w' := by
  generalize hE : chk t = E at h
  have h' : (E != 0) = true := by simpa using h
  clear h
  have HE := Lib.hid hE
  clear hE
  go_enter Try.func36, Try.ntmps36
  go_wp2_with fail
  refine (check_is _ i HE.out _).mono ?_
  rintro e w1 ⟨rfl, b1⟩
  go_wp2
  go_ret2
  exact ⟨rfl, over1 b1⟩
theorem writeR_bad (t : Tm) (i : t.In) (h : chk t ≠ 0) (w : World) : Calls Try.prog 41 #[.agg #[.int .u32 t.e, .int .i64 t.d, .int .u32 t.a, .int .u32 t.b, .int .u32 t.c]] w fun e w' => e = .returned (.tuple #[.string ⟨#[]⟩, .int .i64 (chk t)]) ∧ Below w.heap.size w w' := by
  generalize hE : chk t = E at h
  have h' : (E != 0) = true := by simpa using h
  clear h
  have HE := Lib.hid hE
  clear hE
  go_enter Try.func41, Try.ntmps41
  go_wp2_with fail
  refine (checkR_is _ i HE.out _).mono ?_
  rintro e w1 ⟨rfl, b1⟩
  go_wp2
  go_ret2
  exact ⟨rfl, over1 b1⟩
theorem facts5' {w : World} {g : Nat} {a b c d e : Value} (h : Whole w g 35 #[a, b, c, d, e]) :
    w.cell? ⟨g, 0, none⟩ = some a ∧ w.cell? ⟨g, 1, none⟩ = some b ∧ w.cell? ⟨g, 2, none⟩ = some c ∧ w.cell? ⟨g, 3, none⟩ = some d ∧ w.cell? ⟨g, 4, none⟩ = some e ∧
    w.frozen? ⟨g, 0, none⟩ = false ∧ w.frozen? ⟨g, 1, none⟩ = false ∧ w.frozen? ⟨g, 2, none⟩ = false ∧ w.frozen? ⟨g, 3, none⟩ = false ∧ w.frozen? ⟨g, 4, none⟩ = false :=
  ⟨h.read 0, h.read 1, h.read 2, h.read 3, h.read 4, h.soft 0, h.soft 1, h.soft 2, h.soft 3, h.soft 4⟩
theorem str_ret2 {a b : ByteArray} {x : Int} (h : a = b) : Ending.returned (.tuple #[.string a, .int .i64 x]) = .returned (.tuple #[.string b, .int .i64 x]) := by rw [h]
set_option maxRecDepth 100000 in
set_option maxHeartbeats 1000000 in
theorem write_good (t : Tm) (i : t.In) (h : chk t = 0) (w : World) : Calls Try.prog 36 #[.agg #[.int .u32 t.e, .int .i64 t.d, .int .u32 t.a, .int .u32 t.b, .int .u32 t.c]] w fun e w' => e = .returned (.tuple #[.string ⟨(wrtL t).toArray⟩, .int .i64 0]) ∧ Below w.heap.size w w' := by
  obtain ⟨z0, z1, -⟩ := chk_zero h
  have HE := Lib.hid h
  clear h
  have hcl := cnt_len z0 z1
  have HI := Lib.hid (cnt_in i)
  have HC := Lib.hid (fun W => counts_any t z0 z1 W)
  generalize hl : cnt t = l at hcl HI HC
  have HL := Lib.hid hl
  clear hl
  have hdl := len_encI t.d
  go_enter Try.func36, Try.ntmps36
  go_wp2_with fail
  refine (check_is _ i HE.out _).mono ?_
  rintro e w1 ⟨rfl, b1⟩
  clear i
  have h1 : Whole w1 w.heap.size 35 #[.int .u32 t.e, .int .i64 t.d, .int .u32 t.a, .int .u32 t.b, .int .u32 t.c] := (Whole.fresh w 35 _).below b1 (by simp)
  have v1 := over1 b1
  clear b1
  obtain ⟨aa0, aa1, aa2, aa3, aa4, aaf0, aaf1, aaf2, aaf3, aaf4⟩ := facts5' h1
  go_wp2_with fail
  refine (num_i _ (by omega) (by omega) _).mono ?_
  rintro e w2 ⟨rfl, b2⟩
  have h2 := h1.below b2 h1.inside
  have v2 := v1.trans (b2.mono v1.size)
  clear b2 aa0 aa1 aa2 aa3 aa4 aaf0 aaf1 aaf2 aaf3 aaf4 h1 v1
  obtain ⟨aa0, aa1, aa2, aa3, aa4, aaf0, aaf1, aaf2, aaf3, aaf4⟩ := facts5' h2
  go_wp2_with fail
  refine (HC.out _).mono ?_
  rintro e w3 ⟨b, cap, rfl, hown, b3⟩
  have v3 := v2.trans (b3.mono v2.size)
  clear b3 aa0 aa1 aa2 aa3 aa4 aaf0 aaf1 aaf2 aaf3 aaf4 h2 v2 HC
  go_wp2_with fail
  go_loopw [5, 20] (fun s i wr => ∃ k : Nat, k ≤ l.length ∧ i = .int .i64 k ∧ s = .string ⟨(encI t.d ++ encs (l.take k)).toArray⟩ ∧ Below w3.heap.size w3 wr) (fun _ i _ => l.length - (intOf i).toNat)
  case atStart => exact ⟨0, by omega, rfl, by simp [encs], Below.refl _ _⟩
  case round =>
    obtain ⟨k, hk, rfl, rfl, hb⟩ := hrel
    have hlen := len_encs (l.take k)
    rw [List.length_take] at hlen
    by_cases hkl : k < l.length
    · have hx := HI.out l[k] (List.getElem_mem hkl)
      have hc : wr.cell? ⟨b, k, none⟩ = some (.int .u32 l[k]) := by
        have h4 := hown.cellAt k (by omega)
        rw [List.getElem?_map, List.getElem?_eq_getElem hkl] at h4
        exact (hb.cell (p := ⟨b, k, none⟩) (World.block_lt_of_cell? w3 _ h4)).trans h4
      obtain ⟨x0, x1⟩ := hx
      have hsn : encs (l.take (k + 1)) = encs (l.take k) ++ encI l[k] := by rw [List.take_succ_eq_append_getElem hkl, encs_snoc]
      have HSN := Lib.hid hsn
      clear hsn
      generalize l[k] = x at hc x0 x1 HSN
      have hlx := len_encI x
      go_wp2_with fail
      refine (num_i _ (by omega) (by omega) _).mono ?_
      rintro e w4 ⟨rfl, b4⟩
      go_wp2
      go_roundw
      case rel => exact ⟨k + 1, by omega, by go_num, by rw [str_cat, HSN.out, List.append_assoc], hb.trans (b4.mono hb.size)⟩
      case measure => simp [intOf]; omega
    · go_wp2
      go_ret2
      exact ⟨str_ret2 (by rw [List.take_of_length_le (by omega), ← HL.out]; rfl), v3.trans (hb.mono v3.size)⟩
theorem since5 {W : World} {g : Nat} {a b c d e : Value} (h : Whole W g 35 #[a, b, c, d, e]) :
    (∀ x : Since W, x.1.cell? ⟨g, 0, none⟩ = some a) ∧ (∀ x : Since W, x.1.cell? ⟨g, 1, none⟩ = some b) ∧ (∀ x : Since W, x.1.cell? ⟨g, 2, none⟩ = some c) ∧ (∀ x : Since W, x.1.cell? ⟨g, 3, none⟩ = some d) ∧ (∀ x : Since W, x.1.cell? ⟨g, 4, none⟩ = some e) :=
  ⟨fun x => (h.below x.2 h.inside).read 0, fun x => (h.below x.2 h.inside).read 1, fun x => (h.below x.2 h.inside).read 2, fun x => (h.below x.2 h.inside).read 3, fun x => (h.below x.2 h.inside).read 4⟩
/-- The bytes of a time's front. -/
def wrp (t : Tm) : Nat → List UInt8
  | 0 => encI t.d ++ encI t.e
  | 1 => encI t.d ++ encI t.e ++ encI t.a
  | 2 => encI t.d ++ encI t.e ++ encI t.a ++ encI t.b
  | _ => encI t.d ++ encI t.e ++ encI t.a ++ encI t.b ++ encI t.c
theorem wrp_all {t : Tm} (h0 : 0 ≤ t.d) (h1 : t.d ≤ 3) : wrp t t.d.toNat = wrtL t := by
  obtain ⟨e, d, a, b, c⟩ := t
  dsimp only at *
  have hk : d = 0 ∨ d = 1 ∨ d = 2 ∨ d = 3 := by omega
  rcases hk with rfl | rfl | rfl | rfl <;> simp [wrp, wrtL, cnt, encs]
theorem len_wrp (t : Tm) (k : Nat) : (wrp t k).length ≤ 50 := by
  have := len_encI t.d; have := len_encI t.e; have := len_encI t.a; have := len_encI t.b; have := len_encI t.c
  unfold wrp
  split <;> simp <;> omega
set_option maxRecDepth 100000 in
set_option maxHeartbeats 1000000 in
theorem writeR_good (t : Tm) (i : t.In) (h : chk t = 0) (w : World) : Calls Try.prog 41 #[.agg #[.int .u32 t.e, .int .i64 t.d, .int .u32 t.a, .int .u32 t.b, .int .u32 t.c]] w fun e w' => e = .returned (.tuple #[.string ⟨(wrtL t).toArray⟩, .int .i64 0]) ∧ Below w.heap.size w w' := by
  obtain ⟨z0, z1, -⟩ := chk_zero h
  have HE := Lib.hid h
  clear h
  obtain ⟨i0, i1, -, -, j0, j1, k0, k1, l0, l1⟩ := id i
  have hdl := len_encI t.d
  have hel := len_encI t.e
  have N1 := Lib.hid (fun W => numR_i t.d (by omega) (by omega) W)
  have N2 := Lib.hid (fun W => numR_i t.e (by omega) (by omega) W)
  go_enter Try.func41, Try.ntmps41
  go_wp2_with fail
  refine (checkR_is _ i HE.out _).mono ?_
  rintro e w1 ⟨rfl, b1⟩
  clear i
  have h1 : Whole w1 w.heap.size 35 #[.int .u32 t.e, .int .i64 t.d, .int .u32 t.a, .int .u32 t.b, .int .u32 t.c] := (Whole.fresh w 35 _).below b1 (by simp)
  have v1 := over1 b1
  clear b1
  generalize hg : w.heap.size = g at h1 v1 ⊢
  have HG := Lib.hid hg
  clear hg
  go_wp2_with fail
  obtain ⟨p0, p1, p2, p3, p4⟩ := since5 h1
  refine region_since w1 (by kernel_rfl) (by kernel_rfl) (Below.refl _ _) ?_
  repeat (go_big_quiet_step ((first | (go_at_call 42; with_reducible exact since_call N1.out _) | (go_at_call 42; with_reducible exact since_call N2.out _))))
  refine wpQuiet_nil ?_
  rintro w2 ⟨x, hw⟩
  have h2 : Whole w2 g 35 #[.int .u32 t.e, .int .i64 t.d, .int .u32 t.a, .int .u32 t.b, .int .u32 t.c] := hw ▸ h1.below x.2 h1.inside
  have v2 : Below g w w2 := hw ▸ v1.trans (x.2.mono (Nat.le_of_lt h1.inside))
  clear hw x h1 v1 p0 p1 p2 p3 p4 N1 N2
  go_wp2_with fail
  go_loopw [5, 6] (fun s i wr => ∃ k : Nat, (k : Int) ≤ t.d ∧ i = .int .i64 k ∧ s = .string ⟨(wrp t k).toArray⟩ ∧ Whole wr g 35 #[.int .u32 t.e, .int .i64 t.d, .int .u32 t.a, .int .u32 t.b, .int .u32 t.c] ∧ Below g w wr) (fun _ i _ => 3 - (intOf i).toNat)
  case atStart => exact ⟨0, z0, rfl, by rw [str_cat]; rfl, h2, v2⟩
  case round =>
    clear h2 v2
    obtain ⟨k, hk, rfl, rfl, ht, hb⟩ := hrel
    have hlen := len_wrp t k
    by_cases hkd : (k : Int) < t.d
    · obtain rfl | rfl | rfl : k = 0 ∨ k = 1 ∨ k = 2 := by omega
      · obtain ⟨aa0, aa1, aa2, aa3, aa4, aaf0, aaf1, aaf2, aaf3, aaf4⟩ := facts5' ht
        have hla := len_encI t.a
        go_wp2_with fail
        refine (numR_i t.a (by omega) (by omega) _).mono ?_
        rintro e w4 ⟨rfl, b4⟩
        clear aa0 aa1 aa2 aa3 aa4 aaf0 aaf1 aaf2 aaf3 aaf4
        have ht4 := ht.below b4 ht.inside
        go_wp2
        go_roundw
        case rel => exact ⟨1, by omega, by go_num, by rw [str_cat]; simp [wrp], ht4, hb.trans (b4.mono (Nat.le_of_lt ht.inside))⟩
        case measure => simp [intOf]
      · obtain ⟨aa0, aa1, aa2, aa3, aa4, aaf0, aaf1, aaf2, aaf3, aaf4⟩ := facts5' ht
        have hla := len_encI t.b
        go_wp2_with fail
        refine (numR_i t.b (by omega) (by omega) _).mono ?_
        rintro e w4 ⟨rfl, b4⟩
        clear aa0 aa1 aa2 aa3 aa4 aaf0 aaf1 aaf2 aaf3 aaf4
        have ht4 := ht.below b4 ht.inside
        go_wp2
        go_roundw
        case rel => exact ⟨2, by omega, by go_num, by rw [str_cat]; simp [wrp], ht4, hb.trans (b4.mono (Nat.le_of_lt ht.inside))⟩
        case measure => simp [intOf]
      · obtain ⟨aa0, aa1, aa2, aa3, aa4, aaf0, aaf1, aaf2, aaf3, aaf4⟩ := facts5' ht
        have hla := len_encI t.c
        go_wp2_with fail
        refine (numR_i t.c (by omega) (by omega) _).mono ?_
        rintro e w4 ⟨rfl, b4⟩
        clear aa0 aa1 aa2 aa3 aa4 aaf0 aaf1 aaf2 aaf3 aaf4
        have ht4 := ht.below b4 ht.inside
        go_wp2
        go_roundw
        case rel => exact ⟨3, by omega, by go_num, by rw [str_cat]; simp [wrp], ht4, hb.trans (b4.mono (Nat.le_of_lt ht.inside))⟩
        case measure => simp [intOf]
    · have hkk : k = t.d.toNat := by omega
      have HK := Lib.hid hkk
      clear hkk
      obtain ⟨aa0, aa1, aa2, aa3, aa4, aaf0, aaf1, aaf2, aaf3, aaf4⟩ := facts5' ht
      go_wp2
      go_ret2
      exact ⟨str_ret2 (by rw [HK.out, wrp_all z0 z1]), by have := HG.out; subst this; exact hb⟩
theorem write_any (t : Tm) (i : t.In) (w : World) : Calls Try.prog 36 #[.agg #[.int .u32 t.e, .int .i64 t.d, .int .u32 t.a, .int .u32 t.b, .int .u32 t.c]] w fun e w' => e = .returned (.tuple #[.string ⟨(wrtV t).toArray⟩, .int .i64 (chk t)]) ∧ Below w.heap.size w w' := by
  by_cases h : chk t = 0
  · rw [show wrtV t = wrtL t by simp [wrtV, h], h]
    exact write_good t i h w
  · rw [show wrtV t = [] by simp [wrtV, h]]
    exact write_bad t i h w
theorem writeR_any (t : Tm) (i : t.In) (w : World) : Calls Try.prog 41 #[.agg #[.int .u32 t.e, .int .i64 t.d, .int .u32 t.a, .int .u32 t.b, .int .u32 t.c]] w fun e w' => e = .returned (.tuple #[.string ⟨(wrtV t).toArray⟩, .int .i64 (chk t)]) ∧ Below w.heap.size w w' := by
  by_cases h : chk t = 0
  · rw [show wrtV t = wrtL t by simp [wrtV, h], h]
    exact writeR_good t i h w
  · rw [show wrtV t = [] by simp [wrtV, h]]
    exact writeR_bad t i h w
end Go.Proofs.Ytaiaadojnoipfaa.stamp
