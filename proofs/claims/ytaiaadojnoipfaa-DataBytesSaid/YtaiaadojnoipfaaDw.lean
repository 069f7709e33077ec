/-
  A batch in bytes, as mathematics: what is written, what is read, what is written is read.
-/
import Derived.Test.YtaiaadojnoipfaaDk
import Derived.Test.YtaiaadojnoipfaaRead
import Derived.Test.YtaiaadojnoipfaaMath
namespace Go.Proofs.Ytaiaadojnoipfaa.data
open Go.ChangeShapes Go.WideShapes Go.ChangeAt Go.RowKit
open Go.Proofs.Ytaiaadojnoipfaa.tm Go.Proofs.Ytaiaadojnoipfaa.opened Go.Proofs.Ytaiaadojnoipfaa.block Go.Proofs.Ytaiaadojnoipfaa.stamp Go.Proofs.Ytaiaadojnoipfaa.code Go.Proofs.Ytaiaadojnoipfaa.enc

abbrev Rq : Type := List UInt8 × Int
theorem stt_in (q : Rq) (k : Nat) : (stt q k).1.In := by
  obtain ⟨a0, a1, -⟩ := nx_bd q (m := 3) (by omega)
  obtain ⟨b0, b1, -⟩ := nx_bd (nx q 3).2 (m := 1048576) (by omega)
  obtain ⟨c0, c1, -⟩ := nx_bd (st0 q).2 (m := 1048576) (by omega)
  obtain ⟨d0, d1, -⟩ := nx_bd (st1 q).2 (m := 1048576) (by omega)
  obtain ⟨e0, e1, -⟩ := nx_bd (st2 q).2 (m := 1048576) (by omega)
  match k with
  | 0 => constructor <;> simp only [stt, st0] <;> omega
  | 1 => constructor <;> simp only [stt, st1, st0] at * <;> omega
  | 2 => constructor <;> simp only [stt, st2, st1, st0] at * <;> omega
  | _ + 3 => constructor <;> simp only [stt, st3, st2, st1, st0] at * <;> omega
theorem rdT_in (q : Rq) : (rdT q).In := by
  unfold rdT
  split
  · exact stt_in q _
  · constructor <;> decide
theorem chk_of {t : Tm} (h0 : 0 ≤ t.d) (h3 : t.d ≤ 3) (he : t.e ≤ 1048576) (ha : t.a ≤ 1048576) (hb : t.b ≤ 1048576) (hc : t.c ≤ 1048576) (za : t.d ≤ 0 → t.a = 0) (zb : t.d ≤ 1 → t.b = 0) (zc : t.d ≤ 2 → t.c = 0) : chk t = 0 := by
  unfold chk
  rw [if_neg (by omega), if_neg (by omega), if_neg (by omega)]
theorem stt_chk (q : Rq) : chk (stt q (nx q 3).1.toNat).1 = 0 := by
  obtain ⟨a0, a1, -⟩ := nx_bd q (m := 3) (by omega)
  obtain ⟨b0, b1, -⟩ := nx_bd (nx q 3).2 (m := 1048576) (by omega)
  obtain ⟨c0, c1, -⟩ := nx_bd (st0 q).2 (m := 1048576) (by omega)
  obtain ⟨d0, d1, -⟩ := nx_bd (st1 q).2 (m := 1048576) (by omega)
  obtain ⟨e0, e1, -⟩ := nx_bd (st2 q).2 (m := 1048576) (by omega)
  have hk : (nx q 3).1 = 0 ∨ (nx q 3).1 = 1 ∨ (nx q 3).1 = 2 ∨ (nx q 3).1 = 3 := by omega
  rcases hk with hk | hk | hk | hk <;> rw [hk] <;> refine chk_of ?_ ?_ ?_ ?_ ?_ ?_ ?_ ?_ ?_ <;> simp only [stt, st3, st2, st1, st0, Int.toNat_zero, Int.toNat_one, show (2 : Int).toNat = 2 from rfl, show (3 : Int).toNat = 3 from rfl] at * <;> first | omega | (intro; omega) | simp_all
theorem rdT_chk (q : Rq) : chk (rdT q) = 0 := by
  unfold rdT rdS
  split
  · exact stt_chk q
  · decide
/-- A number with a sign that is read. -/
def sg (q : Rq) : Int × Rq := (unzig (rNum q.1 q.2).1, q.1.drop (rNum q.1 q.2).2.1, (rNum q.1 q.2).2.2)
theorem sg_bd (q : Rq) : -9223372036854775808 ≤ (sg q).1 ∧ (sg q).1 ≤ 9223372036854775807 ∧ (sg q).2.1.length ≤ q.1.length := by
  have := rNum_bd q.1 q.2
  unfold sg unzig
  simp only [List.length_drop]
  refine ⟨?_, ?_, by omega⟩ <;> split <;> omega
theorem nx_enc {x m : Int} (h0 : 0 ≤ x) (hx : x ≤ m) (hm : m ≤ 1048576) (r : List UInt8) : nx (stamp.encI x ++ r, 0) m = (x, r, 0) := by
  have hd := dec_enc (v := x.toNat) (by omega) r
  have e : ((x.toNat : Nat) : Int) = x := Int.toNat_of_nonneg h0
  rw [e] at hd
  unfold nx rInt rNum stamp.encI
  simp only [if_true, hd]
  rw [if_neg (by omega)]
  simp
theorem rd_wrt {t : Tm} (it : t.In) (h : chk t = 0) (r : List UInt8) : rdT (wrtL t ++ r, 0) = t ∧ (rdS (wrtL t ++ r, 0)).2 = (r, 0) := by
  obtain ⟨d0, d3, he, ha, hb, hc, za, zb, zc⟩ := chk_zero h
  obtain ⟨e0, -, -, -, a0, -, b0, -, c0, -⟩ := it
  have E := fun s => nx_enc e0 he (Int.le_refl _) s
  have A := fun s => nx_enc a0 ha (Int.le_refl _) s
  have B := fun s => nx_enc b0 hb (Int.le_refl _) s
  have C := fun s => nx_enc c0 hc (Int.le_refl _) s
  have D := fun s => nx_enc d0 d3 (by omega) s
  obtain ⟨e, d, a, b, c⟩ := t
  dsimp only at *
  have key : rdS (wrtL ⟨e, d, a, b, c⟩ ++ r, 0) = ((⟨e, d, a, b, c⟩ : Tm), r, 0) := by
    have hk : d = 0 ∨ d = 1 ∨ d = 2 ∨ d = 3 := by omega
    rcases hk with rfl | rfl | rfl | rfl
    · rw [za (by omega), zb (by omega), zc (by omega)]
      simp [rdS, wrtL, cnt, encs, stt, st0, E, D, List.append_assoc]
    · rw [zb (by omega), zc (by omega)]
      simp [rdS, wrtL, cnt, encs, stt, st1, st0, E, D, A, List.append_assoc]
    · rw [zc (by omega)]
      simp [rdS, wrtL, cnt, encs, stt, st2, st1, st0, E, D, A, B, List.append_assoc]
    · simp [rdS, wrtL, cnt, encs, stt, st3, st2, st1, st0, E, D, A, B, C, List.append_assoc]
  unfold rdT
  rw [key]
  exact ⟨by simp, rfl⟩
theorem unzig_zig (v : Int) : unzig (zig v : Nat) = v := by
  unfold unzig zig
  by_cases h : 0 ≤ v
  · rw [if_pos h]
    have : (((2 * v).toNat : Nat) : Int) = 2 * v := Int.toNat_of_nonneg (by omega)
    rw [this, if_pos (by omega)]
    omega
  · rw [if_neg h]
    have : (((2 * (-(v + 1)) + 1).toNat : Nat) : Int) = 2 * (-(v + 1)) + 1 := Int.toNat_of_nonneg (by omega)
    rw [this, if_neg (by omega)]
    omega
theorem zig_lt {v : Int} (h0 : -9223372036854775808 ≤ v) (h1 : v ≤ 9223372036854775807) : zig v < 18446744073709551616 := by
  unfold zig
  split <;> omega
theorem sg_enc {v : Int} (h0 : -9223372036854775808 ≤ v) (h1 : v ≤ 9223372036854775807) (r : List UInt8) : sg (enc (zig v) ++ r, 0) = (v, r, 0) := by
  have hd := dec_enc (zig_lt h0 h1) r
  unfold sg rNum
  simp only [if_true, hd]
  rw [unzig_zig]
  simp
/-! ### What is written -/
def wrR (r : Rc) : List UInt8 := enc (zig r.k) ++ enc (zig r.v)
def wrH (l : Int) (t : Tm) (n : Nat) : List UInt8 := stamp.encI l ++ (wrtL t ++ stamp.encI (n : Int))
def wrB (l : Int) (t : Tm) (L : List Rc) : List UInt8 := wrH l t L.length ++ L.flatMap wrR
def wrV (l : Int) (t : Tm) (L : List Rc) : List UInt8 := if chkB l t L.length = 0 then wrB l t L else []
theorem wrR_len (r : Rc) : (wrR r).length ≤ 20 := by
  have h1 := len_enc (zig r.k)
  have h2 := len_enc (zig r.v)
  unfold wrR
  rw [List.length_append]
  omega
theorem wrRs_len : ∀ L : List Rc, (L.flatMap wrR).length ≤ 20 * L.length
  | [] => by simp
  | r :: L => by
    have := wrR_len r
    have := wrRs_len L
    simp only [List.flatMap_cons, List.length_append, List.length_cons]
    omega
theorem wrtL_len {t : Tm} (h : chk t = 0) : (wrtL t).length ≤ 50 := by
  obtain ⟨d0, d3, -⟩ := chk_zero h
  have h1 := stamp.len_encI t.d
  have h2 := len_encs (cnt t)
  have h3 := cnt_len d0 d3
  unfold wrtL
  rw [List.length_append]
  omega
theorem wrH_len {l : Int} {t : Tm} {n : Nat} (h : chk t = 0) : (wrH l t n).length ≤ 70 := by
  have h1 := stamp.len_encI l
  have h2 := wrtL_len h
  have h3 := stamp.len_encI (n : Int)
  unfold wrH
  simp only [List.length_append]
  omega
/-! ### What is read -/
/-- So many records read. -/
def rdR (q : Rq) : Nat → List Rc × Rq
  | 0 => ([], q)
  | n + 1 => ((rdR q n).1 ++ [⟨(sg (rdR q n).2).1, (sg (sg (rdR q n).2).2).1⟩], (sg (sg (rdR q n).2).2).2)
theorem rdR_len (q : Rq) : ∀ n, (rdR q n).1.length = n
  | 0 => rfl
  | n + 1 => by simp [rdR, rdR_len q n]
theorem rdR_left (q : Rq) : ∀ n, (rdR q n).2.1.length ≤ q.1.length
  | 0 => Nat.le_refl _
  | n + 1 => Nat.le_trans (sg_bd _).2.2 (Nat.le_trans (sg_bd _).2.2 (rdR_left q n))
theorem rdR_in (q : Rq) : ∀ n, InR (rdR q n).1
  | 0 => by intro r h; cases h
  | n + 1 => by
    intro r h
    rw [rdR, List.mem_append] at h
    rcases h with h | h
    · exact rdR_in q n r h
    · rw [List.mem_singleton] at h
      subst h
      exact ⟨⟨(sg_bd _).1, (sg_bd _).2.1⟩, ⟨(sg_bd _).1, (sg_bd _).2.1⟩⟩
def bL (q : Rq) : Int := (nx q 1000).1
def bT (q : Rq) : Tm := rdT (nx q 1000).2
def bQ1 (q : Rq) : Rq := (rdS (nx q 1000).2).2
def bN (q : Rq) : Nat := (nx (bQ1 q) 64).1.toNat
def bQ2 (q : Rq) : Rq := (nx (bQ1 q) 64).2
def bR (q : Rq) : List Rc := (rdR (bQ2 q) (bN q)).1
def bQ3 (q : Rq) : Rq := (rdR (bQ2 q) (bN q)).2
/-- The reader behind a batch. -/
def bQ (q : Rq) : Rq := if bN q = 0 then ((bQ3 q).1, rFail (bQ3 q).2 3) else bQ3 q
def bOk (q : Rq) : Bool := decide ((bQ q).2 = 0)
/-- What is read, as a batch. -/
def vL (q : Rq) : Int := if (bQ q).2 = 0 then bL q else 0
def vT (q : Rq) : Tm := if (bQ q).2 = 0 then bT q else T0
def vR (q : Rq) : List Rc := if (bQ q).2 = 0 then bR q else []
theorem bN_le (q : Rq) : bN q ≤ 64 := by
  have := nx_bd (bQ1 q) (m := 64) (by omega)
  unfold bN
  omega
theorem bQ1_len (q : Rq) : (bQ1 q).1.length ≤ q.1.length := Nat.le_trans (stt_len _ _) (nx_bd q (m := 1000) (by omega)).2.2
theorem bQ2_len (q : Rq) : (bQ2 q).1.length ≤ q.1.length := Nat.le_trans (nx_bd (bQ1 q) (m := 64) (by omega)).2.2 (bQ1_len q)
theorem bQ3_len (q : Rq) : (bQ3 q).1.length ≤ q.1.length := Nat.le_trans (rdR_left _ _) (bQ2_len q)
theorem bQ_len (q : Rq) : (bQ q).1.length ≤ q.1.length := by
  unfold bQ
  split
  · exact bQ3_len q
  · exact bQ3_len q
theorem bR_len (q : Rq) : (bR q).length = bN q := rdR_len _ _
theorem vR_len (q : Rq) : (vR q).length ≤ 64 := by
  unfold vR
  split
  · rw [bR_len]; exact bN_le q
  · simp
theorem vR_in (q : Rq) : InR (vR q) := by
  unfold vR
  split
  · exact rdR_in _ _
  · intro r h; cases h
theorem vT_in (q : Rq) : (vT q).In := by
  unfold vT
  split
  · exact rdT_in _
  · constructor <;> decide
/-! ### What was written is read -/
theorem rdR_wrt {L : List Rc} (h : InR L) (r : List UInt8) : ∀ k, k ≤ L.length → rdR (L.flatMap wrR ++ r, 0) k = (L.take k, (L.drop k).flatMap wrR ++ r, 0)
  | 0, _ => by simp [rdR]
  | k + 1, hk => by
    obtain ⟨x, hx, hm⟩ := get_ltR (show k < L.length by omega)
    have ix := h x hm
    rw [rdR, rdR_wrt h r k (by omega), drop_next hx, List.flatMap_cons]
    dsimp only
    rw [show wrR x ++ (L.drop (k + 1)).flatMap wrR ++ r = enc (zig x.k) ++ (enc (zig x.v) ++ ((L.drop (k + 1)).flatMap wrR ++ r)) by simp [wrR]]
    rw [sg_enc ix.1.1 ix.1.2]
    dsimp only
    rw [sg_enc ix.2.1 ix.2.2, take_next hx]
theorem rd_wrB {l : Int} {t : Tm} {L : List Rc} (it : t.In) (h : InR L) (hc : chkB l t L.length = 0) (r : List UInt8) :
    vL (wrB l t L ++ r, 0) = l ∧ vT (wrB l t L ++ r, 0) = t ∧ vR (wrB l t L ++ r, 0) = L ∧ bQ (wrB l t L ++ r, 0) = (r, 0) := by
  obtain ⟨l0, l1, ct, n1, n2⟩ := chkB_zero hc
  have e0 : wrB l t L ++ r = stamp.encI l ++ (wrtL t ++ (stamp.encI (L.length : Int) ++ (L.flatMap wrR ++ r))) := by simp [wrB, wrH]
  have e1 := nx_enc l0 l1 (by omega) (wrtL t ++ (stamp.encI (L.length : Int) ++ (L.flatMap wrR ++ r)))
  obtain ⟨e2, e3⟩ := rd_wrt it ct (stamp.encI (L.length : Int) ++ (L.flatMap wrR ++ r))
  have e4 := nx_enc (x := (L.length : Int)) (m := 64) (by omega) (by omega) (by omega) (L.flatMap wrR ++ r)
  have e5 := rdR_wrt h r L.length (Nat.le_refl _)
  rw [List.take_length, List.drop_length] at e5
  rw [e0]
  have k1 : bQ1 (stamp.encI l ++ (wrtL t ++ (stamp.encI (L.length : Int) ++ (L.flatMap wrR ++ r))), 0) = (stamp.encI (L.length : Int) ++ (L.flatMap wrR ++ r), 0) := by
    unfold bQ1
    rw [e1]
    exact e3
  have kT : bT (stamp.encI l ++ (wrtL t ++ (stamp.encI (L.length : Int) ++ (L.flatMap wrR ++ r))), 0) = t := by
    unfold bT
    rw [e1]
    exact e2
  have kL : bL (stamp.encI l ++ (wrtL t ++ (stamp.encI (L.length : Int) ++ (L.flatMap wrR ++ r))), 0) = l := by
    unfold bL
    rw [e1]
  generalize (stamp.encI l ++ (wrtL t ++ (stamp.encI (L.length : Int) ++ (L.flatMap wrR ++ r))), (0 : Int)) = q at k1 kT kL
  have k2 : bN q = L.length := by
    unfold bN
    rw [k1, e4]
    simp
  have k3 : bQ2 q = (L.flatMap wrR ++ r, 0) := by
    unfold bQ2
    rw [k1, e4]
  have k4 : bR q = L ∧ bQ3 q = (r, 0) := by
    unfold bR bQ3
    rw [k2, k3, e5]
    exact ⟨rfl, by simp⟩
  have k5 : bQ q = (r, 0) := by
    unfold bQ
    rw [if_neg (by omega)]
    exact k4.2
  unfold vL vT vR
  rw [k5]
  exact ⟨by simpa using kL, by simpa using kT, by simpa using k4.1, rfl⟩
end Go.Proofs.Ytaiaadojnoipfaa.data
