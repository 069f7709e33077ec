/-
  A batch in bytes, as mathematics: what is written, what is read, what is written is read.
  The contract of data.Write (by gen_wr.py).
-/
import Derived.Test.YtkfjgmfokpgcbaaGreatDoorJDk
import Derived.Test.YtkfjgmfokpgcbaaGreatDoorJRdA2
import Derived.Test.YtkfjgmfokpgcbaaGreatDoorJMath
import Derived.Test.YtkfjgmfokpgcbaaGreatDoorJDBl
import Derived.Test.YtkfjgmfokpgcbaaGreatDoorJDg
import Derived.Test.YtkfjgmfokpgcbaaGreatDoorJMv
import Derived.Handy
import Derived.BigQuiet
import Derived.Deep.CutBlock
namespace Go.Proofs.YtkfjgmfokpgcbaaGreatDoor.data
open Go.ChangeShapes Go.WideShapes Go.ChangeAt Go.RowKit
open Go.Proofs.YtkfjgmfokpgcbaaGreatDoor.tm Go.Proofs.YtkfjgmfokpgcbaaGreatDoor.opened Go.Proofs.YtkfjgmfokpgcbaaGreatDoor.block Go.Proofs.YtkfjgmfokpgcbaaGreatDoor.stamp Go.Proofs.YtkfjgmfokpgcbaaGreatDoor.code Go.Proofs.YtkfjgmfokpgcbaaGreatDoor.enc

abbrev Rq : Type := List UInt8 × Int
theorem stt_in (q : Rq) (k : Nat) : (stt q k).1.In := by
  obtain ⟨a0, a1, -⟩ := nx_bd q (m := 3) (by omega)
  obtain ⟨b0, b1, -⟩ := nx_bd (nx q 3).2 (m := 1048576) (by omega)
  obtain ⟨c0, c1, -⟩ := nx_bd (st0 q).2 (m := 1048576) (by omega)
  obtain ⟨d0, d1, -⟩ := nx_bd (st1 q).2 (m := 1048576) (by omega)
  obtain ⟨e0, e1, -⟩ := nx_bd (st2 q).2 (m := 1048576) (by omega)
  match k with
  | 0 => constructor <;> simp only [stt, st0] <;> omega
  | 1 => constructor <;> simp only [stt, st1, st0] at * <;> omega
  | 2 => constructor <;> simp only [stt, st2, st1, st0] at * <;> omega
  | _ + 3 => constructor <;> simp only [stt, st3, st2, st1, st0] at * <;> omega
theorem rdT_in (q : Rq) : (rdT q).In := by
  unfold rdT
  split
  · exact stt_in q _
  · constructor <;> decide
theorem chk_of {t : Tm} (h0 : 0 ≤ t.d) (h3 : t.d ≤ 3) (he : t.e ≤ 1048576) (ha : t.a ≤ 1048576) (hb : t.b ≤ 1048576) (hc : t.c ≤ 1048576) (za : t.d ≤ 0 → t.a = 0) (zb : t.d ≤ 1 → t.b = 0) (zc : t.d ≤ 2 → t.c = 0) : chk t = 0 := by
  unfold chk
  rw [if_neg (by omega), if_neg (by omega), if_neg (by omega)]
theorem stt_chk (q : Rq) : chk (stt q (nx q 3).1.toNat).1 = 0 := by
  obtain ⟨a0, a1, -⟩ := nx_bd q (m := 3) (by omega)
  obtain ⟨b0, b1, -⟩ := nx_bd (nx q 3).2 (m := 1048576) (by omega)
  obtain ⟨c0, c1, -⟩ := nx_bd (st0 q).2 (m := 1048576) (by omega)
  obtain ⟨d0, d1, -⟩ := nx_bd (st1 q).2 (m := 1048576) (by omega)
  obtain ⟨e0, e1, -⟩ := nx_bd (st2 q).2 (m := 1048576) (by omega)
  have hk : (nx q 3).1 = 0 ∨ (nx q 3).1 = 1 ∨ (nx q 3).1 = 2 ∨ (nx q 3).1 = 3 := by omega
  rcases hk with hk | hk | hk | hk <;> rw [hk] <;> refine chk_of ?_ ?_ ?_ ?_ ?_ ?_ ?_ ?_ ?_ <;> simp only [stt, st3, st2, st1, st0, Int.toNat_zero, Int.toNat_one, show (2 : Int).toNat = 2 from rfl, show (3 : Int).toNat = 3 from rfl] at * <;> first | omega | (intro; omega) | simp_all
theorem rdT_chk (q : Rq) : chk (rdT q) = 0 := by
  unfold rdT rdS
  split
  · exact stt_chk q
  · decide
/-- A number with a sign that is read. -/
def sg (q : Rq) : Int × Rq := (unzig (rNum q.1 q.2).1, q.1.drop (rNum q.1 q.2).2.1, (rNum q.1 q.2).2.2)
theorem sg_bd (q : Rq) : -9223372036854775808 ≤ (sg q).1 ∧ (sg q).1 ≤ 9223372036854775807 ∧ (sg q).2.1.length ≤ q.1.length := by
  have := rNum_bd q.1 q.2
  unfold sg unzig
  simp only [List.length_drop]
  refine ⟨?_, ?_, by omega⟩ <;> split <;> omega
theorem nx_enc {x m : Int} (h0 : 0 ≤ x) (hx : x ≤ m) (hm : m ≤ 1048576) (r : List UInt8) : nx (stamp.encI x ++ r, 0) m = (x, r, 0) := by
  have hd := dec_enc (v := x.toNat) (by omega) r
  have e : ((x.toNat : Nat) : Int) = x := Int.toNat_of_nonneg h0
  rw [e] at hd
  unfold nx rInt rNum stamp.encI
  simp only [if_true, hd]
  rw [if_neg (by omega)]
  simp
theorem rd_wrt {t : Tm} (it : t.In) (h : chk t = 0) (r : List UInt8) : rdT (wrtL t ++ r, 0) = t ∧ (rdS (wrtL t ++ r, 0)).2 = (r, 0) := by
  obtain ⟨d0, d3, he, ha, hb, hc, za, zb, zc⟩ := chk_zero h
  obtain ⟨e0, -, -, -, a0, -, b0, -, c0, -⟩ := it
  have E := fun s => nx_enc e0 he (Int.le_refl _) s
  have A := fun s => nx_enc a0 ha (Int.le_refl _) s
  have B := fun s => nx_enc b0 hb (Int.le_refl _) s
  have C := fun s => nx_enc c0 hc (Int.le_refl _) s
  have D := fun s => nx_enc d0 d3 (by omega) s
  obtain ⟨e, d, a, b, c⟩ := t
  dsimp only at *
  have key : rdS (wrtL ⟨e, d, a, b, c⟩ ++ r, 0) = ((⟨e, d, a, b, c⟩ : Tm), r, 0) := by
    have hk : d = 0 ∨ d = 1 ∨ d = 2 ∨ d = 3 := by omega
    rcases hk with rfl | rfl | rfl | rfl
    · rw [za (by omega), zb (by omega), zc (by omega)]
      simp [rdS, wrtL, cnt, encs, stt, st0, E, D, List.append_assoc]
    · rw [zb (by omega), zc (by omega)]
      simp [rdS, wrtL, cnt, encs, stt, st1, st0, E, D, A, List.append_assoc]
    · rw [zc (by omega)]
      simp [rdS, wrtL, cnt, encs, stt, st2, st1, st0, E, D, A, B, List.append_assoc]
    · simp [rdS, wrtL, cnt, encs, stt, st3, st2, st1, st0, E, D, A, B, C, List.append_assoc]
  unfold rdT
  rw [key]
  exact ⟨by simp, rfl⟩
theorem unzig_zig (v : Int) : unzig (zig v : Nat) = v := by
  unfold unzig zig
  by_cases h : 0 ≤ v
  · rw [if_pos h]
    have : (((2 * v).toNat : Nat) : Int) = 2 * v := Int.toNat_of_nonneg (by omega)
    rw [this, if_pos (by omega)]
    omega
  · rw [if_neg h]
    have : (((2 * (-(v + 1)) + 1).toNat : Nat) : Int) = 2 * (-(v + 1)) + 1 := Int.toNat_of_nonneg (by omega)
    rw [this, if_neg (by omega)]
    omega
theorem zig_lt {v : Int} (h0 : -9223372036854775808 ≤ v) (h1 : v ≤ 9223372036854775807) : zig v < 18446744073709551616 := by
  unfold zig
  split <;> omega
theorem sg_enc {v : Int} (h0 : -9223372036854775808 ≤ v) (h1 : v ≤ 9223372036854775807) (r : List UInt8) : sg (enc (zig v) ++ r, 0) = (v, r, 0) := by
  have hd := dec_enc (zig_lt h0 h1) r
  unfold sg rNum
  simp only [if_true, hd]
  rw [unzig_zig]
  simp
/-! ### What is written -/
def wrR (r : Rc) : List UInt8 := enc (zig r.k) ++ enc (zig r.v)
def wrH (l : Int) (t : Tm) (n : Nat) : List UInt8 := stamp.encI l ++ (wrtL t ++ stamp.encI (n : Int))
def wrB (l : Int) (t : Tm) (L : List Rc) : List UInt8 := wrH l t L.length ++ L.flatMap wrR
def wrV (l : Int) (t : Tm) (L : List Rc) : List UInt8 := if chkB l t L.length = 0 then wrB l t L else []
theorem wrR_len (r : Rc) : (wrR r).length ≤ 20 := by
  have h1 := len_enc (zig r.k)
  have h2 := len_enc (zig r.v)
  unfold wrR
  rw [List.length_append]
  omega
theorem wrRs_len : ∀ L : List Rc, (L.flatMap wrR).length ≤ 20 * L.length
  | [] => by simp
  | r :: L => by
    have := wrR_len r
    have := wrRs_len L
    simp only [List.flatMap_cons, List.length_append, List.length_cons]
    omega
theorem wrtL_len {t : Tm} (h : chk t = 0) : (wrtL t).length ≤ 50 := by
  obtain ⟨d0, d3, -⟩ := chk_zero h
  have h1 := stamp.len_encI t.d
  have h2 := len_encs (cnt t)
  have h3 := cnt_len d0 d3
  unfold wrtL
  rw [List.length_append]
  omega
theorem wrH_len {l : Int} {t : Tm} {n : Nat} (h : chk t = 0) : (wrH l t n).length ≤ 70 := by
  have h1 := stamp.len_encI l
  have h2 := wrtL_len h
  have h3 := stamp.len_encI (n : Int)
  unfold wrH
  simp only [List.length_append]
  omega
/-! ### What is read -/
/-- So many records read. -/
def rdR (q : Rq) : Nat → List Rc × Rq
  | 0 => ([], q)
  | n + 1 => ((rdR q n).1 ++ [⟨(sg (rdR q n).2).1, (sg (sg (rdR q n).2).2).1⟩], (sg (sg (rdR q n).2).2).2)
theorem rdR_len (q : Rq) : ∀ n, (rdR q n).1.length = n
  | 0 => rfl
  | n + 1 => by simp [rdR, rdR_len q n]
theorem rdR_left (q : Rq) : ∀ n, (rdR q n).2.1.length ≤ q.1.length
  | 0 => Nat.le_refl _
  | n + 1 => Nat.le_trans (sg_bd _).2.2 (Nat.le_trans (sg_bd _).2.2 (rdR_left q n))
theorem rdR_in (q : Rq) : ∀ n, InR (rdR q n).1
  | 0 => by intro r h; cases h
  | n + 1 => by
    intro r h
    rw [rdR, List.mem_append] at h
    rcases h with h | h
    · exact rdR_in q n r h
    · rw [List.mem_singleton] at h
      subst h
      exact ⟨⟨(sg_bd _).1, (sg_bd _).2.1⟩, ⟨(sg_bd _).1, (sg_bd _).2.1⟩⟩
def bL (q : Rq) : Int := (nx q 1000).1
def bT (q : Rq) : Tm := rdT (nx q 1000).2
def bQ1 (q : Rq) : Rq := (rdS (nx q 1000).2).2
def bN (q : Rq) : Nat := (nx (bQ1 q) 64).1.toNat
def bQ2 (q : Rq) : Rq := (nx (bQ1 q) 64).2
def bR (q : Rq) : List Rc := (rdR (bQ2 q) (bN q)).1
def bQ3 (q : Rq) : Rq := (rdR (bQ2 q) (bN q)).2
/-- The reader behind a batch. -/
def bQ (q : Rq) : Rq := if bN q = 0 then ((bQ3 q).1, rFail (bQ3 q).2 3) else bQ3 q
def bOk (q : Rq) : Bool := decide ((bQ q).2 = 0)
/-- What is read, as a batch. -/
def vL (q : Rq) : Int := if (bQ q).2 = 0 then bL q else 0
def vT (q : Rq) : Tm := if (bQ q).2 = 0 then bT q else T0
def vR (q : Rq) : List Rc := if (bQ q).2 = 0 then bR q else []
theorem bN_le (q : Rq) : bN q ≤ 64 := by
  have := nx_bd (bQ1 q) (m := 64) (by omega)
  unfold bN
  omega
theorem bQ1_len (q : Rq) : (bQ1 q).1.length ≤ q.1.length := Nat.le_trans (stt_len _ _) (nx_bd q (m := 1000) (by omega)).2.2
theorem bQ2_len (q : Rq) : (bQ2 q).1.length ≤ q.1.length := Nat.le_trans (nx_bd (bQ1 q) (m := 64) (by omega)).2.2 (bQ1_len q)
theorem bQ3_len (q : Rq) : (bQ3 q).1.length ≤ q.1.length := Nat.le_trans (rdR_left _ _) (bQ2_len q)
theorem bQ_len (q : Rq) : (bQ q).1.length ≤ q.1.length := by
  unfold bQ
  split
  · exact bQ3_len q
  · exact bQ3_len q
theorem bR_len (q : Rq) : (bR q).length = bN q := rdR_len _ _
theorem vR_len (q : Rq) : (vR q).length ≤ 64 := by
  unfold vR
  split
  · rw [bR_len]; exact bN_le q
  · simp
theorem vR_in (q : Rq) : InR (vR q) := by
  unfold vR
  split
  · exact rdR_in _ _
  · intro r h; cases h
theorem vT_in (q : Rq) : (vT q).In := by
  unfold vT
  split
  · exact rdT_in _
  · constructor <;> decide
/-! ### What was written is read -/
theorem rdR_wrt {L : List Rc} (h : InR L) (r : List UInt8) : ∀ k, k ≤ L.length → rdR (L.flatMap wrR ++ r, 0) k = (L.take k, (L.drop k).flatMap wrR ++ r, 0)
  | 0, _ => by simp [rdR]
  | k + 1, hk => by
    obtain ⟨x, hx, hm⟩ := get_ltR (show k < L.length by omega)
    have ix := h x hm
    rw [rdR, rdR_wrt h r k (by omega), drop_next hx, List.flatMap_cons]
    dsimp only
    rw [show wrR x ++ (L.drop (k + 1)).flatMap wrR ++ r = enc (zig x.k) ++ (enc (zig x.v) ++ ((L.drop (k + 1)).flatMap wrR ++ r)) by simp [wrR]]
    rw [sg_enc ix.1.1 ix.1.2]
    dsimp only
    rw [sg_enc ix.2.1 ix.2.2, take_next hx]
theorem rd_wrB {l : Int} {t : Tm} {L : List Rc} (it : t.In) (h : InR L) (hc : chkB l t L.length = 0) (r : List UInt8) :
    vL (wrB l t L ++ r, 0) = l ∧ vT (wrB l t L ++ r, 0) = t ∧ vR (wrB l t L ++ r, 0) = L ∧ bQ (wrB l t L ++ r, 0) = (r, 0) := by
  obtain ⟨l0, l1, ct, n1, n2⟩ := chkB_zero hc
  have e0 : wrB l t L ++ r = stamp.encI l ++ (wrtL t ++ (stamp.encI (L.length : Int) ++ (L.flatMap wrR ++ r))) := by simp [wrB, wrH]
  have e1 := nx_enc l0 l1 (by omega) (wrtL t ++ (stamp.encI (L.length : Int) ++ (L.flatMap wrR ++ r)))
  obtain ⟨e2, e3⟩ := rd_wrt it ct (stamp.encI (L.length : Int) ++ (L.flatMap wrR ++ r))
  have e4 := nx_enc (x := (L.length : Int)) (m := 64) (by omega) (by omega) (by omega) (L.flatMap wrR ++ r)
  have e5 := rdR_wrt h r L.length (Nat.le_refl _)
  rw [List.take_length, List.drop_length] at e5
  rw [e0]
  have k1 : bQ1 (stamp.encI l ++ (wrtL t ++ (stamp.encI (L.length : Int) ++ (L.flatMap wrR ++ r))), 0) = (stamp.encI (L.length : Int) ++ (L.flatMap wrR ++ r), 0) := by
    unfold bQ1
    rw [e1]
    exact e3
  have kT : bT (stamp.encI l ++ (wrtL t ++ (stamp.encI (L.length : Int) ++ (L.flatMap wrR ++ r))), 0) = t := by
    unfold bT
    rw [e1]
    exact e2
  have kL : bL (stamp.encI l ++ (wrtL t ++ (stamp.encI (L.length : Int) ++ (L.flatMap wrR ++ r))), 0) = l := by
    unfold bL
    rw [e1]
  generalize (stamp.encI l ++ (wrtL t ++ (stamp.encI (L.length : Int) ++ (L.flatMap wrR ++ r))), (0 : Int)) = q at k1 kT kL
  have k2 : bN q = L.length := by
    unfold bN
    rw [k1, e4]
    simp
  have k3 : bQ2 q = (L.flatMap wrR ++ r, 0) := by
    unfold bQ2
    rw [k1, e4]
  have k4 : bR q = L ∧ bQ3 q = (r, 0) := by
    unfold bR bQ3
    rw [k2, k3, e5]
    exact ⟨rfl, by simp⟩
  have k5 : bQ q = (r, 0) := by
    unfold bQ
    rw [if_neg (by omega)]
    exact k4.2
  unfold vL vT vR
  rw [k5]
  exact ⟨by simpa using kL, by simpa using kT, by simpa using k4.1, rfl⟩
end Go.Proofs.YtkfjgmfokpgcbaaGreatDoor.data
namespace Go.Proofs.YtkfjgmfokpgcbaaGreatDoor.data
open Go.ChangeShapes Go.WideShapes Go.ChangeAt Go.RowKit
open Go.Proofs.YtkfjgmfokpgcbaaGreatDoor.tm Go.Proofs.YtkfjgmfokpgcbaaGreatDoor.opened Go.Proofs.YtkfjgmfokpgcbaaGreatDoor.block Go.Proofs.YtkfjgmfokpgcbaaGreatDoor.region Go.Proofs.YtkfjgmfokpgcbaaGreatDoor.stamp Go.Proofs.YtkfjgmfokpgcbaaGreatDoor.code Go.Proofs.YtkfjgmfokpgcbaaGreatDoor.enc
set_option maxRecDepth 100000 in
theorem writeB_bad (l : Int) (t : Tm) (i : t.In) (L : List Rc) (A : Option Addr) (c : Nat) (h : chkB l t L.length ≠ 0) (w : World) :
    Calls Tryz.prog 13 #[.agg #[.int .i64 l, .int .u32 t.e, .int .i64 t.d, .int .u32 t.a, .int .u32 t.b, .int .u32 t.c, .slice A L.length c]] w fun e w' => e = .returned (.tuple #[.string ⟨#[]⟩, .int .i64 (chkB l t L.length)]) ∧ Below w.heap.size w w' := by
  have CC := Lib.hid (check_any l t i A L.length c)
  generalize chkB l t L.length = x at CC h ⊢
  have e1 : (x != 0) = true := by simpa using h
  have B0 := Lib.hid (fresh0 w)
  clear h
  go_enter Tryz.func13, Tryz.ntmps13
  go_wp2_with fail
  refine (CC.out _).mono ?_
  rintro e w1 ⟨rfl, b1⟩
  have B1 := Lib.hid ((B0.out _).trans (b1.mono (by simp)))
  clear b1
  go_wp2_with fail
  go_ret2
  exact ⟨rfl, B1.out⟩
set_option maxRecDepth 100000 in
set_option maxHeartbeats 8000000 in
theorem writeB_good (l : Int) (t : Tm) (i : t.In) (L : List Rc) (iL : InR L) (A : Option Addr) (c : Nat) (h : chkB l t L.length = 0) (w : World) (hL : Lr w A L) :
    Calls Tryz.prog 13 #[.agg #[.int .i64 l, .int .u32 t.e, .int .i64 t.d, .int .u32 t.a, .int .u32 t.b, .int .u32 t.c, .slice A L.length c]] w fun e w' => e = .returned (.tuple #[sB (wrB l t L), .int .i64 0]) ∧ Below w.heap.size w w' := by
  obtain ⟨l0, l1, ct, n1, n2⟩ := chkB_zero h
  have CC := Lib.hid (check_any l t i A L.length c)
  have CW := Lib.hid (fun w0 => stamp.write_any t i w0)
  have CN1 := Lib.hid (fun w0 => stamp.num_i l l0 (by omega) w0)
  have CN3 := Lib.hid (fun w0 => stamp.num_i (L.length : Int) (by omega) (by omega) w0)
  have hcl : IntKind.u64.wrap l = l := by rw [IntKind.wrap_u64]; omega
  have hcn : IntKind.u64.wrap (L.length : Int) = (L.length : Int) := by rw [IntKind.wrap_u64]; omega
  rw [h] at CC
  rw [ct, show wrtV t = wrtL t by unfold wrtV; rw [if_pos ct]] at CW
  have e1 := stamp.len_encI l
  have e2 := wrtL_len ct
  have e3 := stamp.len_encI (L.length : Int)
  have HW : Hid (wrB l t L = (stamp.encI l ++ wrtL t ++ stamp.encI (L.length : Int)) ++ L.flatMap wrR) := Lib.hid (by simp [wrB, wrH])
  have HL := Lib.hid hL
  have B0 := Lib.hid (fresh0 w (.cells #[.int .i64 l, .int .u32 t.e, .int .i64 t.d, .int .u32 t.a, .int .u32 t.b, .int .u32 t.c, .slice A L.length c] 46))
  have W0 := Lib.hid (Whole.fresh w 46 #[.int .i64 l, .int .u32 t.e, .int .i64 t.d, .int .u32 t.a, .int .u32 t.b, .int .u32 t.c, .slice A L.length c])
  clear hL h ct
  generalize stamp.encI l = s1 at CN1 e1 HW
  generalize wrtL t = s2 at CW e2 HW
  generalize stamp.encI (L.length : Int) = s3 at CN3 e3 HW
  generalize wrB l t L = S at HW ⊢
  go_enter Tryz.func13, Tryz.ntmps13
  go_wp2_with fail
  refine (CC.out _).mono ?_
  rintro e w1 ⟨rfl, b1⟩
  have B1 := Lib.hid (B0.out.trans (b1.mono (by simp)))
  have W1 := Lib.hid (W0.out.below b1 (by simp))
  have c1 := fun i => W1.out.read i
  clear b1 CC
  go_wp2_with fail
  refine (CW.out _).mono ?_
  rintro e w2 ⟨rfl, b2⟩
  have B2 := Lib.hid (B1.out.trans (b2.mono B1.out.size))
  have W2 := Lib.hid (W1.out.below b2 W1.out.inside)
  clear b2 CW c1 B0 W0 B1 W1
  have c2 := fun i => W2.out.read i
  have HB0 := Lib.hid (bl_new w2)
  have b3 := fresh0 w2 (.cells #[.pointer none, .slice none 0 0] 64)
  have HBx := Lib.hid (B2.out.trans (b3.mono B2.out.size))
  have HW3 := Lib.hid (W2.out.below b3 W2.out.inside)
  have HGB := Lib.hid W2.out.inside
  have HBB := Lib.hid B2.out.size
  have GBx : Hid (w2.heap.size < (w2.alloc (.cells #[.pointer none, .slice none 0 0] 64)).heap.size) := Lib.hid (by simp)
  go_upto_region 8 with fail
  change Code.wp _ _ _ _ (w2.alloc (.cells #[.pointer none, .slice none 0 0] 64))
  generalize w2.alloc (.cells #[.pointer none, .slice none 0 0] 64) = wx at HB0 HBx HW3 GBx ⊢
  generalize w2.heap.size = bb at HB0 HGB HBB GBx ⊢
  refine region_full 54 [] [] (fun k => k == 12) (fun w7 => Below bb wx w7) ?hR ?r0 [pdOne 0 (Is (.pointer (some ⟨w.heap.size, 0, none⟩))), pdOne 1 (Is (.int .i64 l)), pdOne 2 (Is (.int .u64 l)), pdOne 3 (Is (sB s1)), pdOne 4 (Is (sB s2)), pdOne 5 (Is (sB (s1 ++ s2))), pdOne 6 (Is (.pointer (some ⟨w.heap.size, 6, none⟩))), pdOne 7 (Is (.slice A L.length c)), pdOne 8 (Is (.int .i64 (L.length : Nat))), pdOne 9 (Is (.int .u64 (L.length : Nat))), pdOne 10 (Is (sB s3)), pdOne 11 (Is (sB (s1 ++ s2 ++ s3))), pdOne 12 (fun _ w7 => BL w7 bb bb ([] ++ (s1 ++ s2 ++ s3)))] (fun k w7 => (k = 12 → BL w7 bb bb []) ∧ (True)) (by kernel_rfl) rfl (by kernel_rfl) (by kernel_rfl) (by kernel_rfl) (by kernel_rfl) ?keep ?hO ?h0 ?tell
  case hR => exact fun wa wb hb h => h.trans (hb.mono (Nat.le_trans (show _ ≤ _ from HB0.out.2) h.size))
  case r0 => exact Below.refl _ _
  case keep => exact ⟨keep_one (keeps_is _), keep_one (keeps_is _), keep_one (keeps_is _), keep_one (keeps_is _), keep_one (keeps_is _), keep_one (keeps_is _), keep_one (keeps_is _), keep_one (keeps_is _), keep_one (keeps_is _), keep_one (keeps_is _), keep_one (keeps_is _), keep_one (keeps_is _), keep_one (fun _ _ _ hb h => BL.below h hb), trivial⟩
  case hO => exact fun k wa wb hb ⟨h1, h2⟩ => ⟨fun e => BL.below (h1 e) hb, trivial⟩
  case h0 => exact fun k _ => ⟨fun _ => HB0.out, trivial⟩
  case tell =>
    intro fin hfin
    simp [lexPut, Act.put] at hfin
    simp only [TellF]
    refine ⟨⟨?_, ?_, ?_, ?_, ?_, ?_, ?_, ?_, ?_, ?_, ?_, ?_, ?_, trivial⟩, ?_⟩
    · intro v2 w7 hr hd
      refine yields_run (u := .pointer (some ⟨w.heap.size, 0, none⟩)) (w' := w7) ?_ (Below.refl _ _) rfl
      unfold execOp
      simp [go_sem, Act.eval]
    · intro v2 w7 hr hd
      have h0 : v2 0 = _ := hd 0 (by kernel_rfl)
      have k0 := (Whole.below HW3.out hr HGB.out).read 0
      refine yields_run (u := .int .i64 l) (w' := w7) ?_ (Below.refl _ _) rfl
      unfold execOp
      simp [go_sem, Act.eval, Act.put, h0, k0]
    · intro v2 w7 hr hd
      have h1 : v2 1 = _ := hd 1 (by kernel_rfl)
      refine yields_run (u := .int .u64 l) (w' := w7) ?_ (Below.refl _ _) rfl
      unfold execOp
      simp [go_sem, Act.eval, Act.put, h1, hcl]
    · intro v2 w7 hr hd
      have h2 : v2 2 = _ := hd 2 (by kernel_rfl)
      refine yields_call (f := 28) rfl (vs := #[.int .u64 l]) (by simp [Act.eval, Act.put, h2]) rfl Tryz.func28 (by kernel_rfl) (by kernel_rfl) ((CN1.out w7).mono fun e w8 ⟨he, hb⟩ => ⟨_, he, hb, rfl⟩)
    · intro v2 w7 hr hd
      refine yields_run (u := sB s2) (w' := w7) ?_ (Below.refl _ _) rfl
      unfold execOp
      simp [go_sem, Act.eval, Act.put]
    · intro v2 w7 hr hd
      have h3 : v2 3 = _ := hd 3 (by kernel_rfl)
      have h4 : v2 4 = _ := hd 4 (by kernel_rfl)
      have hlen : (s1).length ≤ 1000000 := by
        try simp only [List.length_append]
        omega
      have hlen2 : (s2).length ≤ 1000000 := by
        try simp only [List.length_append]
        omega
      generalize s1 = P at h3 h4 hlen ⊢
      generalize s2 = Q at h3 h4 hlen2 ⊢
      have ha := str_app P Q
      refine yields_run (u := sB (P ++ Q)) (w' := w7) ?_ (Below.refl _ _) rfl
      unfold execOp
      simp [go_sem, Act.eval, Act.put, h3, h4, ha]
      omega
    · intro v2 w7 hr hd
      refine yields_run (u := .pointer (some ⟨w.heap.size, 6, none⟩)) (w' := w7) ?_ (Below.refl _ _) rfl
      unfold execOp
      simp [go_sem, Act.eval, Act.put]
    · intro v2 w7 hr hd
      have h6 : v2 6 = _ := hd 6 (by kernel_rfl)
      have k0 := (Whole.below HW3.out hr HGB.out).read 6
      refine yields_run (u := .slice A L.length c) (w' := w7) ?_ (Below.refl _ _) rfl
      unfold execOp
      simp [go_sem, Act.eval, Act.put, h6, k0]
    · intro v2 w7 hr hd
      have h7 : v2 7 = _ := hd 7 (by kernel_rfl)
      refine yields_run (u := .int .i64 (L.length : Nat)) (w' := w7) ?_ (Below.refl _ _) rfl
      unfold execOp
      simp [go_sem, Act.eval, Act.put, h7]
    · intro v2 w7 hr hd
      have h8 : v2 8 = _ := hd 8 (by kernel_rfl)
      refine yields_run (u := .int .u64 (L.length : Nat)) (w' := w7) ?_ (Below.refl _ _) rfl
      unfold execOp
      simp [go_sem, Act.eval, Act.put, h8, hcn]
    · intro v2 w7 hr hd
      have h9 : v2 9 = _ := hd 9 (by kernel_rfl)
      refine yields_call (f := 28) rfl (vs := #[.int .u64 (L.length : Nat)]) (by simp [Act.eval, Act.put, h9]) rfl Tryz.func28 (by kernel_rfl) (by kernel_rfl) ((CN3.out w7).mono fun e w8 ⟨he, hb⟩ => ⟨_, he, hb, rfl⟩)
    · intro v2 w7 hr hd
      have h5 : v2 5 = _ := hd 5 (by kernel_rfl)
      have h10 : v2 10 = _ := hd 10 (by kernel_rfl)
      have hlen : (s1 ++ s2).length ≤ 1000000 := by
        try simp only [List.length_append]
        omega
      have hlen2 : (s3).length ≤ 1000000 := by
        try simp only [List.length_append]
        omega
      generalize s1 ++ s2 = P at h5 h10 hlen ⊢
      generalize s3 = Q at h5 h10 hlen2 ⊢
      have ha := str_app P Q
      refine yields_run (u := sB (P ++ Q)) (w' := w7) ?_ (Below.refl _ _) rfl
      unfold execOp
      simp [go_sem, Act.eval, Act.put, h5, h10, ha]
      omega
    · intro v2 w7 hr ho hd
      have h11 : v2 11 = _ := hd 11 (by kernel_rfl)
      refine .inl (yieldsW_callR (f := 27) rfl (vs := #[.pointer (some ⟨bb, 0, none⟩), sB (s1 ++ s2 ++ s3)]) (by simp [Act.eval, Act.put, h11]) rfl Tryz.func27 (by kernel_rfl) (by kernel_rfl) ?_)
      refine (write_on bb bb [] (s1 ++ s2 ++ s3) (by simp; omega) w7 (ho.1 (by first | rfl | trivial))).mono fun e1 w8 ⟨⟨u8, he1⟩, hb8, hB8⟩ => ⟨u8, he1, hr.trans hB8, ?_, ?_, hb8⟩
      · intro k2 v' hk2 hc hu
        exact match k2, hk2, hc, hu with
          | 0, _, _, hu => hu
          | 1, _, _, hu => hu
          | 2, _, _, hu => hu
          | 3, _, _, hu => hu
          | 4, _, _, hu => hu
          | 5, _, _, hu => hu
          | 6, _, _, hu => hu
          | 7, _, _, hu => hu
          | 8, _, _, hu => hu
          | 9, _, _, hu => hu
          | 10, _, _, hu => hu
          | 11, _, _, hu => hu
          | 12, hk2, _, _ => absurd rfl hk2
          | _ + 13, _, _, _ => trivial
      · intro k2 hk2 hn hc2 ⟨h1, h2⟩
        exact ⟨fun e => absurd e hk2, trivial⟩
    · intro v2 w7 hr hv
      rw [hfin]
      have hBL := hv 12 (by decide)
      change BL w7 bb bb ([] ++ (s1 ++ s2 ++ s3)) at hBL
      rw [List.nil_append] at hBL
      have HBL := Lib.hid hBL
      have HBW := Lib.hid (HBx.out.trans (hr.mono HBB.out))
      have W7 := Lib.hid (HW3.out.below hr HGB.out)
      clear hfin hv hr hBL
      generalize v2 12 = u12
      have c7 := fun i => W7.out.read i
      go_wp2_with fail
      go_loopw [40] (fun s wr => ∃ k : Nat, k ≤ L.length ∧ s = .int .i64 k ∧ Hid (BL wr bb bb ((s1 ++ s2 ++ s3) ++ (L.take k).flatMap wrR)) ∧ Hid (Below w.heap.size w wr)) (fun s _ => L.length - (intOf s).toNat)
      case atStart => exact ⟨0, Nat.zero_le _, rfl, Lib.hid (by simpa using HBL.out), HBW⟩
      case round =>
        obtain ⟨k, hk, rfl, HBk, HB⟩ := hrel
        clear HBL HBW W7 c7 HW3 HBx HGB
        by_cases hlt : k < L.length
        · obtain ⟨x, hx, hm⟩ := get_ltR hlt
          have ix := iL x hm
          obtain ⟨b1, o1, rfl, hb1, c0, c1⟩ := at_rc (HL.out.below HB.out) hx
          have HX := Lib.hid hx
          have CS1 := Lib.hid (fun w0 => code.signed_any x.k ix.1.1 ix.1.2 w0)
          have CS2 := Lib.hid (fun w0 => code.signed_any x.v ix.2.1 ix.2.2 w0)
          have f1 := len_enc (zig x.k)
          have f2 := len_enc (zig x.v)
          have hfl : ((L.take k).flatMap wrR).length ≤ 1280 := by
            have := wrRs_len (L.take k)
            rw [List.length_take] at this
            omega
          have HWR : Hid (wrR x = enc (zig x.k) ++ enc (zig x.v)) := Lib.hid rfl
          clear hx hm ix
          generalize enc (zig x.k) = z1 at CS1 f1 HWR
          generalize enc (zig x.v) = z2 at CS2 f2 HWR
          obtain ⟨M, hM⟩ : ∃ M, (L.take k).flatMap wrR = M := ⟨_, rfl⟩
          rw [hM] at HBk hfl
          have HM := Lib.hid hM
          clear hM
          go_upto_region 12 with fail
          change Code.wp _ _ _ _ (wr.alloc (.cells #[.int .i64 x.k, .int .i64 x.v] 33))
          have bb1 := fresh0 wr (.cells #[.int .i64 x.k, .int .i64 x.v] 33)
          have WX := Lib.hid (Whole.fresh wr 33 #[.int .i64 x.k, .int .i64 x.v])
          have BLx := Lib.hid (HBk.out.below bb1)
          have HBx := Lib.hid (HB.out.trans (bb1.mono HB.out.size))
          have GX : Hid (wr.heap.size < (wr.alloc (.cells #[.int .i64 x.k, .int .i64 x.v] 33)).heap.size) := Lib.hid (by simp)
          generalize wr.alloc (.cells #[.int .i64 x.k, .int .i64 x.v] 33) = wx at WX BLx HBx GX ⊢
          generalize wr.heap.size = gx at WX GX ⊢
          clear bb1 c0 c1 HBk
          refine region_full 54 [] [(7, 1), (7, 4)] (fun k => k == 1 || k == 4 || k == 7) (fun w7 => Below bb wx w7) ?hR ?r0 [pdOne 0 (Is (.pointer (some ⟨gx, 0, none⟩))), pdOne 1 (Is (.int .i64 x.k)), pdOne 2 (Is (sB z1)), pdOne 3 (Is (.pointer (some ⟨gx, 1, none⟩))), pdOne 4 (Is (.int .i64 x.v)), pdOne 5 (Is (sB z2)), pdOne 6 (Is (sB (z1 ++ z2))), pdOne 7 (fun _ w7 => BL w7 bb bb ((s1 ++ s2 ++ s3 ++ M) ++ (z1 ++ z2)))] (fun k w7 => (k = 7 → BL w7 bb bb (s1 ++ s2 ++ s3 ++ M)) ∧ (k = 1 ∨ k = 4 → Below wx.heap.size wx w7)) (by kernel_rfl) rfl (by kernel_rfl) (by kernel_rfl) (by kernel_rfl) (by kernel_rfl) ?keep ?hO ?h0 ?tell
          case hR => exact fun wa wb hb h => h.trans (hb.mono (Nat.le_trans (show _ ≤ _ from BLx.out.2) h.size))
          case r0 => exact Below.refl _ _
          case keep => exact ⟨keep_one (keeps_is _), keep_one (keeps_is _), keep_one (keeps_is _), keep_one (keeps_is _), keep_one (keeps_is _), keep_one (keeps_is _), keep_one (keeps_is _), keep_one (fun _ _ _ hb h => BL.below h hb), trivial⟩
          case hO => exact fun k wa wb hb ⟨h1, h2⟩ => ⟨fun e => BL.below (h1 e) hb, fun e => (h2 e).trans (hb.mono (h2 e).size)⟩
          case h0 => exact fun k _ => ⟨fun _ => BLx.out, fun _ => Below.refl _ _⟩
          case tell =>
            intro fin hfin
            simp [lexPut, Act.put] at hfin
            simp only [TellF]
            refine ⟨⟨?_, ?_, ?_, ?_, ?_, ?_, ?_, ?_, trivial⟩, ?_⟩
            · intro v2 w7 hr hd
              refine yields_run (u := .pointer (some ⟨gx, 0, none⟩)) (w' := w7) ?_ (Below.refl _ _) rfl
              unfold execOp
              simp [go_sem, Act.eval]
            · intro v2 w7 hr ho hd
              have h0 : v2 0 = _ := hd 0 (by kernel_rfl)
              have k0 := (Whole.below WX.out (ho.2 (by first | trivial | decide | simp)) GX.out).read 0
              refine .inl (.inl ⟨.int .i64 x.k, w7, ?_, hr, fun _ _ _ _ hu => hu, fun _ _ _ _ hu => hu, rfl⟩)
              unfold execOp
              simp [go_sem, Act.eval, Act.put, h0, k0]
            · intro v2 w7 hr hd
              have h1 : v2 1 = _ := hd 1 (by kernel_rfl)
              refine yields_call (f := 29) rfl (vs := #[.int .i64 x.k]) (by simp [Act.eval, Act.put, h1]) rfl Tryz.func29 (by kernel_rfl) (by kernel_rfl) ((CS1.out w7).mono fun e w8 ⟨he, hb⟩ => ⟨_, he, hb, rfl⟩)
            · intro v2 w7 hr hd
              refine yields_run (u := .pointer (some ⟨gx, 1, none⟩)) (w' := w7) ?_ (Below.refl _ _) rfl
              unfold execOp
              simp [go_sem, Act.eval, Act.put]
            · intro v2 w7 hr ho hd
              have h3 : v2 3 = _ := hd 3 (by kernel_rfl)
              have k0 := (Whole.below WX.out (ho.2 (by first | trivial | decide | simp)) GX.out).read 1
              refine .inl (.inl ⟨.int .i64 x.v, w7, ?_, hr, fun _ _ _ _ hu => hu, fun _ _ _ _ hu => hu, rfl⟩)
              unfold execOp
              simp [go_sem, Act.eval, Act.put, h3, k0]
            · intro v2 w7 hr hd
              have h4 : v2 4 = _ := hd 4 (by kernel_rfl)
              refine yields_call (f := 29) rfl (vs := #[.int .i64 x.v]) (by simp [Act.eval, Act.put, h4]) rfl Tryz.func29 (by kernel_rfl) (by kernel_rfl) ((CS2.out w7).mono fun e w8 ⟨he, hb⟩ => ⟨_, he, hb, rfl⟩)
            · intro v2 w7 hr hd
              have h2 : v2 2 = _ := hd 2 (by kernel_rfl)
              have h5 : v2 5 = _ := hd 5 (by kernel_rfl)
              have hlen : (z1).length ≤ 1000000 := by
                try simp only [List.length_append]
                omega
              have hlen2 : (z2).length ≤ 1000000 := by
                try simp only [List.length_append]
                omega
              generalize z1 = P at h2 h5 hlen ⊢
              generalize z2 = Q at h2 h5 hlen2 ⊢
              have ha := str_app P Q
              refine yields_run (u := sB (P ++ Q)) (w' := w7) ?_ (Below.refl _ _) rfl
              unfold execOp
              simp [go_sem, Act.eval, Act.put, h2, h5, ha]
              omega
            · intro v2 w7 hr ho hd
              have h6 : v2 6 = _ := hd 6 (by kernel_rfl)
              refine .inl (yieldsW_callR (f := 27) rfl (vs := #[.pointer (some ⟨bb, 0, none⟩), sB (z1 ++ z2)]) (by simp [Act.eval, Act.put, h6]) rfl Tryz.func27 (by kernel_rfl) (by kernel_rfl) ?_)
              refine (write_on bb bb (s1 ++ s2 ++ s3 ++ M) (z1 ++ z2) (by simp; omega) w7 (ho.1 (by first | rfl | trivial))).mono fun e1 w8 ⟨⟨u8, he1⟩, hb8, hB8⟩ => ⟨u8, he1, hr.trans hB8, ?_, ?_, hb8⟩
              · intro k2 v' hk2 hc hu
                exact match k2, hk2, hc, hu with
                  | 0, _, _, hu => hu
                  | 1, _, _, hu => hu
                  | 2, _, _, hu => hu
                  | 3, _, _, hu => hu
                  | 4, _, _, hu => hu
                  | 5, _, _, hu => hu
                  | 6, _, _, hu => hu
                  | 7, hk2, _, _ => absurd rfl hk2
                  | _ + 8, _, _, _ => trivial
              · intro k2 hk2 hn hc2 ⟨h1, h2⟩
                exact ⟨fun e => absurd e hk2, fun e => by rcases e with rfl | rfl <;> exact absurd hc2 (by decide)⟩
            · intro v2 w7 hr hv
              rw [hfin]
              have hBL := hv 7 (by decide)
              change BL w7 bb bb ((s1 ++ s2 ++ s3 ++ M) ++ (z1 ++ z2)) at hBL
              have HBL := Lib.hid hBL
              have HBW := Lib.hid (HBx.out.trans (hr.mono HBB.out))
              clear hfin hv hr hBL
              generalize v2 7 = u7
              go_wp2_with fail
              go_roundw
              case rel => exact ⟨k + 1, by omega, by go_num, Lib.hid (by have h := HBL.out; rw [take_next HX.out, List.flatMap_append, List.flatMap_cons, List.flatMap_nil, List.append_nil, HWR.out, HM.out]; rw [List.append_assoc] at h; exact h), HBW⟩
              case measure => simp [intOf]; omega
        · obtain rfl : k = L.length := by omega
          rw [List.take_length, ← HW.out] at HBk
          go_wp2_with fail
          refine (text_of bb bb S _ HBk.out).mono ?_
          rintro e w9 ⟨rfl, b9⟩
          have HB9 := Lib.hid (HB.out.trans (b9.mono HBB.out))
          clear b9
          go_wp2_with fail
          go_ret2
          exact ⟨rfl, HB9.out⟩
theorem writeB_any (l : Int) (t : Tm) (i : t.In) (L : List Rc) (iL : InR L) (A : Option Addr) (c : Nat) (w : World) (hL : Lr w A L) :
    Calls Tryz.prog 13 #[.agg #[.int .i64 l, .int .u32 t.e, .int .i64 t.d, .int .u32 t.a, .int .u32 t.b, .int .u32 t.c, .slice A L.length c]] w fun e w' => e = .returned (.tuple #[sB (wrV l t L), .int .i64 (chkB l t L.length)]) ∧ Below w.heap.size w w' := by
  by_cases h : chkB l t L.length = 0
  · rw [h, show wrV l t L = wrB l t L by unfold wrV; rw [if_pos h]]
    exact writeB_good l t i L iL A c h w hL
  · rw [show wrV l t L = [] by unfold wrV; rw [if_neg h]]
    exact writeB_bad l t i L A c h w
end Go.Proofs.YtkfjgmfokpgcbaaGreatDoor.data
