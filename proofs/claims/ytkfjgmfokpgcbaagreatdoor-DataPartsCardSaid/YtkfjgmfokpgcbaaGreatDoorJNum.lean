/-
  The contracts of num.Add, num.Sub, num.Ceil, num.Mix, num.Part, num.Floor and of the document's own ones, at any numbers of their kinds.
  The contract of data.Spread (by gen_sp.py).
  The contract of works (of the laws of data).
-/
import Derived.Test.YtkfjgmfokpgcbaaGreatDoorRows
import Derived.WalkKit
import Derived.ProofKit
import Derived.OpenShut
import Derived.Lib.Hide
import Derived.Deep.QuietTactic
import Derived.BigQuiet
import Derived.Test.YtkfjgmfokpgcbaaGreatDoorJDg
import Derived.Deep.OwnRows
import Derived.Deep.CutBlock
import Derived.Test.YtkfjgmfokpgcbaaGreatDoorJWr
import Derived.Test.YtkfjgmfokpgcbaaGreatDoorJSq
import Derived.Test.YtkfjgmfokpgcbaaGreatDoorJDc
import Derived.Test.YtkfjgmfokpgcbaaGreatDoorJDw
import Derived.Test.YtkfjgmfokpgcbaaGreatDoorJDrc
import Derived.Test.YtkfjgmfokpgcbaaGreatDoorJDto
import Derived.Test.YtkfjgmfokpgcbaaGreatDoorJEq
import Derived.Test.YtkfjgmfokpgcbaaGreatDoorJDo
import Derived.Laws.MakeOwn
namespace Go.Proofs.YtkfjgmfokpgcbaaGreatDoor.num
open Go.ChangeShapes Go.WideShapes Go.ChangeAt Go.RowKit

def addV (a b : Int) : Int := if a ≤ 1048576 ∧ b ≤ 1048576 ∧ a + b ≤ 1048576 then a + b else 0
def addE (a b : Int) : Int := if a ≤ 1048576 ∧ b ≤ 1048576 then (if a + b ≤ 1048576 then 0 else 9) else 1
def subV (a b : Int) : Int := if a ≤ 1048576 ∧ b ≤ 1048576 ∧ b ≤ a then a - b else 0
def subE (a b : Int) : Int := if a ≤ 1048576 ∧ b ≤ 1048576 then (if b ≤ a then 0 else 9) else 1
def ceilOk (a b : Int) : Prop := 0 ≤ a ∧ a ≤ 1099511627776 ∧ 1 ≤ b ∧ b ≤ 1099511627776
instance (a b : Int) : Decidable (ceilOk a b) := by unfold ceilOk; infer_instance
def ceilV (a b : Int) : Int := if ceilOk a b then (a + b - 1) / b else 0
def ceilE (a b : Int) : Int := if ceilOk a b then 0 else 1

theorem pairU {a b c d : Int} (h : a = b) (h' : c = d) : Ending.returned (.tuple #[.int .u32 a, .int .i64 c]) = .returned (.tuple #[.int .u32 b, .int .i64 d]) := by rw [h, h']
theorem pairI {a b c d : Int} (h : a = b) (h' : c = d) : Ending.returned (.tuple #[.int .i64 a, .int .i64 c]) = .returned (.tuple #[.int .i64 b, .int .i64 d]) := by rw [h, h']
theorem three {a b c d e f : Int} (h : a = b) (h' : c = d) (h'' : e = f) : Ending.returned (.tuple #[.int .i64 a, .int .i64 c, .int .i64 e]) = .returned (.tuple #[.int .i64 b, .int .i64 d, .int .i64 f]) := by rw [h, h', h'']
theorem one32 {a b : Int} (h : a = b) : Ending.returned (.int .u32 a) = .returned (.int .u32 b) := by rw [h]

theorem grown_trans {a b c : World} (h1 : Grown a b) (h2 : Grown b c) : Grown a c :=
  ⟨World.keptBut_trans h1.1 h2.1, fun x => (h2.2.1 x).trans (h1.2.1 x), Nat.le_trans h1.2.2 h2.2.2⟩

theorem ceil_eq_lt (a b : Int) (l' : 1 ≤ b) (hlt : a / b * b < a) : (a + b - 1) / b = a / b + 1 := by
  have e := Int.mul_ediv_add_emod a b
  have hr := Int.emod_lt_of_pos a (show 0 < b by omega)
  have hc : a / b * b = b * (a / b) := Int.mul_comm _ _
  have : (a + b - 1) / b = a / b + 1 ∧ (a + b - 1) % b = a % b - 1 := by
    rw [Int.ediv_emod_unique (by omega)]
    rw [Int.mul_add]
    refine ⟨by omega, by omega, by omega⟩
  exact this.1
theorem ceil_eq_ge (a b : Int) (l' : 1 ≤ b) (hlt : ¬ a / b * b < a) : (a + b - 1) / b = a / b := by
  have e := Int.mul_ediv_add_emod a b
  have hr := Int.emod_nonneg a (show b ≠ 0 by omega)
  have hc : a / b * b = b * (a / b) := Int.mul_comm _ _
  have : (a + b - 1) / b = a / b ∧ (a + b - 1) % b = b - 1 := by
    rw [Int.ediv_emod_unique (by omega)]
    refine ⟨by omega, by omega, by omega⟩
  exact this.1
theorem quo_small (a b : Int) (l : 0 ≤ a) (h : a ≤ 1099511627776) (l' : 1 ≤ b) : 0 ≤ a / b ∧ a / b ≤ 1099511627776 ∧ 0 ≤ a / b * b ∧ a / b * b ≤ 1099511627776 := by
  have e := Int.mul_ediv_add_emod a b
  have hr := Int.emod_nonneg a (show b ≠ 0 by omega)
  have hc : a / b * b = b * (a / b) := Int.mul_comm _ _
  have h0 : 0 ≤ a / b := Int.ediv_nonneg l (by omega)
  have h1 : a / b ≤ a := Int.ediv_le_self b l
  have h2 : 0 ≤ a / b * b := Int.mul_nonneg h0 (by omega)
  omega
def mix1 (a : Int) : Int := IntKind.u64.wrap (bits BinOp.xor IntKind.u64 (IntKind.u64.wrap a) (IntKind.u64.wrap a / 4294967296) * 11400714819323198485)
def mixV (a : Int) : Int := IntKind.u64.wrap (bits BinOp.xor IntKind.u64 (mix1 a) (mix1 a / 536870912) * 13787848793156543929) / 4294967296 % 4294967296
theorem mixV_bd (a : Int) : 0 ≤ mixV a ∧ mixV a ≤ 4294967295 := by
  unfold mixV
  generalize IntKind.u64.wrap _ / 4294967296 = x
  omega
theorem mix_any (a : Int) (w : World) :
    Calls Tryz.prog 23 #[.int .i64 a] w fun e w' => e = .returned (.int .u32 (mixV a)) ∧ w = w' := by
  go_enter Tryz.func23, Tryz.ntmps23
  go_wp2
  go_ret
  exact ⟨one32 (by unfold mixV mix1; rfl), rfl⟩
def partV (a b : Int) : Int := if 1 ≤ b ∧ b ≤ 64 then mixV a % b else 0
def partE (b : Int) : Int := if 1 ≤ b ∧ b ≤ 64 then 0 else 1

theorem part_yes (a b : Int) (l' : 1 ≤ b) (h' : b ≤ 64) (w : World) :
    Calls Tryz.prog 9 #[.int .i64 a, .int .i64 b] w fun e w' => e = .returned (.tuple #[.int .i64 (partV a b), .int .i64 (partE b)]) ∧ w = w' := by
  have hfin : partV a b = mixV a % b ∧ partE b = 0 := by simp [partV, partE, l', h']
  have HF := Lib.hid hfin; clear hfin
  obtain ⟨m0, m1⟩ := mixV_bd a
  have r0 := Int.emod_nonneg (mixV a) (show b ≠ 0 by omega)
  have r1 := Int.emod_lt_of_pos (mixV a) (show 0 < b by omega)
  go_enter Tryz.func9, Tryz.ntmps9
  go_wp2_with fail
  refine (mix_any a _).mono ?_
  rintro e w' ⟨rfl, rfl⟩
  go_wp2
  go_ret2
  exact ⟨pairI HF.out.1.symm HF.out.2.symm, rfl⟩
theorem part_no (a b : Int) (hno : b < 1 ∨ 64 < b) (w : World) :
    Calls Tryz.prog 9 #[.int .i64 a, .int .i64 b] w fun e w' => e = .returned (.tuple #[.int .i64 (partV a b), .int .i64 (partE b)]) ∧ w = w' := by
  have hfin : partV a b = 0 ∧ partE b = 1 := by
    have : ¬ (1 ≤ b ∧ b ≤ 64) := by omega
    simp [partV, partE, this]
  have HF := Lib.hid hfin; clear hfin
  rcases hno with c | c
  · go_enter Tryz.func9, Tryz.ntmps9
    go_wp2
    go_ret2
    exact ⟨pairI HF.out.1.symm HF.out.2.symm, rfl⟩
  · have c' : ¬ b < 1 := by omega
    go_enter Tryz.func9, Tryz.ntmps9
    go_wp2
    go_ret2
    exact ⟨pairI HF.out.1.symm HF.out.2.symm, rfl⟩
theorem part_any (a b : Int) (w : World) :
    Calls Tryz.prog 9 #[.int .i64 a, .int .i64 b] w fun e w' => e = .returned (.tuple #[.int .i64 (partV a b), .int .i64 (partE b)]) ∧ w = w' := by
  by_cases c : 1 ≤ b ∧ b ≤ 64
  · exact part_yes a b c.1 c.2 w
  · exact part_no a b (by omega) w

def floorQ (a b : Int) : Int := if 1 ≤ b then a / b else 0
def floorR (a b : Int) : Int := if 1 ≤ b then a % b else 0
def floorE (b : Int) : Int := if 1 ≤ b then 0 else 1
theorem floor_pos (a b : Int) (l' : 1 ≤ b) (hr : ¬ a.tmod b < 0) : a / b = a.tdiv b ∧ a % b = a.tmod b := by
  have e := Int.mul_tdiv_add_tmod a b
  have hb := Int.tmod_lt_of_pos a (show 0 < b by omega)
  rw [Int.ediv_emod_unique (by omega)]
  omega
theorem floor_neg (a b : Int) (l : -9223372036854775808 ≤ a) (l' : 1 ≤ b) (h' : b ≤ 9223372036854775807) (hr : a.tmod b < 0) :
    a / b = a.tdiv b - 1 ∧ a % b = a.tmod b + b ∧ wrap64 (a.tdiv b - 1) = a.tdiv b - 1 ∧ wrap64 (a.tmod b + b) = a.tmod b + b := by
  have e := Int.mul_tdiv_add_tmod a b
  have hb : -b < a.tmod b := Int.lt_tmod_of_pos a (by omega)
  have ha : a < 0 := by
    rcases Int.lt_or_le a 0 with x | x
    · exact x
    · have := Int.tmod_nonneg b x; omega
  have hT : a.tdiv b ≤ 0 := by
    have h0 : 0 ≤ (-a).tdiv b := Int.tdiv_nonneg (by omega) (by omega)
    rw [Int.neg_tdiv] at h0
    omega
  have h2 : 2 ≤ b := by
    rcases Int.lt_or_le b 2 with x | x
    · obtain rfl : b = 1 := by omega
      simp at hr
    · exact x
  have hm : b * a.tdiv b ≤ 2 * a.tdiv b := Int.mul_le_mul_of_nonpos_right h2 hT
  have h1 : a / b = a.tdiv b - 1 ∧ a % b = a.tmod b + b := by
    rw [Int.ediv_emod_unique (by omega), Int.mul_sub]
    omega
  refine ⟨h1.1, h1.2, IntWalk.wrap64_in _ ⟨by omega, by omega⟩, IntWalk.wrap64_in _ ⟨by omega, by omega⟩⟩

end Go.Proofs.YtkfjgmfokpgcbaaGreatDoor.num
namespace Go.Proofs.YtkfjgmfokpgcbaaGreatDoor.data
open Go.ChangeShapes Go.WideShapes Go.ChangeAt Go.RowKit
open Go.Proofs.YtkfjgmfokpgcbaaGreatDoor.opened Go.Proofs.YtkfjgmfokpgcbaaGreatDoor.block Go.Proofs.YtkfjgmfokpgcbaaGreatDoor.region Go.Proofs.YtkfjgmfokpgcbaaGreatDoor.num
/-- Where a record goes. -/
def pt (n : Int) (r : Rc) : Nat := (partV r.k n).toNat
/-- The list by parts. -/
def sprV (n : Int) (L : List Rc) : List (List Rc) := if 1 ≤ n ∧ n ≤ 64 then spr (pt n) n.toNat L else []
theorem pt_lt {n : Int} (h : 1 ≤ n ∧ n ≤ 64) (r : Rc) : pt n r < n.toNat ∧ partV r.k n = ((pt n r : Nat) : Int) := by
  unfold pt partV
  rw [if_pos h]
  have h1 := Int.emod_nonneg (mixV r.k) (show n ≠ 0 by omega)
  have h2 := Int.emod_lt_of_pos (mixV r.k) (show 0 < n by omega)
  omega
theorem made_nils (n : Nat) : madeCells #[Value.slice none 0 0] n = Array.replicate n (.slice none 0 0) := by
  apply Array.ext
  · simp [madeCells]
  · intro i h1 h2
    simp [madeCells, Nat.mod_one]
theorem infoN : (Tryz.prog.info? 22).map (fun i => (i.zero, i.size, i.bytes)) = some (some (.slice none 0 0), 1, 24) := by kernel_rfl
theorem fresh_rows {w0 : World} {base : Nat} {V : Value} {vs : List Value} {NN : List (List Rc)} (h : Nest 22 33 2 cR w0 base V vs NN) {b : Nat} (hb : w0.heap.size ≤ b) : ∀ v ∈ vs, v.ownBlock ≠ some b := by
  intro v hv e
  obtain ⟨i, hi⟩ := List.getElem?_of_mem hv
  obtain ⟨M, hM⟩ : ∃ M, NN[i]? = some M := ⟨_, List.getElem?_eq_getElem (by rw [← h.len]; exact (List.getElem?_eq_some_iff.1 hi).1)⟩
  have := ((h.row i v M hi hM).lt b e).2
  omega
set_option maxRecDepth 100000 in
set_option maxHeartbeats 8000000 in
theorem spread_yes (A : Option Addr) (c : Nat) (L : List Rc) (m : Nat) (hm1 : 1 ≤ m) (hm2 : m ≤ 64) (mL : L.length ≤ 4096) (w : World) (hL : Lr w A L) :
    Calls Tryz.prog 7 #[.slice A L.length c, .int .i64 (m : Nat)] w fun e W' => ∃ g vs, e = .returned (.tuple #[.slice (some ⟨g, 0, none⟩) m m, .int .i64 0]) ∧ Nest 22 33 2 cR W' w.heap.size (.slice (some ⟨g, 0, none⟩) m m) vs (spr (pt (m : Int)) m L) ∧ Below w.heap.size w W' := by
  have HLr := Lib.hid hL
  clear hL
  have hnn : (1 : Int) ≤ (m : Int) ∧ (m : Int) ≤ 64 := by omega
  have PT := Lib.hid (fun (r : Rc) => pt_lt hnn r)
  have PE : partE (m : Int) = 0 := by unfold partE; rw [if_pos hnn]
  have CP := Lib.hid (fun a w0 => part_any a (m : Int) w0)
  rw [PE] at CP
  clear PE hnn
  obtain ⟨i0, hi0, hz0, hz1, hz2⟩ := infoR_parts
  have hmk := run_make_row' (P := Tryz.prog) 25 22 (.slice none 0 0) 24 Tryz.underlying25 infoN rfl .i64 .i64 m (by omega) (by omega)
  have NM := Lib.hid (fun w0 : World => fun (hw : w.heap.size ≤ w0.heap.size) => nest_made (T2 := 22) (T := 33) (m := 2) (f := cR) (base := w.heap.size) w0 m m (by unfold maxLen; omega) rfl hw (madeCells #[.slice none 0 0] m) (made_nils m))
  go_enter Tryz.func7, Tryz.ntmps7
  go_wp2_with (go_at_call 9; refine (CP.out _ _).mono ?_; rintro e w2 ⟨rfl, rfl⟩)
  have N0 := Lib.hid (NM.out w (Nat.le_refl _))
  have B0 := Lib.hid (fresh0 w (.cells (madeCells #[.slice none 0 0] m) 22))
  generalize w.alloc (.cells (madeCells #[.slice none 0 0] m) 22) = w0 at N0 B0 ⊢
  obtain ⟨g, hg⟩ : ∃ g, g = w.heap.size := ⟨_, rfl⟩
  rw [← hg] at N0 ⊢
  have HG := Lib.hid hg
  clear hg NM hmk
  go_loopw [25] (fun s wr => ∃ (k : Nat) (vs : List Value), k ≤ L.length ∧ s = .int .i64 k ∧ vs.length = m ∧ Hid (Nest 22 33 2 cR wr w.heap.size (.slice (some ⟨g, 0, none⟩) m m) vs (spr (pt (m : Int)) m (L.take k))) ∧ Hid (Below w.heap.size w wr)) (fun s _ => L.length - (intOf s).toNat)
  case atStart => exact ⟨0, List.replicate m (.slice none 0 0), Nat.zero_le _, rfl, by simp, Lib.hid (by rw [List.take_zero, spr_nil, HG.out]; exact HG.out ▸ N0.out), B0⟩
  case round =>
    obtain ⟨k, vs, hk, rfl, hvl, HN, HB⟩ := hrel
    have HVL := Lib.hid hvl
    clear N0 B0 hvl
    by_cases hlt : k < L.length
    · obtain ⟨x, hx, -⟩ := get_ltR hlt
      obtain ⟨b1, o1, hA, hb1, c0, c1⟩ := at_rc (HLr.out.below HB.out) hx
      have hb1w : b1 < w.heap.size := by
        obtain ⟨b2, o2, hA2, hb2, -⟩ := at_rc HLr.out hx
        rw [hA] at hA2
        injection (Option.some.inj hA2) with e1 e2
        rw [e1]; exact hb2
      subst hA
      have HX := Lib.hid hx
      obtain ⟨hip, hpv⟩ := PT.out x
      have CX := Lib.hid (fun w0 => CP.out x.k w0)
      rw [hpv] at CX
      obtain ⟨ip, hipd⟩ : ∃ ip, ip = pt (m : Int) x := ⟨_, rfl⟩
      rw [← hipd] at CX hip
      have hip : ip < m := by simpa using hip
      have HMM : (spr (pt (m : Int)) m (L.take k))[ip]? = some ((L.take k).filter fun r => pt (m : Int) r == ip) := spr_get hip
      have hNl : ((L.take k).filter fun r => pt (m : Int) r == ip).length ≤ 4096 := Nat.le_trans (List.length_filter_le _ _) (by simp; omega)
      have HIP : Hid ((spr (pt (m : Int)) m (L.take k))[pt (m : Int) x]? = some ((L.take k).filter fun r => pt (m : Int) r == ip)) := Lib.hid (by rw [← hipd]; exact HMM)
      have HD := Lib.hid hipd
      clear hipd
      generalize ((L.take k).filter fun r => pt (m : Int) r == ip) = N at HMM hNl HIP
      have HSP := Lib.hid (fun (M : List (List Rc)) (h : M = spr (pt (m : Int)) m (L.take k)) => h)
      clear hx hpv HSP
      go_upto_region 11 with (go_at_call 9; refine (CX.out _).mono ?_; rintro e w2 ⟨rfl, rfl⟩)
      change Code.wp _ _ _ _ (wr.alloc (.cells #[.int .i64 x.k, .int .i64 x.v] 33))
      have bb := fresh0 wr (.cells #[.int .i64 x.k, .int .i64 x.v] 33)
      have WX := Whole.fresh wr 33 #[.int .i64 x.k, .int .i64 x.v]
      have N1 := HN.out.below bb
      have F1 := fresh_rows HN.out (Nat.le_refl _)
      have gbg := (HN.out.cell (v := vs[ip]'(by rw [HVL.out]; exact hip)) (List.getElem?_eq_getElem _)).2.2.1
      have B1 := HB.out.trans (bb.mono HB.out.size)
      generalize wr.alloc (.cells #[.int .i64 x.k, .int .i64 x.v] 33) = wx at bb WX N1 B1 ⊢
      generalize wr.heap.size = gb at WX F1 gbg ⊢
      obtain ⟨B, c0, ry⟩ := rdy_of HVL.out N1 HMM B1 WX.inside (.inr ⟨by omega, F1⟩) (WX.read 0) (WX.read 1)
      have RY := Lib.hid ry
      obtain ⟨og, hog⟩ := ry.gs
      have OG := Lib.hid hog
      clear ry hog HMM bb WX N1 B1 F1 gbg c1
      refine region_full 51 [(8, 10)] [(8, 5), (10, 5), (10, 8)] (fun k => k == 5 || k == 8 || k == 10) (fun w7 => RN w wx gb (0) x w7) ?hR ?r0 [pdOne 0 (Is (.slice (some ⟨g, 0, none⟩) m m)), pdOne 1 (Is (.int .i64 (ip : Nat))), pdOne 2 (Is (.slice (some ⟨g, 0, none⟩) m m)), pdOne 3 (Is (.int .i64 (ip : Nat))), pdOne 4 (Is (.pointer (some ⟨g, 0 + ip * 1, none⟩))), pdOne 5 (Is (.slice B N.length c0)), pdOne 6 (Is (.agg #[.int .i64 x.k, .int .i64 x.v])), pdOne 7 (LoneG 33 cR wx.heap.size x), pdOne 8 (Grew 22 33 2 cR wx w.heap.size (.slice (some ⟨g, 0, none⟩) m m) vs (spr (pt (m : Int)) m (L.take k)) ip (.slice B N.length c0) (N ++ [x])), pdOne 9 (Is (.pointer (some ⟨g, 0 + ip * 1, none⟩))), pdTwo 8 10 (fun u _ w7 => Nest 22 33 2 cR w7 w.heap.size (.slice (some ⟨g, 0, none⟩) m m) (vs.set ip u) ((spr (pt (m : Int)) m (L.take k)).set ip (N ++ [x])))] (fun k w7 => ((k = 5 ∨ k = 8) → Below wx.heap.size wx w7) ∧ (k = 10 → w7.heap[g]? = wx.heap[g]?)) (by kernel_rfl) rfl (by kernel_rfl) (by kernel_rfl) (by kernel_rfl) (by kernel_rfl) ?keep ?hO ?h0 ?tell
      case hR => exact fun wa wb hb h => h.run RY.out.wl RY.out.eb hb
      case r0 => exact RY.out.r0
      case keep => exact ⟨keep_one (keeps_is _), keep_one (keeps_is _), keep_one (keeps_is _), keep_one (keeps_is _), keep_one (keeps_is _), keep_one (keeps_is _), keep_one (keeps_is _), keep_one (keeps_loneG _ _), keep_one keeps_grew, keep_one (keeps_is _), keep_two (fun _ _ _ _ hb h => h.below hb), trivial⟩
      case hO => exact fun k wa wb hb h => ⟨fun e => (h.1 e).trans (hb.mono (h.1 e).size), fun e => (hb.block _ (by have h9 := h.2 e; exact (Array.getElem?_eq_some_iff.1 (h9.trans OG.out)).1)).trans (h.2 e)⟩
      case h0 => exact fun _ _ => ⟨fun _ => Below.refl _ _, fun _ => rfl⟩
      case tell =>
        intro fin hfin
        simp [lexPut, Act.put] at hfin
        simp only [TellF]
        refine ⟨⟨?_, ?_, ?_, ?_, ?_, ?_, ?_, ?_, ?_, ?_, ?_, trivial⟩, ?_⟩
        · intro v2 w7 hr hd
          refine yields_run (u := .slice (some ⟨g, 0, none⟩) m m) (w' := w7) ?_ (Below.refl _ _) rfl
          unfold execOp
          simp [go_sem, Act.eval]
        · intro v2 w7 hr hd
          refine yields_run (u := .int .i64 (ip : Nat)) (w' := w7) ?_ (Below.refl _ _) rfl
          unfold execOp
          simp [go_sem, Act.eval, Act.put]
        · intro v2 w7 hr hd
          refine yields_run (u := .slice (some ⟨g, 0, none⟩) m m) (w' := w7) ?_ (Below.refl _ _) rfl
          unfold execOp
          simp [go_sem, Act.eval, Act.put]
        · intro v2 w7 hr hd
          refine yields_run (u := .int .i64 (ip : Nat)) (w' := w7) ?_ (Below.refl _ _) rfl
          unfold execOp
          simp [go_sem, Act.eval, Act.put]
        · intro v2 w7 hr hd
          have h2 : v2 2 = _ := hd 2 (by kernel_rfl)
          have h3 : v2 3 = _ := hd 3 (by kernel_rfl)
          exact yields_index (b := g) (off := 0) (n := m) (c := m) (i := ip) (m := 1) rfl (by simp [Act.eval, Act.put, h2, h3]) (by simp [Act.eval, Act.put, h2, h3]) hip Tryz.underlying25 (by intro w; simp [Tryz.sizeOf22])
        · intro v2 w7 hr ho hd
          have h4 : v2 4 = _ := hd 4 (by kernel_rfl)
          have k0 := ((ho.1 (.inl (by first | rfl | trivial))).cell (p := ⟨g, ip, none⟩) RY.out.gw).trans RY.out.cv
          refine .inl (.inl ⟨.slice B N.length c0, w7, ?_, hr, fun _ _ _ _ hu => hu, fun _ _ _ _ hu => hu, rfl⟩)
          unfold execOp
          simp [go_sem, Act.eval, Act.put, h4, k0]
        · intro v2 w7 hr hd
          have k0 := hr.c0
          have k1 := hr.c1
          refine yields_run (u := .agg #[.int .i64 x.k, .int .i64 x.v]) (w' := w7) ?_ (Below.refl _ _) rfl
          unfold execOp
          simp [go_sem, Act.eval, Act.put, k0, k1]
        · intro v2 w7 hr hd
          have h6 : v2 6 = _ := hd 6 (by kernel_rfl)
          refine yields_run (u := .slice (some ⟨w7.heap.size, 0, none⟩) 1 1) (w' := w7.alloc (.cells (cR x).toArray 33)) ?_ (fresh0 w7 _) ⟨w7.heap.size, rfl, hr.size, Whole.fresh w7 _ _⟩
          unfold execOp
          simp [go_sem, Act.eval, Act.put, h6, cR]
        · intro v2 w7 hr ho hd
          have h5 : v2 5 = _ := hd 5 (by kernel_rfl)
          obtain ⟨gy, hz, hyl, hw⟩ : LoneG 33 cR wx.heap.size x (v2 7) w7 := hd 7 (by kernel_rfl)
          have hb7 := ho.1 (.inr (by first | rfl | trivial))
          refine .inl (yields_appendA (.tmp 44) (.tmp 46) 22 rfl w.heap.size 33 i0 (.agg #[.int .i64 0, .int .i64 0]) 2 16 Tryz.underlying22 hi0 hz0 hz1 hz2 rfl (by decide) (.slice B N.length c0) N.length (N.flatMap cR) (by simp [Act.eval, Act.put, h5]) (RY.out.ro.below hb7) ⟨gy, 0, none⟩ 1 1 (cR x) (by simp [Act.eval, Act.put, hz]) rfl (whole_cells hw) (cellsR.one x) (by decide) (by unfold maxLen; omega) (by omega) (Nat.le_trans RY.out.wl hr.size) ?_)
          intro g8 cap8 w8 hown hgrow hat
          refine ⟨hr.grow RY.out.wl RY.out.rb RY.out.ra hgrow, ?_, ?_, .inl ⟨own_snoc hown, (grown_run (World.grownBy.refl wx _) hb7).trans hgrow, ?_, _, _, by rw [List.length_append]; rfl⟩⟩
          · intro k2 v' hk2 hc hu
            exact match k2, hk2, hc, hu with
              | 0, _, _, hu => hu
              | 1, _, _, hu => hu
              | 2, _, _, hu => hu
              | 3, _, _, hu => hu
              | 4, _, _, hu => hu
              | 5, _, _, hu => hu
              | 6, _, _, hu => hu
              | 7, _, _, ⟨gx, h1, h2, h3⟩ => ⟨gx, h1, h2, h3.grown hgrow (fun e => absurd (RY.out.rl gx e.symm) (Nat.not_lt.2 h2))⟩
              | 8, hk2, _, _ => absurd rfl hk2
              | 9, _, _, hu => hu
              | 10, _, hc, _ => absurd hc (by decide)
              | _ + 11, _, _, _ => trivial
          · intro k2 hk2 hn hc2 h
            refine ⟨fun e => ?_, fun e => (hgrow.block g (Nat.lt_of_lt_of_le RY.out.gw hr.size) RY.out.ga).trans (h.2 e)⟩
            rcases e with rfl | rfl
            · exact absurd hc2 (by decide)
            · exact absurd rfl hk2
          · rcases hat with e | e
            · exact .inl e.symm
            · exact .inr ⟨g8, rfl, by rw [e]; exact hr.size⟩
        · intro v2 w7 hr hd
          have h0 : v2 0 = _ := hd 0 (by kernel_rfl)
          have h1 : v2 1 = _ := hd 1 (by kernel_rfl)
          exact yields_index (b := g) (off := 0) (n := m) (c := m) (i := ip) (m := 1) rfl (by simp [Act.eval, Act.put, h0, h1]) (by simp [Act.eval, Act.put, h0, h1]) hip Tryz.underlying25 (by intro w; simp [Tryz.sizeOf22])
        · intro v2 w7 hr ho hd
          have h9 : v2 9 = _ := hd 9 (by kernel_rfl)
          have hG : Grew 22 33 2 cR wx w.heap.size (.slice (some ⟨g, 0, none⟩) m m) vs (spr (pt (m : Int)) m (L.take k)) ip (.slice B N.length c0) (N ++ [x]) (v2 8) w7 := hd 8 (by kernel_rfl)
          obtain ⟨c5, f5, ⟨B8, c8, e8⟩, hN8⟩ := grew_store RY.out.hl RY.out.hn RY.out.hv RY.out.hm hG (ho.2 (by first | rfl | trivial))
          have hR8 := hr.grow RY.out.wl RY.out.rg RY.out.gl (only_store (g := g) (i := ip) (World.grownBy.refl w7 (some g)) (v2 8))
          refine .inr ⟨w7.setCell ⟨g, ip, none⟩ (v2 8), ?_, hR8, ?_, ?_, hN8⟩
          · clear hG hN8 hR8
            generalize v2 8 = u8 at e8
            subst e8
            unfold execOp
            simp [go_sem, Act.eval, Act.put, h9, c5, f5]
          · intro k2 v' hk2 hc hu
            exact match k2, hk2, hc, hu with
              | 0, _, _, hu => hu
              | 1, _, _, hu => hu
              | 2, _, _, hu => hu
              | 3, _, _, hu => hu
              | 4, _, _, hu => hu
              | 5, _, _, hu => hu
              | 6, _, _, hu => hu
              | 7, _, _, ⟨gx, h1, h2, h3⟩ => ⟨gx, h1, h2, h3.aside (by show gx ≠ g; have := RY.out.gw; omega) _⟩
              | 8, _, _, _ => .inr ⟨_, hN8⟩
              | 9, _, _, hu => hu
              | 10, hk2, _, _ => absurd rfl hk2
              | _ + 11, _, _, _ => trivial
          · intro k2 hk2 hn hc2 h
            refine ⟨fun e => ?_, fun e => absurd e hk2⟩
            rcases e with rfl | rfl <;> exact absurd hc2 (by decide)
        · intro v2 w7 hr hv
          have hNest := hv 10 (by decide)
          change Nest 22 33 2 cR w7 w.heap.size (.slice (some ⟨g, 0, none⟩) m m) (vs.set ip (v2 8)) ((spr (pt (m : Int)) m (L.take k)).set ip (N ++ [x])) at hNest
          rw [hfin]
          have HN9 := Lib.hid hNest
          have HB9 := Lib.hid hr.old
          clear hfin hv hr hNest
          generalize v2 8 = u8 at HN9 ⊢
          go_wp2_with fail
          go_roundw
          case rel => exact ⟨k + 1, vs.set ip u8, by omega, by go_num, by simp [HVL.out], Lib.hid (by rw [take_next HX.out, spr_next HIP.out, ← HD.out]; exact HN9.out), HB9⟩
          case measure => simp [intOf]; omega
    · obtain rfl : k = L.length := by omega
      rw [List.take_length] at HN
      go_wp2_with fail
      go_ret2
      exact ⟨g, vs, rfl, HN.out, HB.out⟩
set_option maxRecDepth 100000 in
theorem spread_no (A : Option Addr) (l c : Nat) (n : Int) (h : ¬ (1 ≤ n ∧ n ≤ 64)) (w : World) :
    Calls Tryz.prog 7 #[.slice A l c, .int .i64 n] w fun e W' => e = .returned (.tuple #[.slice none 0 0, .int .i64 1]) ∧ w = W' := by
  have PE : partE n = 1 := by unfold partE; rw [if_neg h]
  have CP := Lib.hid (fun a w0 => part_any a n w0)
  rw [PE] at CP
  clear PE h
  go_enter Tryz.func7, Tryz.ntmps7
  go_wp2_with (go_at_call 9; refine (CP.out _ _).mono ?_; rintro e w2 ⟨rfl, rfl⟩)
  go_ret2
  exact ⟨rfl, rfl⟩
theorem spread_any (A : Option Addr) (c : Nat) (L : List Rc) (n : Int) (mL : L.length ≤ 4096) (w : World) (hL : Lr w A L) :
    Calls Tryz.prog 7 #[.slice A L.length c, .int .i64 n] w fun e W' => ∃ B c', e = .returned (.tuple #[.slice B (sprV n L).length c', .int .i64 (partE n)]) ∧ LL 2 cR W' B (sprV n L) ∧ Below w.heap.size w W' := by
  by_cases h : 1 ≤ n ∧ n ≤ 64
  · obtain ⟨m, rfl⟩ : ∃ m : Nat, n = (m : Int) := ⟨n.toNat, by omega⟩
    have e1 : sprV (m : Int) L = spr (pt (m : Int)) m L := by unfold sprV; rw [if_pos h]; rfl
    have e2 : partE (m : Int) = 0 := by unfold partE; rw [if_pos h]
    refine (spread_yes A c L m (by omega) (by omega) mL w hL).mono fun e W' ⟨g, vs, he, hN, hB⟩ => ⟨some ⟨g, 0, none⟩, m, ?_, ?_, hB⟩
    · rw [he, e1, e2, spr_len]
    · rw [e1]; exact hN.lies cellsR
  · have e1 : sprV n L = [] := by unfold sprV; rw [if_neg h]
    have e2 : partE n = 1 := by unfold partE; rw [if_neg h]
    refine (spread_no A L.length c n h w).mono fun e W' ⟨he, hw⟩ => ⟨none, 0, ?_, ?_, hw ▸ Below.refl _ _⟩
    · rw [he, e1, e2]; rfl
    · rw [e1]; exact lL_nil _ _
end Go.Proofs.YtkfjgmfokpgcbaaGreatDoor.data
namespace Go.Proofs.YtkfjgmfokpgcbaaGreatDoor.data
open Go.ChangeShapes Go.WideShapes Go.ChangeAt Go.RowKit
open Go.Proofs.YtkfjgmfokpgcbaaGreatDoor.tm Go.Proofs.YtkfjgmfokpgcbaaGreatDoor.opened Go.Proofs.YtkfjgmfokpgcbaaGreatDoor.block Go.Proofs.YtkfjgmfokpgcbaaGreatDoor.words Go.Proofs.YtkfjgmfokpgcbaaGreatDoor.region Go.Proofs.YtkfjgmfokpgcbaaGreatDoor.stamp

def N0 : List Rc := [⟨2, 1⟩, ⟨1, 5⟩, ⟨1, 3⟩]
def N1 : List Rc := [⟨1, 3⟩, ⟨1, 5⟩, ⟨2, 1⟩]
def NZ : List Rc := List.replicate 65 ⟨0, 0⟩
def litT : Bs := [49, 58, 51, 44, 49, 58, 53, 44, 50, 58, 49]
theorem n1_srt : srtR N0 = N1 := by
  refine (srt_uniq (N := N1) (L := N0) ?_ ?_).symm
  · unfold N1 N0
    exact ((List.Perm.swap _ _ _).trans ((List.Perm.swap _ _ _).cons _)).trans ((List.Perm.swap _ _ _).trans (List.Perm.refl _)) |>.trans (by decide)
  · unfold Srt N1
    decide
theorem n1_in : InR N1 := by
  intro r hr
  unfold N1 at hr
  simp at hr
  rcases hr with rfl | rfl | rfl <;> exact ⟨⟨by decide, by decide⟩, ⟨by decide, by decide⟩⟩
theorem n1_txt : txtL N1 = litT := by kernel_rfl
theorem n1_prs : prsV litT = N1 ∧ prsE litT = 0 := by
  obtain ⟨h1, h2⟩ := recs_text n1_in (by unfold N1; simp)
  rw [n1_txt] at h1 h2
  exact prs_some h1 h2 (by decide)
theorem t0_in : T0.In := by constructor <;> decide
theorem n1_chk : chkB 3 T0 3 = 0 := by decide
theorem nz_len : NZ.length = 65 := by simp [NZ]
theorem lr_freshL (w : World) (M : List Rc) (T : TypeId) : Lr (w.alloc (.cells (M.flatMap cR).toArray T)) (some ⟨w.heap.size, 0, none⟩) M := by
  refine .inr ⟨w.heap.size, 0, rfl, by simp, fun i x hx => ?_⟩
  rw [List.getElem?_map] at hx
  obtain ⟨y, hy, rfl⟩ := Option.map_eq_some_iff.1 hx
  refine ⟨rfl, fun j hj => ?_⟩
  have := (Whole.fresh w T (M.flatMap cR).toArray).read (i * 2 + j)
  rw [Nat.zero_add, this, List.getElem?_toArray]
  exact flatG_at cellsR M i y j hy hj
theorem w_order (w : World) : Calls Tryz.prog 19 #[.slice (some ⟨w.heap.size, 0, none⟩) 3 3] (w.alloc (.cells #[.int .i64 2, .int .i64 1, .int .i64 1, .int .i64 5, .int .i64 1, .int .i64 3] 33)) fun e w' => ∃ B c, e = .returned (.slice B 3 c) ∧ Lr w' B N1 ∧ Below w.heap.size w w' := by
  have h := order_any (some ⟨w.heap.size, 0, none⟩) 3 N0 (by decide) _ (lr_freshL w N0 33)
  rw [n1_srt] at h
  exact h.mono fun _ _ ⟨B, c, e1, e2, e3⟩ => ⟨B, c, e1, e2, then_below (fresh0 _ _) e3⟩
theorem w_cut (w : World) : Calls Tryz.prog 11 #[.slice (some ⟨w.heap.size, 0, none⟩) 65 65] (w.alloc (.cells (NZ.flatMap cR).toArray 33)) fun e w' => ∃ B c, e = .returned (.slice B 2 c) ∧ LL 2 cR w' B (pcs NZ) ∧ Below w.heap.size w w' := by
  have h := cut_any (some ⟨w.heap.size, 0, none⟩) 65 NZ (by rw [nz_len]; decide) _ (lr_freshL w NZ 33)
  rw [nz_len] at h
  have e : (pcs NZ).length = 2 := by unfold pcs; rw [nz_len]; rfl
  rw [e] at h
  exact h.mono fun _ _ ⟨B, c, e1, e2, e3⟩ => ⟨B, c, e1, e2, then_below (fresh0 _ _) e3⟩
theorem nz_at0 {w : World} {B : Option Addr} (h : LL 2 cR w B (pcs NZ)) : ∃ b off A0 c0 A1 c1, B = some ⟨b, off, none⟩ ∧ b < w.heap.size ∧ w.cell? ⟨b, off, none⟩ = some (.slice A0 64 c0) ∧ w.cell? ⟨b, off + 1, none⟩ = some (.slice A1 1 c1) := by
  have h0 : (pcs NZ)[0]? = some (NZ.take 64) := pcs_get (k := 0) (by rw [nz_len]; decide)
  have h1 : (pcs NZ)[1]? = some ((NZ.drop 64).take 64) := pcs_get (k := 1) (by rw [nz_len]; decide)
  obtain ⟨b, off, B0, c0, rfl, hb, hc0, -⟩ := h.rows 0 _ h0
  obtain ⟨b', off', B1, c1, e, -, hc1, -⟩ := h.rows 1 _ h1
  injection (Option.some.inj e) with e1 e2
  subst e1 e2
  rw [show (NZ.take 64).length = 64 by rw [List.length_take, nz_len]; rfl] at hc0
  rw [show ((NZ.drop 64).take 64).length = 1 by rw [List.length_take, List.length_drop, nz_len]; rfl] at hc1
  exact ⟨b, off, B0, c0, B1, c1, rfl, hb, hc0, hc1⟩
theorem w_parse (w : World) (hE : Env w) : Calls Tryz.prog 20 #[sV litT] w fun e w' => ∃ A c, e = .returned (.tuple #[.slice A 3 c, .int .i64 0]) ∧ Lr w' A N1 ∧ Below w.heap.size w w' := by
  have h := parse_any litT (by decide) w hE
  rw [n1_prs.1, n1_prs.2] at h
  exact h.mono fun _ _ ⟨A, c, e1, e2, e3⟩ => ⟨A, c, e1, OwnG.lg cellsR e2, e3⟩
theorem w_write (w : World) (A : Option Addr) (c : Nat) (h : Lr w A N1) : Calls Tryz.prog 13 #[.agg #[.int .i64 3, .int .u32 0, .int .i64 0, .int .u32 0, .int .u32 0, .int .u32 0, .slice A 3 c]] w fun e w' => e = .returned (.tuple #[sB (wrB 3 T0 N1), .int .i64 0]) ∧ Below w.heap.size w w' := by
  have h := writeB_any 3 T0 t0_in N1 n1_in A c w h
  rw [show chkB 3 T0 N1.length = 0 from n1_chk, show wrV 3 T0 N1 = wrB 3 T0 N1 by unfold wrV; rw [if_pos (show chkB 3 T0 N1.length = 0 from n1_chk)]] at h
  exact h
theorem w_new (w : World) : Calls Tryz.prog 15 #[sB (wrB 3 T0 N1)] w fun e w' => ∃ g, e = .returned (.pointer (some ⟨g, 0, none⟩)) ∧ QA w' g (wrB 3 T0 N1, 0) ∧ w.heap.size ≤ g ∧ Below w.heap.size w w' :=
  (code.new_l (wrB 3 T0 N1) w).mono fun _ _ ⟨e1, e2, e3⟩ => ⟨_, e1, e2, Nat.le_refl _, (Below.refl _ _).grown e3 (Nat.le_refl _) (fun k e => by cases e)⟩
theorem w_read (w0 w : World) (g : Nat) (h : QA w g (wrB 3 T0 N1, 0)) (hg : w0.heap.size ≤ g) (b : Below w0.heap.size w0 w) : Calls Tryz.prog 16 #[.pointer (some ⟨g, 0, none⟩)] w fun e w' => ∃ B c, e = .returned (.agg (bt 3 T0 B 3 c)) ∧ Lr w' B N1 ∧ Below w0.heap.size w0 w' := by
  obtain ⟨h1, h2, h3, h4⟩ := rd_wrB (l := 3) (t := T0) t0_in n1_in n1_chk []
  rw [List.append_nil] at h1 h2 h3 h4
  have k := readB_any g (wrB 3 T0 N1, 0) (by decide +kernel) w h
  rw [h1, h2, h3, h4] at k
  exact k.mono fun e w' ⟨B, c, e1, e2, e3, e4, e5⟩ => ⟨B, c, e1, e2, b.grown e5 b.size (fun k e => by cases e; exact hg)⟩
theorem w_spread (w : World) (A : Option Addr) (c : Nat) (h : Lr w A N1) : Calls Tryz.prog 7 #[.slice A 3 c, .int .i64 0] w fun e w' => ∃ B c', e = .returned (.tuple #[.slice B 0 c', .int .i64 1]) ∧ Below w.heap.size w w' :=
  (spread_any A c N1 0 (by decide) w h).mono fun _ _ ⟨B, c', e1, _, e3⟩ => ⟨B, c', e1, e3⟩
theorem w_text (w : World) (hE : Env w) (A : Option Addr) (c : Nat) (h : Lr w A N1) : Calls Tryz.prog 21 #[.slice A 3 c] w fun e w' => e = .returned (sV litT) ∧ Below w.heap.size w w' := by
  have k := text_any N1 n1_in A c (by decide) w hE h
  rw [n1_txt] at k
  exact k
theorem w_alike (w : World) (A B : Option Addr) (c d : Nat) (h : Lr w A N1) (k : Lr w B N1) : Calls Tryz.prog 12 #[.slice A 3 c, .slice B 3 d] w fun e w' => e = .returned (.bool true) ∧ Below w.heap.size w w' :=
  alike_any A B c d N1 N1 (by decide) w h k
theorem w_check (w : World) : Calls Tryz.prog 22 #[.agg #[.int .i64 0, .int .u32 0, .int .i64 0, .int .u32 0, .int .u32 0, .int .u32 0, .slice none 0 0]] w fun e w' => e = .returned (.int .i64 3) ∧ Below w.heap.size w w' :=
  check_any 0 T0 t0_in none 0 0 w
theorem w_same (w : World) (A B : Option Addr) (c d : Nat) (h : Lr w A N1) (k : Lr w B N1) : Calls Tryz.prog 10 #[.slice A 3 c, .slice B 3 d] w fun e w' => e = .returned (.bool true) ∧ Below w.heap.size w w' := by
  have := same_any A B c d N1 N1 (by decide) (by decide) w h k
  rw [decide_eq_true rfl] at this
  exact this
theorem w_same0 (w : World) (A : Option Addr) (c : Nat) (h : Lr w A N1) : Calls Tryz.prog 10 #[.slice A 3 c, .slice none 0 0] w fun e w' => e = .returned (.bool false) ∧ Below w.heap.size w w' := by
  have := same_any A none c 0 N1 [] (by decide) (by decide) w h (lg_nil _ _)
  rw [decide_eq_false (fun e => by have := congrArg List.length e; rw [srt_len, srt_len] at this; cases this)] at this
  exact this
theorem run_made (w : World) : (Instr.makeSlice 22 (.int .i64 65) (.int .i64 65)).run Tryz.prog w = .ok (.slice (some ⟨w.heap.size, 0, none⟩) 65 65) (w.alloc (.cells (NZ.flatMap cR).toArray 33)) := by
  obtain ⟨i0, hi0, hz0, hz1, hz2⟩ := infoR_parts
  have := run_makeSlice (P := Tryz.prog) w 22 33 i0 _ Tryz.underlying22 hi0 hz0 .i64 .i64 65 65 (by decide) (by decide) (by rw [hz1]; decide) (by rw [hz2]; decide) (by decide)
  rw [hz1, show madeCells (Value.agg #[.int .i64 0, .int .i64 0]).cells (Int.toNat 65 * 2) = (NZ.flatMap cR).toArray by kernel_rfl] at this
  exact this
set_option maxRecDepth 100000 in
set_option maxHeartbeats 4000000 in
theorem works_any (w : World) (hE : Env w) : Calls Tryz.prog 6 #[] w fun e w' => e = .returned (.bool true) ∧ Below w.heap.size w w' := by
  have WO := Lib.hid (w_order w)
  have EV := Lib.hid (fun W (b : Below w.heap.size w W) => Env.below hE b)
  clear hE
  go_enter Tryz.func6, Tryz.ntmps6
  go_upto_region 2 with (go_at_call 19; refine WO.out.mono ?_; rintro e w1 ⟨N, nc, rfl, hN, b1⟩; have HN := Lib.hid hN; have B1 := Lib.hid b1; clear hN b1)
  have mk := run_made w1
  have WC := Lib.hid (w_cut w1)
  go_upto_region 3 with (go_at_call 11; refine WC.out.mono ?_; rintro e w2 ⟨P, pc, rfl, hp, b2⟩; have HP := Lib.hid hp; have HN2 := Lib.hid (HN.out.below b2); have B2 := Lib.hid (then_below B1.out b2); clear hp b2)
  clear mk WC WO HN B1
  have WP := Lib.hid (w_parse w2 (EV.out _ B2.out))
  go_upto_region 4 with (go_at_call 20; refine WP.out.mono ?_; rintro e w3 ⟨L, lc, rfl, hL, b3⟩; have HL := Lib.hid hL; have HP3 := Lib.hid (HP.out.below b3); have HN3 := Lib.hid (HN2.out.below b3); have B3 := Lib.hid (then_below B2.out b3); clear hL b3)
  clear WP HP HN2 B2
  have WW := Lib.hid (w_write w3 N nc HN3.out)
  go_upto_region 5 with (go_at_call 13; refine WW.out.mono ?_; rintro e w4 ⟨rfl, b4⟩; have HL4 := Lib.hid (HL.out.below b4); have HP4 := Lib.hid (HP3.out.below b4); have HN4 := Lib.hid (HN3.out.below b4); have B4 := Lib.hid (then_below B3.out b4); clear b4)
  clear WW HL HP3 HN3 B3
  have WN := Lib.hid (w_new w4)
  have WR := Lib.hid (w_read w4)
  generalize wrB 3 T0 N1 = bs at WN WR ⊢
  go_upto_region 6 with (first
    | (go_at_call 16; refine (WR.out _ _ HQ.out HG.out B5.out).mono ?_; rintro e w6 ⟨R, rc, rfl, hR, b6⟩; have HR := Lib.hid hR; have HL6 := Lib.hid (HL4.out.below b6); have HP6 := Lib.hid (HP4.out.below b6); have HN6 := Lib.hid (HN4.out.below b6); have B6 := Lib.hid (then_below B4.out b6); clear hR b6)
    | (go_at_call 15; refine WN.out.mono ?_; rintro e w5 ⟨g, rfl, hq, hg, b5⟩; have HQ := Lib.hid hq; have HG := Lib.hid hg; have B5 := Lib.hid b5; clear hq hg b5))
  clear WN WR HQ HG B5 HL4 HP4 HN4 B4
  have b7 := fresh0 w6 (.cells (bt 3 T0 R 3 rc) 46)
  have H7 := Whole.fresh w6 46 (bt 3 T0 R 3 rc)
  have HR7 := Lib.hid (HR.out.below b7)
  have HL7 := Lib.hid (HL6.out.below b7)
  have HP7 := Lib.hid (HP6.out.below b7)
  have HN7 := Lib.hid (HN6.out.below b7)
  have B7 := Lib.hid (then_below B6.out b7)
  clear HR HL6 HP6 HN6 B6 b7
  change Code.wp _ _ _ _ (w6.alloc (.cells (bt 3 T0 R 3 rc) 46))
  generalize w6.alloc (.cells (bt 3 T0 R 3 rc) 46) = w7 at H7 HR7 HL7 HP7 HN7 B7 ⊢
  generalize w6.heap.size = g7 at H7 ⊢
  have HW7 := Lib.hid H7
  clear H7
  have ET := Lib.hid (fun W (b : Below w.heap.size w W) h => w_text W (EV.out W b) N nc h)
  clear EV
  go_wp2_with (first
    | (go_at_call 10; (with_reducible refine (w_same0 _ N nc HN13.out).mono ?_); rintro e w14 ⟨rfl, b14⟩; have B14 := Lib.hid (then_below B13.out b14); clear b14)
    | (go_at_call 10; (with_reducible refine (w_same _ N L nc lc HN12.out HL12.out).mono ?_); rintro e w13 ⟨rfl, b13⟩; have HN13 := Lib.hid (HN12.out.below b13); have B13 := Lib.hid (then_below B12.out b13); clear b13)
    | (go_at_call 22; (with_reducible refine (w_check _).mono ?_); rintro e w12 ⟨rfl, b12⟩; have HN12 := Lib.hid (HN11.out.below b12); have HL12 := Lib.hid (HL11.out.below b12); have B12 := Lib.hid (then_below B11.out b12); clear b12)
    | (go_at_call 12; (with_reducible refine (w_alike _ R N rc nc HR10.out HN10.out).mono ?_); rintro e w11 ⟨rfl, b11⟩; have HN11 := Lib.hid (HN10.out.below b11); have HL11 := Lib.hid (HL10.out.below b11); have B11 := Lib.hid (then_below B10.out b11); clear b11)
    | (go_at_call 12; (with_reducible refine (w_alike _ L N lc nc HL9.out HN9.out).mono ?_); rintro e w10 ⟨rfl, b10⟩; have HN10 := Lib.hid (HN9.out.below b10); have HL10 := Lib.hid (HL9.out.below b10); have HR10 := Lib.hid (HR9.out.below b10); have HW10 := Lib.hid (HW9.out.below b10 HW9.out.inside); have B10 := Lib.hid (then_below B9.out b10); have k0 : w10.cell? ⟨g7, 0, none⟩ = some (.int .i64 3) := HW10.out.read 0; have k6 : w10.cell? ⟨g7, 6, none⟩ = some (.slice R 3 rc) := HW10.out.read 6; clear b10)
    | (go_at_call 21; (with_reducible refine (ET.out _ B8.out HN8.out).mono ?_); rintro e w9 ⟨rfl, b9⟩; have HN9 := Lib.hid (HN8.out.below b9); have HL9 := Lib.hid (HL8.out.below b9); have HR9 := Lib.hid (HR8.out.below b9); have HW9 := Lib.hid (HW8.out.below b9 HW8.out.inside); obtain ⟨pb, po, A0, c0, A1, c1, rfl, hpb, hc0, hc1⟩ := nz_at0 (HP8.out.below b9); have B9 := Lib.hid (then_below B8.out b9); clear b9)
    | (go_at_call 7; (with_reducible refine (w_spread _ N nc HN7.out).mono ?_); rintro e w8 ⟨S, sc, rfl, b8⟩; have HN8 := Lib.hid (HN7.out.below b8); have HL8 := Lib.hid (HL7.out.below b8); have HR8 := Lib.hid (HR7.out.below b8); have HP8 := Lib.hid (HP7.out.below b8); have HW8 := Lib.hid (HW7.out.below b8 HW7.out.inside); have B8 := Lib.hid (then_below B7.out b8); clear b8))
  go_ret
  exact ⟨rfl, B14.out⟩
end Go.Proofs.YtkfjgmfokpgcbaaGreatDoor.data
