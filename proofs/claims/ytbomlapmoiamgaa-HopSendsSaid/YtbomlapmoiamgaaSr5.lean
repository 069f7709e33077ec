/-
  law17's From, the document's Same (by gen_sr5.py).
-/
import Derived.Test.YtbomlapmoiamgaaSr4
import Derived.Test.YtbomlapmoiamgaaHix
import Derived.ChangeKeysEq
import Derived.Laws.StructEq
set_option linter.unusedSimpArgs false
set_option linter.unusedVariables false
namespace Go.Proofs.Ytbomlapmoiamgaa.hop
open Go.ChangeShapes Go.WideShapes Go.ChangeAt Go.RowKit
open Go.Proofs.Ytbomlapmoiamgaa.opened Go.Proofs.Ytbomlapmoiamgaa.block Go.Proofs.Ytbomlapmoiamgaa.words Go.Proofs.Ytbomlapmoiamgaa.region
theorem fieldsIr : (Try.prog.fieldsOf 101).toList.map (fun f => (f.name == "_", f.type, f.offset)) = [(false, 3, 0), (false, 9, 1)] := by kernel_rfl
theorem namesIr : ∃ f g : Field, (Try.prog.fieldsOf 101).toList = [f, g] ∧ (f.name ≠ "_" ∧ f.type = 3 ∧ f.offset = 0) ∧ (g.name ≠ "_" ∧ g.type = 9 ∧ g.offset = 1) := by
  have k := fieldsIr
  match hq : (Try.prog.fieldsOf 101).toList with
  | [f, g] =>
    rw [hq] at k
    simp at k
    obtain ⟨⟨a1, a2, a3⟩, b1, b2, b3⟩ := k
    exact ⟨f, g, rfl, ⟨a1, a2, a3⟩, b1, b2, b3⟩
  | [] => rw [hq] at k; simp at k
  | [_] => rw [hq] at k; simp at k
  | _ :: _ :: _ :: _ => rw [hq] at k; simp at k
theorem descIr : Try.prog.underlying 101 = some (.struct (Try.prog.fieldsOf 101)) := by kernel_rfl
theorem stoodIr : Try.prog.stoodInHeld 101 = false := by kernel_rfl
theorem plainIrI : Try.prog.plainKey 3 = true := by kernel_rfl
theorem plainIrS : Try.prog.plainKey 9 = true := by kernel_rfl
theorem guardIr : Try.prog.eqGuardType Try.prog.depth 101 = false := by kernel_rfl
set_option maxRecDepth 100000 in
theorem run_neI (x : It) (w : World) : (binOp .neq 101 (.agg (cI x).toArray) (.agg (cI x).toArray)).run Try.prog w = .ok (.bool false) w := by
  obtain ⟨f, g, hl, ⟨f1, f2, f3⟩, g1, g2, g3⟩ := namesIr
  have k : (Op.equalIn 10000 101 (.agg (cI x).toArray) (.agg (cI x).toArray)).run Try.prog w = .ok true w := by
    rw [run_equalIn_struct w 9999 101 _ _ descIr stoodIr, hl]
    simp only [Op.eqFields, f1, g1, f2, g2, f3, g3, ne_eq, not_false_eq_true, if_true, Sem.run_bind]
    rw [run_part_plain w plainIrI (v := .int .i64 x.n) (by simp [cI])]
    simp only [Result.andThen_ok]
    rw [run_part_plain w plainIrI (v := .int .i64 x.n) (by simp [cI])]
    simp only [Result.andThen_ok]
    rw [run_equalIn_int w 9998 3 .i64 .i64 _ _ Try.underlying3]
    simp only [Result.andThen_ok, beq_self_eq_true, Bool.not_true, Bool.false_eq_true, if_false, Sem.run_bind]
    rw [run_part_plain w plainIrS (v := sV x.s) (by simp [cI])]
    simp only [Result.andThen_ok]
    rw [run_part_plain w plainIrS (v := sV x.s) (by simp [cI])]
    simp only [Result.andThen_ok]
    rw [run_equalIn_string w 9998 9 _ _ Try.underlying9]
    simp
  rw [run_neq_struct, k]
  rfl
theorem own_cellsI {T : TypeId} {w : World} {z b c : Nat} {M : List It} (h : OwnG T 2 cI w z (.slice (some ⟨b, 0, none⟩) M.length c) M) {k : Nat} {x : It} (hx : M[k]? = some x) : w.cell? ⟨b, k * 2, none⟩ = some (.int .i64 x.n) ∧ w.cell? ⟨b, k * 2 + 1, none⟩ = some (sV x.s) ∧ w.frozen? ⟨b, k * 2, none⟩ = false :=
  ⟨((own_flat h).2.2.2.2 (k * 2 + 0) _ ((flatG_at cellsI M k x 0 hx (by omega)).trans rfl)).1, ((own_flat h).2.2.2.2 (k * 2 + 1) _ ((flatG_at cellsI M k x 1 hx (by omega)).trans rfl)).1, ((own_flat h).2.2.2.2 (k * 2 + 0) _ ((flatG_at cellsI M k x 0 hx (by omega)).trans rfl)).2⟩
def OwnPR (z : Nat) (N : List It) (u : Value) (w : World) : Prop := ∃ B c, u = .slice B N.length c ∧ OwnG 101 2 cI w z (.slice B N.length c) N
theorem keeps_ownPR (z : Nat) (N : List It) : Keeps (OwnPR z N) := fun _ _ _ hb ⟨B, c, h1, h2⟩ => ⟨B, c, h1, h2.below hb⟩
def LoneR (x : It) (u : Value) (w : World) : Prop := ∃ gx, u = .slice (some ⟨gx, 0, none⟩) 1 1 ∧ Whole w gx 101 (cI x).toArray
theorem keeps_loneR (x : It) : Keeps (LoneR x) := fun _ _ _ hb ⟨g, h1, h2⟩ => ⟨g, h1, h2.below hb h2.inside⟩
section
variable {w : World}
set_option maxRecDepth 100000 in
set_option maxHeartbeats 8000000 in
theorem sameR_any {M : List It} {z1 z2 : Nat} {A1 A2 : Option Addr} {c1 c2 : Nat} (h1 : OwnG 101 2 cI w z1 (.slice A1 M.length c1) M) (h2 : OwnG 101 2 cI w z2 (.slice A2 M.length c2) M) (hl : M.length ≤ 64) : Calls Try.prog 33 #[.slice A1 M.length c1, .slice A2 M.length c2] w fun e w' => e = .returned (.bool true) ∧ Below w.heap.size w w' := by
  have H1 := Lib.hid h1
  have H2 := Lib.hid h2
  clear h1 h2
  go_enter Try.func33, Try.ntmps33
  go_wp2_with fail
  go_loopw [5] (fun i wr => ∃ (k : Nat), k ≤ M.length ∧ i = .int .i64 (k : Int) ∧ Hid (Below w.heap.size w wr)) (fun i _ => M.length - (intOf i).toNat)
  case atStart => exact ⟨0, Nat.zero_le _, rfl, Lib.hid (Below.refl _ _)⟩
  case round =>
    obtain ⟨k, hk, rfl, HB⟩ := hrel
    have hli : (M.length : Int) ≤ 64 := by omega
    by_cases hkl : k < M.length
    · have hki : (k : Int) < (M.length : Int) := by omega
      obtain ⟨x, hx⟩ : ∃ x, M[k]? = some x := ⟨_, List.getElem?_eq_getElem hkl⟩
      obtain ⟨b1, rfl⟩ := own_some H1.out (by omega)
      obtain ⟨b2, rfl⟩ := own_some H2.out (by omega)
      have HC1 := Lib.hid (fun (w7 : World) (hb : Below w.heap.size w w7) => own_cellsI (H1.out.below hb) hx)
      have HC2 := Lib.hid (fun (w7 : World) (hb : Below w.heap.size w w7) => own_cellsI (H2.out.below hb) hx)
      have HKL := Lib.hid hkl
      clear hx
      go_upto_region 6 with fail
      refine wp_frame ?_
      intro a9 ha9
      have hN9 : a9.tmps.size = 26 := by rw [ha9]; rfl
      have e0 : a9.eval (.tmp 0) = .slice (some ⟨b1, 0, none⟩) M.length c1 := by rw [ha9]; rfl
      have e1 : a9.eval (.tmp 1) = .slice (some ⟨b2, 0, none⟩) M.length c2 := by rw [ha9]; rfl
      have e5 : a9.eval (.tmp 5) = .int .i64 (k : Int) := by rw [ha9]; rfl
      have HA9 := Lib.hid ha9
      clear ha9
      refine region_fullZ 26 [] [] [] (fun k => false) (fun w7 => Below wr.heap.size wr w7) ?hR ?r0 [pdOne 0 (Is (.slice (some ⟨b1, 0, none⟩) M.length c1)), pdOne 1 (Is (.int .i64 (k : Int))), pdOne 2 (Is (.pointer (some ⟨b1, 0 + k * 2, none⟩))), pdOne 3 (Is (x.val)), pdOne 4 (Is (.slice (some ⟨b2, 0, none⟩) M.length c2)), pdOne 5 (Is (.int .i64 (k : Int))), pdOne 6 (Is (.pointer (some ⟨b2, 0 + k * 2, none⟩))), pdOne 7 (Is (x.val)), pdOne 8 (Is (.bool false))] (fun k w7 => True) (by kernel_rfl) hN9 (by kernel_rfl) (by kernel_rfl) (by kernel_rfl) (by kernel_rfl) (by kernel_rfl) ?keep ?hO ?h0 ?tell
      case hR => exact fun w7 w8 hb h => then_below h hb
      case r0 => exact Below.refl _ _
      case keep => exact ⟨keep_one (keeps_is _), keep_one (keeps_is _), keep_one (keeps_is _), keep_one (keeps_is _), keep_one (keeps_is _), keep_one (keeps_is _), keep_one (keeps_is _), keep_one (keeps_is _), keep_one (keeps_is _), trivial⟩
      case hO => exact fun _ _ _ _ h => h
      case h0 => exact fun _ _ => trivial
      case tell =>
        intro fin hfin
        apply And.intro
        case' left => (simp only [TellZ]; refine ⟨?_, ?_, ?_, ?_, ?_, ?_, ?_, ?_, ?_, trivial⟩)
        · intro v2 w7 hr hd
          refine ⟨(fun j b h => nomatch h), ?_⟩
          refine yields_run (u := .slice (some ⟨b1, 0, none⟩) M.length c1) (w' := w7) ?_ (Below.refl _ _) rfl
          unfold execOp
          (try simp only [List.map_toArray, List.map_cons, List.map_nil, ev_ne, ev_eq, ev_const, put_size, hN9, ne_eq, Nat.reduceEqDiff, not_false_eq_true, Nat.reduceLT, e0, e1, e5])
          (try simp [go_sem])
        · intro v2 w7 hr hd
          refine ⟨(fun j b h => nomatch h), ?_⟩
          refine yields_run (u := .int .i64 (k : Int)) (w' := w7) ?_ (Below.refl _ _) rfl
          unfold execOp
          (try simp only [List.map_toArray, List.map_cons, List.map_nil, ev_ne, ev_eq, ev_const, put_size, hN9, ne_eq, Nat.reduceEqDiff, not_false_eq_true, Nat.reduceLT, e0, e1, e5])
          (try simp [go_sem])
        · intro v2 w7 hr hd
          have h0 : v2 0 = .slice (some ⟨b1, 0, none⟩) M.length c1 := hd 0 (by kernel_rfl)
          have h1 : v2 1 = .int .i64 (k : Int) := hd 1 (by kernel_rfl)
          refine ⟨(fun j b h => nomatch h), ?_⟩
          exact yields_index (b := b1) (off := 0) (n := M.length) (c := c1) (i := k) (m := 2) rfl (by simp only [List.map_toArray, List.map_cons, List.map_nil, ev_ne, ev_eq, ev_const, put_size, hN9, ne_eq, Nat.reduceEqDiff, not_false_eq_true, Nat.reduceLT, e0, e1, e5, h0, h1]) (by simp only [List.map_toArray, List.map_cons, List.map_nil, ev_ne, ev_eq, ev_const, put_size, hN9, ne_eq, Nat.reduceEqDiff, not_false_eq_true, Nat.reduceLT, e0, e1, e5, h0, h1]) HKL.out Try.underlying67 (by intro w; simp [Try.sizeOf101])
        · intro v2 w7 hr hd
          have h2 : v2 2 = .pointer (some ⟨b1, 0 + k * 2, none⟩) := hd 2 (by kernel_rfl)
          refine ⟨(fun j b h => nomatch h), ?_⟩
          obtain ⟨k0, k1, kf⟩ := HC1.out w7 (HB.out.trans (hr.mono HB.out.size))
          refine yields_run (u := x.val) (w' := w7) ?_ (Below.refl _ _) rfl
          unfold execOp
          (try simp only [List.map_toArray, List.map_cons, List.map_nil, ev_ne, ev_eq, ev_const, put_size, hN9, ne_eq, Nat.reduceEqDiff, not_false_eq_true, Nat.reduceLT, e0, e1, e5, h2])
          (try simp [go_sem, k0, k1, kf])
        · intro v2 w7 hr hd
          refine ⟨(fun j b h => nomatch h), ?_⟩
          refine yields_run (u := .slice (some ⟨b2, 0, none⟩) M.length c2) (w' := w7) ?_ (Below.refl _ _) rfl
          unfold execOp
          (try simp only [List.map_toArray, List.map_cons, List.map_nil, ev_ne, ev_eq, ev_const, put_size, hN9, ne_eq, Nat.reduceEqDiff, not_false_eq_true, Nat.reduceLT, e0, e1, e5])
          (try simp [go_sem])
        · intro v2 w7 hr hd
          refine ⟨(fun j b h => nomatch h), ?_⟩
          refine yields_run (u := .int .i64 (k : Int)) (w' := w7) ?_ (Below.refl _ _) rfl
          unfold execOp
          (try simp only [List.map_toArray, List.map_cons, List.map_nil, ev_ne, ev_eq, ev_const, put_size, hN9, ne_eq, Nat.reduceEqDiff, not_false_eq_true, Nat.reduceLT, e0, e1, e5])
          (try simp [go_sem])
        · intro v2 w7 hr hd
          have h4 : v2 4 = .slice (some ⟨b2, 0, none⟩) M.length c2 := hd 4 (by kernel_rfl)
          have h5 : v2 5 = .int .i64 (k : Int) := hd 5 (by kernel_rfl)
          refine ⟨(fun j b h => nomatch h), ?_⟩
          exact yields_index (b := b2) (off := 0) (n := M.length) (c := c2) (i := k) (m := 2) rfl (by simp only [List.map_toArray, List.map_cons, List.map_nil, ev_ne, ev_eq, ev_const, put_size, hN9, ne_eq, Nat.reduceEqDiff, not_false_eq_true, Nat.reduceLT, e0, e1, e5, h4, h5]) (by simp only [List.map_toArray, List.map_cons, List.map_nil, ev_ne, ev_eq, ev_const, put_size, hN9, ne_eq, Nat.reduceEqDiff, not_false_eq_true, Nat.reduceLT, e0, e1, e5, h4, h5]) HKL.out Try.underlying67 (by intro w; simp [Try.sizeOf101])
        · intro v2 w7 hr hd
          have h6 : v2 6 = .pointer (some ⟨b2, 0 + k * 2, none⟩) := hd 6 (by kernel_rfl)
          refine ⟨(fun j b h => nomatch h), ?_⟩
          obtain ⟨k0, k1, kf⟩ := HC2.out w7 (HB.out.trans (hr.mono HB.out.size))
          refine yields_run (u := x.val) (w' := w7) ?_ (Below.refl _ _) rfl
          unfold execOp
          (try simp only [List.map_toArray, List.map_cons, List.map_nil, ev_ne, ev_eq, ev_const, put_size, hN9, ne_eq, Nat.reduceEqDiff, not_false_eq_true, Nat.reduceLT, e0, e1, e5, h6])
          (try simp [go_sem, k0, k1, kf])
        · intro v2 w7 hr hd
          have h3 : v2 3 = x.val := hd 3 (by kernel_rfl)
          have h7 : v2 7 = x.val := hd 7 (by kernel_rfl)
          refine ⟨(fun j b h => nomatch h), ?_⟩
          have hne := run_neI x w7
          refine yields_run (u := .bool false) (w' := w7) ?_ (Below.refl _ _) rfl
          unfold execOp
          (try simp only [List.map_toArray, List.map_cons, List.map_nil, ev_ne, ev_eq, ev_const, put_size, hN9, ne_eq, Nat.reduceEqDiff, not_false_eq_true, Nat.reduceLT, e0, e1, e5, h3, h7])
          have hgu : ∀ (p q : Operand), (eqGuard .neq 101 p q x.val x.val).run Try.prog w7 = .ok () w7 := fun p q => run_eqGuard_agg w7 .neq 101 p q _ _ guardIr
          (try simp [go_sem, hgu, hne, cI])
        · intro v2 w6 hr hv
          have hz : v2 8 = .bool false := hv 8 (by decide) (by decide)
          have B6 : Hid (Below w.heap.size w w6) := Lib.hid (HB.out.trans (hr.mono HB.out.size))
          have hf := hfin v2
          rw [HA9.out] at hf
          simp [lexPut, Act.put, hz] at hf
          rw [hf]
          clear hf HA9 hN9 e0 e1 e5 hfin
          clear hz hv hr HC1 HC2
          go_wp2_with fail
          go_roundw
          case rel => exact ⟨k + 1, by omega, by go_num, B6⟩
          case measure => simp [intOf]; omega
    · have hki : ¬ (k : Int) < (M.length : Int) := by omega
      go_wp2_with fail
      go_ret
      exact ⟨rfl, HB.out⟩
set_option maxRecDepth 100000 in
set_option maxHeartbeats 8000000 in
theorem fromR_any {M : List It} {z : Nat} {A : Option Addr} {c : Nat} (h : OwnG 85 2 cI w z (.slice A M.length c) M) (hl : M.length ≤ 64) : Calls Try.prog 34 #[.slice A M.length c] w fun e w' => ∃ A2 c2, e = .returned (.slice A2 M.length c2) ∧ OwnG 101 2 cI w' w.heap.size (.slice A2 M.length c2) M ∧ Below w.heap.size w w' := by
  have H := Lib.hid h
  have C0 : Hid (Below w.heap.size w w ∧ OwnG 101 2 cI w w.heap.size (.slice none 0 0) []) := Lib.hid ⟨Below.refl _ _, ownG_nil _ _⟩
  clear h
  go_enter Try.func34, Try.ntmps34
  go_wp2_with fail
  go_loopw [3, 4] (fun s3 i wr => ∃ (k : Nat) (A9 : Option Addr) (c9 : Nat), k ≤ M.length ∧ i = .int .i64 (k : Int) ∧ s3 = .slice A9 (M.take k).length c9 ∧ Hid (Below w.heap.size w wr ∧ OwnG 101 2 cI wr w.heap.size (.slice A9 (M.take k).length c9) (M.take k))) (fun _ i _ => M.length - (intOf i).toNat)
  case atStart => exact ⟨0, none, 0, Nat.zero_le _, rfl, rfl, C0⟩
  case round =>
    obtain ⟨k, A9, c9, hk, rfl, rfl, HO⟩ := hrel
    clear C0
    have hli : (M.length : Int) ≤ 64 := by omega
    by_cases hkl : k < M.length
    · have hki : (k : Int) < (M.length : Int) := by omega
      obtain ⟨x, hx⟩ : ∃ x, M[k]? = some x := ⟨_, List.getElem?_eq_getElem hkl⟩
      obtain ⟨b1, rfl⟩ := own_some H.out (by omega)
      have HC1 := Lib.hid (fun (w7 : World) (hb : Below w.heap.size w w7) => own_cellsI (H.out.below hb) hx)
      have HKL := Lib.hid (show k < M.length ∧ M.length ≤ 64 from ⟨hkl, hl⟩)
      have hN : M.take (k + 1) = M.take k ++ [x] := by
        have e : M[k] = x := by rw [List.getElem?_eq_getElem hkl] at hx; exact Option.some.inj hx
        rw [List.take_succ_eq_append_getElem hkl, e]
      have HN := Lib.hid hN
      have hNl : (M.take k).length = k := by rw [List.length_take]; omega
      have HNl := Lib.hid hNl
      obtain ⟨i0, hi0, hz0, hz1, hz2⟩ := infoIR
      obtain ⟨N, hNN⟩ : ∃ N, N = M.take k := ⟨_, rfl⟩
      rw [← hNN] at HO HN HNl ⊢
      clear hx hN hNl hNN
      go_upto_region 5 with fail
      refine wp_frame ?_
      intro a9 ha9
      have hN9 : a9.tmps.size = 26 := by rw [ha9]; rfl
      have e0 : a9.eval (.tmp 0) = .slice (some ⟨b1, 0, none⟩) M.length c := by rw [ha9]; rfl
      have e3 : a9.eval (.tmp 3) = .slice A9 N.length c9 := by rw [ha9]; rfl
      have e4 : a9.eval (.tmp 4) = .int .i64 (k : Int) := by rw [ha9]; rfl
      have HA9 := Lib.hid ha9
      clear ha9
      refine region_fullZ 26 [(13, 12), (13, 14)] [] [(13, 12)] (fun k => k == 13) (fun w7 => Below w.heap.size w w7) ?hR ?r0 [pdOne 0 (Is (.slice A9 N.length c9)), pdOne 1 (Is (.slice (some ⟨b1, 0, none⟩) M.length c)), pdOne 2 (Is (.int .i64 (k : Int))), pdOne 3 (Is (.pointer (some ⟨b1, 0 + k * 2, none⟩))), pdOne 4 (Is (.pointer (some ⟨b1, 0 + k * 2, none⟩))), pdOne 5 (Is (.int .i64 x.n)), pdOne 6 (Is (.slice (some ⟨b1, 0, none⟩) M.length c)), pdOne 7 (Is (.int .i64 (k : Int))), pdOne 8 (Is (.pointer (some ⟨b1, 0 + k * 2, none⟩))), pdOne 9 (Is (.pointer (some ⟨b1, 0 + k * 2 + 1, none⟩))), pdOne 10 (Is (sV x.s)), pdOne 11 (Is (x.val)), pdOne 12 (LoneR x), pdOne 13 (OwnPR w.heap.size (N ++ [x])), pdOne 14 (OwnPR w.heap.size (N ++ [x]))] (fun k w7 => OwnG 101 2 cI w7 w.heap.size (.slice A9 N.length c9) N) (by kernel_rfl) hN9 (by kernel_rfl) (by kernel_rfl) (by kernel_rfl) (by kernel_rfl) (by kernel_rfl) ?keep ?hO ?h0 ?tell
      case hR => exact fun w7 w8 hb h => h.trans (hb.mono h.size)
      case r0 => exact HO.out.1
      case keep => exact ⟨keep_one (keeps_is _), keep_one (keeps_is _), keep_one (keeps_is _), keep_one (keeps_is _), keep_one (keeps_is _), keep_one (keeps_is _), keep_one (keeps_is _), keep_one (keeps_is _), keep_one (keeps_is _), keep_one (keeps_is _), keep_one (keeps_is _), keep_one (keeps_is _), keep_one (keeps_loneR _), keep_one (keeps_ownPR _ _), keep_one (keeps_ownPR _ _), trivial⟩
      case hO => exact fun _ w7 w8 hb h => h.below hb
      case h0 => exact fun _ _ => HO.out.2
      case tell =>
        intro fin hfin
        apply And.intro
        case' left => (simp only [TellZ]; refine ⟨?_, ?_, ?_, ?_, ?_, ?_, ?_, ?_, ?_, ?_, ?_, ?_, ?_, ?_, ?_, trivial⟩)
        · intro v2 w7 hr hd
          refine ⟨(fun j b h => nomatch h), ?_⟩
          refine yields_run (u := .slice A9 N.length c9) (w' := w7) ?_ (Below.refl _ _) rfl
          unfold execOp
          (try simp only [List.map_toArray, List.map_cons, List.map_nil, ev_ne, ev_eq, ev_const, put_size, hN9, ne_eq, Nat.reduceEqDiff, not_false_eq_true, Nat.reduceLT, e0, e3, e4])
          (try simp [go_sem])
        · intro v2 w7 hr hd
          refine ⟨(fun j b h => nomatch h), ?_⟩
          refine yields_run (u := .slice (some ⟨b1, 0, none⟩) M.length c) (w' := w7) ?_ (Below.refl _ _) rfl
          unfold execOp
          (try simp only [List.map_toArray, List.map_cons, List.map_nil, ev_ne, ev_eq, ev_const, put_size, hN9, ne_eq, Nat.reduceEqDiff, not_false_eq_true, Nat.reduceLT, e0, e3, e4])
          (try simp [go_sem])
        · intro v2 w7 hr hd
          refine ⟨(fun j b h => nomatch h), ?_⟩
          refine yields_run (u := .int .i64 (k : Int)) (w' := w7) ?_ (Below.refl _ _) rfl
          unfold execOp
          (try simp only [List.map_toArray, List.map_cons, List.map_nil, ev_ne, ev_eq, ev_const, put_size, hN9, ne_eq, Nat.reduceEqDiff, not_false_eq_true, Nat.reduceLT, e0, e3, e4])
          (try simp [go_sem])
        · intro v2 w7 hr hd
          have h1 : v2 1 = .slice (some ⟨b1, 0, none⟩) M.length c := hd 1 (by kernel_rfl)
          have h2 : v2 2 = .int .i64 (k : Int) := hd 2 (by kernel_rfl)
          refine ⟨(fun j b h => nomatch h), ?_⟩
          exact yields_index (b := b1) (off := 0) (n := M.length) (c := c) (i := k) (m := 2) rfl (by simp only [List.map_toArray, List.map_cons, List.map_nil, ev_ne, ev_eq, ev_const, put_size, hN9, ne_eq, Nat.reduceEqDiff, not_false_eq_true, Nat.reduceLT, e0, e3, e4, h1, h2]) (by simp only [List.map_toArray, List.map_cons, List.map_nil, ev_ne, ev_eq, ev_const, put_size, hN9, ne_eq, Nat.reduceEqDiff, not_false_eq_true, Nat.reduceLT, e0, e3, e4, h1, h2]) HKL.out.1 Try.underlying69 (by intro w; simp [Try.sizeOf85])
        · intro v2 w7 hr hd
          have h3 : v2 3 = .pointer (some ⟨b1, 0 + k * 2, none⟩) := hd 3 (by kernel_rfl)
          refine ⟨(fun j b h => nomatch h), ?_⟩
          refine yields_run (u := .pointer (some ⟨b1, 0 + k * 2, none⟩)) (w' := w7) ?_ (Below.refl _ _) rfl
          unfold execOp
          (try simp only [List.map_toArray, List.map_cons, List.map_nil, ev_ne, ev_eq, ev_const, put_size, hN9, ne_eq, Nat.reduceEqDiff, not_false_eq_true, Nat.reduceLT, e0, e3, e4, h3])
          (try simp [go_sem])
        · intro v2 w7 hr hd
          have h4 : v2 4 = .pointer (some ⟨b1, 0 + k * 2, none⟩) := hd 4 (by kernel_rfl)
          refine ⟨(fun j b h => nomatch h), ?_⟩
          obtain ⟨k0, k1, kf⟩ := HC1.out w7 hr
          refine yields_run (u := .int .i64 x.n) (w' := w7) ?_ (Below.refl _ _) rfl
          unfold execOp
          (try simp only [List.map_toArray, List.map_cons, List.map_nil, ev_ne, ev_eq, ev_const, put_size, hN9, ne_eq, Nat.reduceEqDiff, not_false_eq_true, Nat.reduceLT, e0, e3, e4, h4])
          (try simp [go_sem, k0, k1, kf])
        · intro v2 w7 hr hd
          refine ⟨(fun j b h => nomatch h), ?_⟩
          refine yields_run (u := .slice (some ⟨b1, 0, none⟩) M.length c) (w' := w7) ?_ (Below.refl _ _) rfl
          unfold execOp
          (try simp only [List.map_toArray, List.map_cons, List.map_nil, ev_ne, ev_eq, ev_const, put_size, hN9, ne_eq, Nat.reduceEqDiff, not_false_eq_true, Nat.reduceLT, e0, e3, e4])
          (try simp [go_sem])
        · intro v2 w7 hr hd
          refine ⟨(fun j b h => nomatch h), ?_⟩
          refine yields_run (u := .int .i64 (k : Int)) (w' := w7) ?_ (Below.refl _ _) rfl
          unfold execOp
          (try simp only [List.map_toArray, List.map_cons, List.map_nil, ev_ne, ev_eq, ev_const, put_size, hN9, ne_eq, Nat.reduceEqDiff, not_false_eq_true, Nat.reduceLT, e0, e3, e4])
          (try simp [go_sem])
        · intro v2 w7 hr hd
          have h6 : v2 6 = .slice (some ⟨b1, 0, none⟩) M.length c := hd 6 (by kernel_rfl)
          have h7 : v2 7 = .int .i64 (k : Int) := hd 7 (by kernel_rfl)
          refine ⟨(fun j b h => nomatch h), ?_⟩
          exact yields_index (b := b1) (off := 0) (n := M.length) (c := c) (i := k) (m := 2) rfl (by simp only [List.map_toArray, List.map_cons, List.map_nil, ev_ne, ev_eq, ev_const, put_size, hN9, ne_eq, Nat.reduceEqDiff, not_false_eq_true, Nat.reduceLT, e0, e3, e4, h6, h7]) (by simp only [List.map_toArray, List.map_cons, List.map_nil, ev_ne, ev_eq, ev_const, put_size, hN9, ne_eq, Nat.reduceEqDiff, not_false_eq_true, Nat.reduceLT, e0, e3, e4, h6, h7]) HKL.out.1 Try.underlying69 (by intro w; simp [Try.sizeOf85])
        · intro v2 w7 hr hd
          have h8 : v2 8 = .pointer (some ⟨b1, 0 + k * 2, none⟩) := hd 8 (by kernel_rfl)
          refine ⟨(fun j b h => nomatch h), ?_⟩
          refine yields_run (u := .pointer (some ⟨b1, 0 + k * 2 + 1, none⟩)) (w' := w7) ?_ (Below.refl _ _) rfl
          unfold execOp
          (try simp only [List.map_toArray, List.map_cons, List.map_nil, ev_ne, ev_eq, ev_const, put_size, hN9, ne_eq, Nat.reduceEqDiff, not_false_eq_true, Nat.reduceLT, e0, e3, e4, h8])
          (try simp [go_sem])
        · intro v2 w7 hr hd
          have h9 : v2 9 = .pointer (some ⟨b1, 0 + k * 2 + 1, none⟩) := hd 9 (by kernel_rfl)
          refine ⟨(fun j b h => nomatch h), ?_⟩
          obtain ⟨k0, k1, kf⟩ := HC1.out w7 hr
          refine yields_run (u := sV x.s) (w' := w7) ?_ (Below.refl _ _) rfl
          unfold execOp
          (try simp only [List.map_toArray, List.map_cons, List.map_nil, ev_ne, ev_eq, ev_const, put_size, hN9, ne_eq, Nat.reduceEqDiff, not_false_eq_true, Nat.reduceLT, e0, e3, e4, h9])
          (try simp [go_sem, k0, k1, kf])
        · intro v2 w7 hr hd
          have h5 : v2 5 = .int .i64 x.n := hd 5 (by kernel_rfl)
          have h10 : v2 10 = sV x.s := hd 10 (by kernel_rfl)
          refine ⟨(fun j b h => nomatch h), ?_⟩
          have hbb : Try.prog.built 101 [(0, .int .i64 x.n), (1, sV x.s)] = some #[.int .i64 x.n, sV x.s] := by kernel_rfl
          refine yields_run (u := x.val) (w' := w7) ?_ (Below.refl _ _) rfl
          unfold execOp
          (try simp only [List.map_toArray, List.map_cons, List.map_nil, ev_ne, ev_eq, ev_const, put_size, hN9, ne_eq, Nat.reduceEqDiff, not_false_eq_true, Nat.reduceLT, e0, e3, e4, h5, h10, hbb])
          (try simp [go_sem, h5, h10, hbb])
        · intro v2 w7 hr hd
          have h11 : v2 11 = x.val := hd 11 (by kernel_rfl)
          refine ⟨(fun j b h => nomatch h), ?_⟩
          refine yields_run (u := .slice (some ⟨w7.heap.size, 0, none⟩) 1 1) (w' := w7.alloc (.cells (cI x).toArray 101)) ?_ (fresh1 w7 _) ⟨w7.heap.size, rfl, Whole.fresh w7 _ _⟩
          unfold execOp
          (try simp only [List.map_toArray, List.map_cons, List.map_nil, ev_ne, ev_eq, ev_const, put_size, hN9, ne_eq, Nat.reduceEqDiff, not_false_eq_true, Nat.reduceLT, e0, e3, e4, h11])
          (try simp [go_sem, cI])
        · intro v2 w7 hr ho hd
          have h0 : v2 0 = .slice A9 N.length c9 := hd 0 (by kernel_rfl)
          refine ⟨(fun j b h => nomatch h), ?_⟩
          obtain ⟨gy, hz, hwy⟩ : LoneR x (v2 12) w7 := hd 12 (by kernel_rfl)
          refine .inl (yields_append (.tmp 11) (.tmp 23) 67 rfl w.heap.size 101 i0 (.agg #[.int .i64 0, sV []]) 2 24 Try.underlying67 hi0 hz0 hz1 hz2 rfl (by decide) (.slice A9 N.length c9) N.length (N.flatMap cI) (by simp only [List.map_toArray, List.map_cons, List.map_nil, ev_ne, ev_eq, ev_const, put_size, hN9, ne_eq, Nat.reduceEqDiff, not_false_eq_true, Nat.reduceLT, e0, e3, e4, h0]) ho ⟨gy, 0, none⟩ 1 1 (cI x) (by simp only [List.map_toArray, List.map_cons, List.map_nil, ev_ne, ev_eq, ev_const, put_size, hN9, ne_eq, Nat.reduceEqDiff, not_false_eq_true, Nat.reduceLT, e0, e3, e4, hz]) rfl (whole_cells hwy) (cellsI.one x) (by decide) (by have := HKL.out; have := HNl.out; unfold maxLen; omega) (by have := HKL.out; have := HNl.out; omega) hr.size ?_)
          intro g8 cap8 w8 hown hgrow
          refine ⟨hr.grown hgrow hr.size (fun j e => OwnG.above ho e), ?_, ?_, (show OwnPR w.heap.size (N ++ [x]) (.slice (some ⟨g8, 0, none⟩) (N.length + 1) cap8) w8 from ⟨some ⟨g8, 0, none⟩, cap8, by simp, by unfold OwnG; simpa using hown⟩)⟩
          · intro k2 v' hk2 hc2 hu
            exact match k2, hk2, hc2, hu with
              | 0, _, _, hu => hu
              | 1, _, _, hu => hu
              | 2, _, _, hu => hu
              | 3, _, _, hu => hu
              | 4, _, _, hu => hu
              | 5, _, _, hu => hu
              | 6, _, _, hu => hu
              | 7, _, _, hu => hu
              | 8, _, _, hu => hu
              | 9, _, _, hu => hu
              | 10, _, _, hu => hu
              | 11, _, _, hu => hu
              | 12, _, hc2, _ => absurd hc2 (by decide)
              | 13, hk2, _, _ => absurd rfl hk2
              | 14, _, hc2, _ => absurd hc2 (by decide)
              | _ + 15, _, _, _ => trivial
          · intro k2 hk2 hn hc2 hu
            exact absurd (by simpa using hn) hk2
        · intro v2 w7 hr hd
          refine ⟨(fun j b h => nomatch h), ?_⟩
          have hP : OwnPR w.heap.size (N ++ [x]) (v2 13) w7 := hd 13 (by kernel_rfl)
          refine yields_run (u := v2 13) (w' := w7) ?_ (Below.refl _ _) hP
          unfold execOp
          (try simp only [List.map_toArray, List.map_cons, List.map_nil, ev_ne, ev_eq, ev_const, put_size, hN9, ne_eq, Nat.reduceEqDiff, not_false_eq_true, Nat.reduceLT, e0, e3, e4])
          (try simp [go_sem])
        · intro v2 w6 hr hv
          obtain ⟨B6, d6, h14, ho⟩ : OwnPR w.heap.size (N ++ [x]) (v2 14) w6 := hv 14 (by decide) (by decide)
          have O6 : Hid (Below w.heap.size w w6 ∧ OwnG 101 2 cI w6 w.heap.size (.slice B6 (M.take (k + 1)).length d6) (M.take (k + 1))) := Lib.hid (by rw [HN.out]; exact ⟨hr, ho⟩)
          have hf := hfin v2
          rw [HA9.out] at hf
          simp [lexPut, Act.put, h14] at hf
          rw [hf]
          clear hf HA9 hN9 e0 e3 e4 hfin
          clear hv hr h14 ho HC1
          go_wp2_with fail
          go_roundw
          case rel => exact ⟨k + 1, B6, d6, by omega, by go_num, by rw [HN.out]; simp, O6⟩
          case measure => simp [intOf]; omega
    · obtain rfl : k = M.length := by omega
      have hki : ¬ (M.length : Int) < (M.length : Int) := by omega
      rw [List.take_length] at HO ⊢
      go_wp2_with fail
      go_ret
      exact ⟨A9, c9, rfl, HO.out.2, HO.out.1⟩
end
end Go.Proofs.Ytbomlapmoiamgaa.hop
