/-
  What the program's parse of a graph calls: a kind's number, up to two numbers.
  What a line adds to the draft of a graph: Gp5c (by gen_gp5.py).
-/
import Derived.Test.YtpblpjopinllcaaGreatDoorJGp1
import Derived.Laws.Slices
import Derived.Sort.Walk0
import Derived.Test.YtpblpjopinllcaaGreatDoorJGp4
import Derived.StillTailTactics
import Derived.BigQuiet
set_option linter.unusedSimpArgs false
set_option linter.unusedVariables false
namespace Go.Proofs.YtpblpjopinllcaaGreatDoor.graph
open Go.ChangeShapes Go.WideShapes Go.ChangeAt Go.RowKit
open Go.Proofs.YtpblpjopinllcaaGreatDoor.opened Go.Proofs.YtpblpjopinllcaaGreatDoor.block Go.Proofs.YtpblpjopinllcaaGreatDoor.words

theorem kindFrom_at {x : Bs} : ∀ (f k i : Nat), k ≤ i → i < k + f → (∀ j : Nat, k ≤ j → j < i → wordB (j : Nat) ≠ x) → wordB (i : Nat) = x → kindFrom x f k = i
  | 0, k, i, h1, h2, _, _ => by omega
  | f + 1, k, i, h1, h2, h3, h4 => by
    unfold kindFrom
    by_cases e : k = i
    · subst e
      rw [if_pos h4]
    · rw [if_neg (h3 k (Nat.le_refl _) (by omega))]
      exact kindFrom_at f (k + 1) i (by omega) (by omega) (fun j hj hji => h3 j (by omega) hji) h4
theorem kindFrom_none {x : Bs} : ∀ (f k : Nat), (∀ j : Nat, k ≤ j → j < k + f → wordB (j : Nat) ≠ x) → kindFrom x f k = 0
  | 0, k, _ => rfl
  | f + 1, k, h => by
    unfold kindFrom
    rw [if_neg (h k (Nat.le_refl _) (by omega))]
    exact kindFrom_none f (k + 1) fun j hj hjf => h j (by omega) (by omega)
theorem kind_at {x : Bs} {i : Nat} (h1 : 1 ≤ i) (h2 : i ≤ 14) (h3 : ∀ j : Nat, 1 ≤ j → j < i → wordB (j : Nat) ≠ x) (h4 : wordB (i : Nat) = x) : kindN x = i := kindFrom_at 14 1 i h1 (by omega) h3 h4
theorem kind_none {x : Bs} (h : ∀ j : Nat, 1 ≤ j → j < 15 → wordB (j : Nat) ≠ x) : kindN x = 0 := kindFrom_none 14 1 fun j h1 h2 => h j h1 (by omega)
theorem kind_le (x : Bs) : kindN x ≤ 14 := by
  have : ∀ f k, k + f ≤ 15 → kindFrom x f k ≤ 14 := by
    intro f
    induction f with
    | zero => intro k _; exact Nat.zero_le _
    | succ f ih =>
      intro k hk
      unfold kindFrom
      split
      · omega
      · exact ih (k + 1) (by omega)
  exact this 14 1 (by omega)
theorem kRow_word (k : Nat) (h1 : 1 ≤ k) (h2 : k ≤ 14) : (kRow k)[0]? = some (sV (wordB (k : Nat))) := by
  match k, h1, h2 with
  | 1, _, _ => rfl
  | 2, _, _ => rfl
  | 3, _, _ => rfl
  | 4, _, _ => rfl
  | 5, _, _ => rfl
  | 6, _, _ => rfl
  | 7, _, _ => rfl
  | 8, _, _ => rfl
  | 9, _, _ => rfl
  | 10, _, _ => rfl
  | 11, _, _ => rfl
  | 12, _, _ => rfl
  | 13, _, _ => rfl
  | 14, _, _ => rfl
  | k + 15, _, h => omega
theorem kRow_more (k : Nat) (h1 : 1 ≤ k) (h2 : k ≤ 14) : (kRow k)[2]? = some (.int .i64 (moreK (k : Nat) : Nat)) := by
  match k, h1, h2 with
  | 1, _, _ => rfl
  | 2, _, _ => rfl
  | 3, _, _ => rfl
  | 4, _, _ => rfl
  | 5, _, _ => rfl
  | 6, _, _ => rfl
  | 7, _, _ => rfl
  | 8, _, _ => rfl
  | 9, _, _ => rfl
  | 10, _, _ => rfl
  | 11, _, _ => rfl
  | 12, _, _ => rfl
  | 13, _, _ => rfl
  | 14, _, _ => rfl
  | k + 15, _, h => omega
set_option maxRecDepth 100000 in
theorem kindOf_any (x : Bs) (w : World) (K : KT w) : Calls Tryz.prog 221 #[.string ⟨x.toArray⟩] w fun e w' => e = .returned (.int .i64 (kindN x : Nat)) ∧ w = w' := by
  have HK := Lib.hid K
  clear K
  obtain ⟨R, hR⟩ : ∃ R, kindN x = R := ⟨_, rfl⟩
  rw [hR]
  replace hR := Lib.hid hR
  go_enter Tryz.func221, Tryz.ntmps221
  go_wp2_with fail
  go_loop [3] (fun i => ∃ k : Nat, 1 ≤ k ∧ k ≤ 15 ∧ i = .int .i64 k ∧ Hid (∀ j : Nat, 1 ≤ j → j < k → wordB (j : Nat) ≠ x)) (fun i => 15 - (intOf i).toNat)
  case atStart => exact ⟨1, by omega, by omega, rfl, Lib.hid fun j h1 h2 => by omega⟩
  case round =>
    obtain ⟨k, h1, hk, rfl, HN⟩ := hrel
    by_cases hlt : k < 15
    · have hc : w.cell? ⟨0, k * 7, none⟩ = some (sV (wordB (k : Nat))) := (HK.out.c k hlt 0 (by decide)).trans (kRow_word k h1 (by omega))
      have hlo := HK.out.lo
      by_cases he : wordB (k : Nat) = x
      · have hq := kind_at h1 (by omega) HN.out he
        obtain rfl : k = R := hq.symm.trans hR.out
        rw [he] at hc
        clear he hq
        go_wp2_with fail
        go_ret
        exact ⟨rfl, rfl⟩
      · have hne : (wordB (k : Nat) == x) = false := by simpa using he
        have HM : Hid (∀ j : Nat, 1 ≤ j → j < k + 1 → wordB (j : Nat) ≠ x) := Lib.hid fun j a b => by
          by_cases e : j = k
          · subst e; exact he
          · exact HN.out j a (by omega)
        clear he
        generalize wordB (k : Nat) = y at hc hne
        go_wp2_with fail
        go_round
        case rel => exact ⟨k + 1, by omega, by omega, by go_num, HM⟩
        case measure => simp [intOf]; omega
    · obtain rfl : k = 15 := by omega
      obtain rfl : 0 = R := (kind_none HN.out).symm.trans hR.out
      go_wp2_with fail
      go_ret
      exact ⟨rfl, rfl⟩
set_option maxRecDepth 100000 in
theorem numbersOf_any (A : Option Addr) (c : Nat) (l : List Bs) (hl : l.length ≤ 100000) (hx : ∀ x ∈ l, x.length ≤ 100000) (w : World) (hL : Ls w A l) (hE : Env w) :
    Calls Tryz.prog 223 #[.slice A l.length c] w fun e w' => e = .returned (.tuple #[.int .i64 (aV l), .int .i64 (bV l), .int .i64 (abE l)]) ∧ Below w.heap.size w w' := by
  have HE := Lib.hid hE
  clear hE
  match l, hl, hx, hL with
  | [], _, _, _ =>
    go_enter Tryz.func223, Tryz.ntmps223
    go_wp2_with fail
    go_ret3
    exact ⟨rfl, Below.refl _ _⟩
  | [x], _, hx, hL =>
    obtain ⟨b, off, rfl, hb, c0'⟩ := hL.at (k := 0) (x := x) rfl
    have c0 : w.cell? ⟨b, off, none⟩ = some (sV x) := c0'
    clear c0'
    have N1 := Lib.hid (fun W hW => numberP_any x kwA (hx x (by simp)) W hW)
    unfold aV bV abE
    dsimp only
    clear hL hx
    generalize numV kwA x = v1 at N1 ⊢
    generalize numE kwA x = e1 at N1 ⊢
    go_enter Tryz.func223, Tryz.ntmps223
    go_wp2_with (go_at_call 219; refine (N1.out _ HE.out).mono ?_; rintro e w3 ⟨rfl, b3⟩)
    go_ret3
    exact ⟨rfl, b3⟩
  | x :: y :: r, hl, hx, hL =>
    obtain ⟨b, off, rfl, hb, c0'⟩ := hL.at (k := 0) (x := x) rfl
    have c0 : w.cell? ⟨b, off, none⟩ = some (sV x) := c0'
    clear c0'
    obtain ⟨b', off', hA', hb', c1⟩ := hL.at (k := 1) (x := y) rfl
    injection hA' with hA'
    injection hA' with e1 e2
    subst e1 e2
    have N1 := Lib.hid (fun W hW => numberP_any x kwA (hx x (by simp)) W hW)
    have N2 := Lib.hid (fun W hW => numberP_any y kwB (hx y (by simp)) W hW)
    have hL2 : (x :: y :: r).length = r.length + 2 := rfl
    rw [hL2] at hl ⊢
    unfold aV bV abE
    dsimp only
    clear hL hx hb' hL2
    by_cases he : numE kwA x = 0
    · rw [if_neg (by simpa using he), if_neg (by simpa using he)]
      rw [he] at N1
      clear he
      generalize numV kwA x = v1 at N1 ⊢
      generalize numV kwB y = v2 at N2 ⊢
      generalize numE kwB y = e2 at N2 ⊢
      generalize r.length = m at hl ⊢
      go_enter Tryz.func223, Tryz.ntmps223
      go_upto_region 3 with (go_at_call 219; refine (N1.out _ HE.out).mono ?_; rintro e w3 ⟨rfl, b3⟩)
      have B3 := Lib.hid b3
      have E3 := Lib.hid (HE.out.below b3)
      have c2 : w3.cell? ⟨b, off + 1, none⟩ = some (sV y) := (b3.cell (p := ⟨b, off + 1, none⟩) hb).trans c1
      have hb3 : b < w3.heap.size := Nat.lt_of_lt_of_le hb b3.size
      clear b3 c0 c1 N1
      go_wp2_with (go_at_call 219; refine (N2.out _ E3.out).mono ?_; rintro e w4 ⟨rfl, b4⟩)
      go_ret3
      exact ⟨rfl, then_below B3.out b4⟩
    · rw [if_pos (by simpa using he), if_pos (by simpa using he)]
      have hne : (numE kwA x == 0) = false := by rw [beq_eq_false_iff_ne]; exact he
      clear he
      generalize numV kwA x = v1 at N1 ⊢
      generalize numE kwA x = e1 at N1 hne ⊢
      generalize r.length = m at hl ⊢
      go_enter Tryz.func223, Tryz.ntmps223
      go_wp2_with (go_at_call 219; refine (N1.out _ HE.out).mono ?_; rintro e w3 ⟨rfl, b3⟩)
      go_ret3
      exact ⟨rfl, b3⟩
/-- The rest of a row of words. -/
def sufW (b i c : Nat) : Option Addr := if c = i then some ⟨b, 0, none⟩ else some ⟨b, i, none⟩
theorem elemW : Tryz.prog.underlying 126 = some (.slice (Tryz.prog.elem 126)) := by kernel_rfl
theorem sizeW (W : World) : (sizeOf (Tryz.prog.elem 126)).run Tryz.prog W = .ok 1 W := by
  obtain ⟨i, hi, -, hs, -⟩ := infoS_parts
  have e : Tryz.prog.elem 126 = 9 := by kernel_rfl
  rw [e]
  simp [sizeOf, typeInfo, hi, hs, go_sem]
theorem run_sufW (b len c i m : Nat) (h : i ≤ len) (hc : len ≤ c) (hm : len = i + m) (W : World) : (Instr.slice 126 (.slice (some ⟨b, 0, none⟩) len c) (some (.int .i64 (i : Int))) none none).run Tryz.prog W = .ok (.slice (sufW b i c) m (c - i)) W := by
  rw [run_slice_l W _ (some ⟨b, 0, none⟩) len c elemW .i64 (i : Int) (by omega) (by omega), sizeW]
  subst hm
  simp only [Result.andThen, sliced, sufW]
  by_cases e : c = i
  · subst e
    simp
  · rw [if_neg e]
    simp [e]
    cases i <;> simp [Addr.add]
end Go.Proofs.YtpblpjopinllcaaGreatDoor.graph
set_option linter.unusedSimpArgs false
set_option linter.unusedVariables false
namespace Go.Proofs.YtpblpjopinllcaaGreatDoor.graph
open Go.ChangeShapes Go.WideShapes Go.ChangeAt Go.RowKit
open Go.Proofs.YtpblpjopinllcaaGreatDoor.opened Go.Proofs.YtpblpjopinllcaaGreatDoor.block Go.Proofs.YtpblpjopinllcaaGreatDoor.words Go.Proofs.YtpblpjopinllcaaGreatDoor.region
set_option maxRecDepth 100000 in
set_option maxHeartbeats 4000000 in
theorem addCluster_any {B gd mc ml mo : Nat} {v : Gv} {g : Gr} (A : Option Addr) (c : Nat) (ws : List Bs) (hw : ws.length ≤ 100000) (hx : ∀ x ∈ ws, x.length ≤ 100000) (hlc : g.c.length ≤ 50000) (hll : g.l.length ≤ 50000) (hlo : g.o.length ≤ 50000) (hlh : g.h.length ≤ 50000) (w : World) (hD : DrP w B gd mc ml mo v g) (hO : OwnS w B (.slice A ws.length c) ws) (hE : Env w) :
    Calls Tryz.prog 141 #[.pointer (some ⟨gd, 0, none⟩), .slice A ws.length c] w fun e w' => Added B gd mc ml mo g (clF g ws) e w' ∧ Kept B w w' := by
  have HB := Lib.hid hD.size
  by_cases h3 : ws.length = 3
  · obtain ⟨x0, n, x, rfl⟩ := len3 h3
    obtain ⟨b1, rfl, hb1, CW⟩ := own_words hO (by simp)
    have H0 := Lib.hid hD
    have O0 := Lib.hid hO
    have E0 := Lib.hid hE
    have CWh := Lib.hid CW
    have NU := Lib.hid (fun W hW => numberP_any x kwWorkers (hx x (by simp)) W hW)
    have kx : w.cell? ⟨b1, 2, none⟩ = some (sV x) := CW w rfl 2 x rfl
    clear hD hO hE h3 CW
    unfold clF
    dsimp only
    by_cases he : numE kwWorkers x = 0
    · rw [if_neg (by simpa using he)]
      rw [he] at NU
      generalize numV kwWorkers x = y at NU ⊢
      clear he
      go_enter Tryz.func141, Tryz.ntmps141
      go_upto_region 6 with (go_at_call 219; refine (NU.out _ E0.out).mono ?_; rintro e w3 ⟨rfl, b3⟩)
      have D3 := Lib.hid (H0.out.below b3)
      have O3 := Lib.hid (O0.out.below b3)
      have B3 := Lib.hid (b3.mono HB.out)
      have KB3 := Lib.hid (kept_of b3 HB.out)
      have hw3 := Lib.hid (b3.block b1 hb1)
      have hb3 : b1 < w3.heap.size := Nat.lt_of_lt_of_le hb1 b3.size
      clear b3 kx NU H0 O0 E0
      have hos : OwnI w3.drew mc (g.c.map (·.n)) := OwnI.same D3.out.mC rfl
      obtain ⟨wm, hrun, hom, hgm, hsm⟩ := storeI_run hos (by rw [List.length_map]; omega) (hx n (by simp))
      clear hos
      rw [List.length_map] at hrun
      have DM := Lib.hid ((D3.out.below (Below.refl _ w3).drew).put_c hgm hom)
      have OM := Lib.hid (OwnS.turnS (S := fun k => k = mc) (O3.out.below (Below.refl _ w3).drew) (turnS_grown hgm fun k e => by cases e; rfl) fun k e hk => by
        obtain ⟨cur, hc⟩ := OwnS.shapeS (O3.out.below (Below.refl _ w3).drew) e
        exact map_ne D3.out.mC hc hk)
      have BM := Lib.hid (KB3.out.map D3.out.mC hgm (Nat.le_trans HB.out B3.out.size) D3.out.bc)
      have hbm : Hid (wm.heap[b1]? = w.heap[b1]?) := Lib.hid ((hgm.block b1 hb3 (by intro e; cases e; obtain ⟨cur, hc⟩ := OwnS.shapeS O3.out rfl; exact map_ne D3.out.mC hc rfl)).trans hw3.out)
      have hbi : b1 < wm.heap.size := Nat.lt_of_lt_of_le hb3 hgm.size
      clear hom hgm hsm
      have k0 : w3.cell? ⟨gd, 0, none⟩ = some (.slice v.a g.c.length v.i) := D3.out.cells.read 0
      have km : w3.cell? ⟨gd, 4, none⟩ = some (.map (some mc)) := D3.out.cells.read 4
      have kw : w3.cell? ⟨b1, 1, none⟩ = some (sV n) := CWh.out w3 hw3.out 1 n rfl
      go_still_tail 13, (by kernel_rfl)
      change wpList _ _ _ _ _ w3.drew
      go_upto_region 7 with fail
      clear k0 km kw hrun
      obtain ⟨i0, hi0, hz0, hz1, hz2⟩ := infoD_graph_Cl
      have OX := Lib.hid DM.out.cells
      have OR := Lib.hid DM.out.oc
      have GN := Lib.hid (rowS_ne DM.out.oc DM.out.cells (by decide))
      have GI := Lib.hid DM.out.cells.inside
      have HL : Hid (g.c.length ≤ 50000) := Lib.hid (by omega)
      have HB0 := Lib.hid DM.out.size
      have CW : ∀ w7, TurnS wm w7 (RowS gd (.slice v.a g.c.length v.i)) → ∀ k x_1, [x0, n, x][k]? = some x_1 → w7.cell? ⟨b1, k, none⟩ = some (sV x_1) := fun w7 h7 => CWh.out w7 ((h7.block b1 hbi (words_apart DM.out.oc OM.out DM.out.cells (by decide) (by decide) b1 rfl)).trans hbm.out)
      refine region_full 49 [(12, 16)] [(12, 5), (16, 5), (16, 12)] (fun k => k == 5 || k == 12 || k == 16) (fun w7 => TurnS wm w7 (RowS gd (.slice v.a g.c.length v.i))) ?hR ?r0 [pdOne 0 (Is (.pointer (some ⟨gd, 0, none⟩))), pdOne 1 (Is (.pointer (some ⟨gd, 0, none⟩))), pdOne 2 (Is (.pointer (some ⟨gd, 0, none⟩))), pdOne 3 (Is (.pointer (some ⟨gd, 0, none⟩))), pdOne 4 (Is (.pointer (some ⟨gd, 0, none⟩))), pdOne 5 (Is (.slice v.a g.c.length v.i)), pdOne 6 (Is (.slice (some ⟨b1, 0, none⟩) 3 c)), pdOne 7 (Is (.pointer (some ⟨b1, 1, none⟩))), pdOne 8 (Is (sV n)), pdOne 9 (Is (.int .i64 y)), pdOne 10 (Is (.agg (cCl (⟨n, y⟩ : Cl)).toArray)), pdOne 11 (LoneG 143 cCl wm.heap.size (⟨n, y⟩ : Cl)), pdOne 12 (NewG 143 2 cCl B (g.c ++ [(⟨n, y⟩ : Cl)])), pdOne 13 (Is (.pointer (some ⟨gd, 0, none⟩))), pdOne 14 (Is (.pointer (some ⟨gd, 0, none⟩))), pdOne 15 (Is (.pointer (some ⟨gd, 0, none⟩))), pdOne 16 (LaidG 143 2 cCl gd 130 (fun uq => #[uq, .slice v.b g.l.length v.j, .slice v.d g.o.length v.k, .slice v.e g.h.length v.m, .map (some mc), .map (some ml), .map (some mo)]) B (g.c ++ [(⟨n, y⟩ : Cl)]))] (fun k w7 => (k = 5 → Whole w7 gd 130 ((fun uq => #[uq, .slice v.b g.l.length v.j, .slice v.d g.o.length v.k, .slice v.e g.h.length v.m, .map (some mc), .map (some ml), .map (some mo)]) (.slice v.a g.c.length v.i))) ∧ (k = 12 → OwnG 143 2 cCl w7 B (.slice v.a g.c.length v.i) g.c) ∧ (k = 16 → ∃ u, Whole w7 gd 130 ((fun uq => #[uq, .slice v.b g.l.length v.j, .slice v.d g.o.length v.k, .slice v.e g.h.length v.m, .map (some mc), .map (some ml), .map (some mo)]) u))) (by kernel_rfl) rfl (by kernel_rfl) (by kernel_rfl) (by kernel_rfl) (by kernel_rfl) ?keep ?hO ?h0 ?tell
      case hR => exact fun w7 w8 hb h1 => h1.later hb
      case r0 => exact TurnS.refl _ _
      case keep => exact ⟨keep_one (keeps_is _), keep_one (keeps_is _), keep_one (keeps_is _), keep_one (keeps_is _), keep_one (keeps_is _), keep_one (keeps_is _), keep_one (keeps_is _), keep_one (keeps_is _), keep_one (keeps_is _), keep_one (keeps_is _), keep_one (keeps_is _), keep_one (keeps_loneG _ _), keep_one (keeps_newG _ _), keep_one (keeps_is _), keep_one (keeps_is _), keep_one (keeps_is _), keep_one (keeps_laidG _ _ _ _ _), trivial⟩
      case hO => exact fun k w7 w8 hb ⟨h1, h2, h3⟩ => ⟨fun e => (h1 e).below hb (h1 e).inside, fun e => (h2 e).below hb, fun e => (h3 e).imp fun u hx => hx.below hb hx.inside⟩
      case h0 => exact fun k _ => ⟨fun _ => OX.out, fun _ => OR.out, fun _ => ⟨_, OX.out⟩⟩
      case tell =>
        intro fin hfin
        simp [lexPut, Act.put] at hfin
        simp only [TellF]
        refine ⟨⟨?_, ?_, ?_, ?_, ?_, ?_, ?_, ?_, ?_, ?_, ?_, ?_, ?_, ?_, ?_, ?_, ?_, trivial⟩, ?_⟩
        · intro v2 w7 hr hd
          refine yields_run (u := .pointer (some ⟨gd, 0, none⟩)) (w' := w7) ?_ (Below.refl _ _) rfl
          unfold execOp
          simp [go_sem, Act.eval]
        · intro v2 w7 hr hd
          refine yields_run (u := .pointer (some ⟨gd, 0, none⟩)) (w' := w7) ?_ (Below.refl _ _) rfl
          unfold execOp
          simp [go_sem, Act.eval, Act.put]
        · intro v2 w7 hr hd
          have h1 : v2 1 = .pointer (some ⟨gd, 0, none⟩) := hd 1 (by kernel_rfl)
          refine yields_run (u := .pointer (some ⟨gd, 0, none⟩)) (w' := w7) ?_ (Below.refl _ _) rfl
          unfold execOp
          simp [go_sem, Act.eval, Act.put, h1]
        · intro v2 w7 hr hd
          have h2 : v2 2 = .pointer (some ⟨gd, 0, none⟩) := hd 2 (by kernel_rfl)
          refine yields_run (u := .pointer (some ⟨gd, 0, none⟩)) (w' := w7) ?_ (Below.refl _ _) rfl
          unfold execOp
          simp [go_sem, Act.eval, Act.put, h2]
        · intro v2 w7 hr hd
          have h3 : v2 3 = .pointer (some ⟨gd, 0, none⟩) := hd 3 (by kernel_rfl)
          refine yields_run (u := .pointer (some ⟨gd, 0, none⟩)) (w' := w7) ?_ (Below.refl _ _) rfl
          unfold execOp
          simp [go_sem, Act.eval, Act.put, h3]
        · intro v2 w7 hr ho hd
          have h4 : v2 4 = .pointer (some ⟨gd, 0, none⟩) := hd 4 (by kernel_rfl)
          have hc : w7.cell? ⟨gd, 0, none⟩ = some (.slice v.a g.c.length v.i) := (ho.1 trivial).read 0
          refine .inl (.inl ⟨.slice v.a g.c.length v.i, w7, ?_, hr, fun _ _ _ _ hu => hu, fun _ _ _ _ hu => hu, rfl⟩)
          unfold execOp
          simp [go_sem, Act.eval, Act.put, h4, hc]
        · intro v2 w7 hr hd
          refine yields_run (u := .slice (some ⟨b1, 0, none⟩) 3 c) (w' := w7) ?_ (Below.refl _ _) rfl
          unfold execOp
          simp [go_sem, Act.eval, Act.put]
        · intro v2 w7 hr hd
          have h6 : v2 6 = .slice (some ⟨b1, 0, none⟩) 3 c := hd 6 (by kernel_rfl)
          exact yields_index (b := b1) (off := 0) (n := 3) (c := c) (i := 1) (m := 1) rfl (by simp [Act.eval, Act.put, h6]) (by simp [Act.eval, Act.put]) (by omega) Tryz.underlying126 (by intro w; simp [Tryz.sizeOf9])
        · intro v2 w7 hr hd
          have h7 : v2 7 = .pointer (some ⟨b1, 1, none⟩) := hd 7 (by kernel_rfl)
          have hc : w7.cell? ⟨b1, 1, none⟩ = some (sV n) := CW w7 hr 1 _ rfl
          refine yields_run (u := sV n) (w' := w7) ?_ (Below.refl _ _) rfl
          unfold execOp
          simp [go_sem, Act.eval, Act.put, h7, hc]
        · intro v2 w7 hr hd
          refine yields_run (u := .int .i64 y) (w' := w7) ?_ (Below.refl _ _) rfl
          unfold execOp
          simp [go_sem, Act.eval, Act.put]
        · intro v2 w7 hr hd
          have h8 : v2 8 = sV n := hd 8 (by kernel_rfl)
          have h9 : v2 9 = .int .i64 y := hd 9 (by kernel_rfl)
          refine yields_run (u := .agg (cCl (⟨n, y⟩ : Cl)).toArray) (w' := w7) ?_ (Below.refl _ _) rfl
          unfold execOp
          simp [go_sem, Act.eval, Act.put, h8, h9, cCl]
        · intro v2 w7 hr hd
          have h10 : v2 10 = .agg (cCl (⟨n, y⟩ : Cl)).toArray := hd 10 (by kernel_rfl)
          refine yields_run (u := .slice (some ⟨w7.heap.size, 0, none⟩) 1 1) (w' := w7.alloc (.cells (cCl (⟨n, y⟩ : Cl)).toArray 143)) ?_ (fresh1 w7 _) ⟨w7.heap.size, rfl, hr.size, Whole.fresh w7 _ _⟩
          unfold execOp
          simp [go_sem, Act.eval, Act.put, h10, cCl]
        · intro v2 w7 hr ho hd
          have h5 : v2 5 = .slice v.a g.c.length v.i := hd 5 (by kernel_rfl)
          obtain ⟨gy, hz, hyl, hw⟩ : LoneG 143 cCl wm.heap.size (⟨n, y⟩ : Cl) (v2 11) w7 := hd 11 (by kernel_rfl)
          have ho7 := ho.2.1 trivial
          refine .inl (yields_append (.tmp 38) (.tmp 44) 22 rfl B 143 i0 (.agg #[sV [], .int .i64 0]) 2 24 Tryz.underlying22 hi0 hz0 hz1 hz2 rfl (by decide) (.slice v.a g.c.length v.i) g.c.length (g.c.flatMap cCl) (by simp [Act.eval, Act.put, h5]) ho7 ⟨gy, 0, none⟩ 1 1 (cCl (⟨n, y⟩ : Cl)) (by simp [Act.eval, Act.put, hz]) rfl (whole_cells hw) (CELLS_cCl.one (⟨n, y⟩ : Cl)) (by decide) (by have := HL.out; unfold maxLen; omega) (by have := HL.out; omega) (Nat.le_trans HB0.out hr.size) ?_)
          intro g8 cap8 w8 hown hgrow
          have hxn : some gd ≠ (Value.slice v.a g.c.length v.i).ownBlock := GN.out
          refine ⟨hr.grown hgrow (fun j e => .inl (.inr e)), ?_, ?_, (show NewG 143 2 cCl B (g.c ++ [(⟨n, y⟩ : Cl)]) (.slice (some ⟨g8, 0, none⟩) (g.c.length + 1) cap8) w8 from ⟨g8, cap8, by simp, by unfold OwnG; simpa using hown⟩)⟩
          · intro k2 v' hk2 hc hu
            exact match k2, hk2, hc, hu with
              | 0, _, _, hu => hu
              | 1, _, _, hu => hu
              | 2, _, _, hu => hu
              | 3, _, _, hu => hu
              | 4, _, _, hu => hu
              | 5, _, _, hu => hu
              | 6, _, _, hu => hu
              | 7, _, _, hu => hu
              | 8, _, _, hu => hu
              | 9, _, _, hu => hu
              | 10, _, _, hu => hu
              | 11, _, _, ⟨gy, h1, h2, h3⟩ => ⟨gy, h1, h2, h3.grown hgrow (OR.out.away h2)⟩
              | 12, hk2, _, _ => absurd rfl hk2
              | 13, _, _, hu => hu
              | 14, _, _, hu => hu
              | 15, _, _, hu => hu
              | 16, _, hc, _ => absurd hc (by decide)
              | _ + 17, _, _, _ => trivial
          · intro k2 hk2 hn hc2 ⟨h1, h2, h3⟩
            exact ⟨fun e => by subst e; exact absurd hc2 (by decide), fun e => absurd e hk2, fun e => (h3 e).imp fun u hx => hx.grown hgrow hxn⟩
        · intro v2 w7 hr hd
          have h0 : v2 0 = .pointer (some ⟨gd, 0, none⟩) := hd 0 (by kernel_rfl)
          refine yields_run (u := .pointer (some ⟨gd, 0, none⟩)) (w' := w7) ?_ (Below.refl _ _) rfl
          unfold execOp
          simp [go_sem, Act.eval, Act.put, h0]
        · intro v2 w7 hr hd
          have h13 : v2 13 = .pointer (some ⟨gd, 0, none⟩) := hd 13 (by kernel_rfl)
          refine yields_run (u := .pointer (some ⟨gd, 0, none⟩)) (w' := w7) ?_ (Below.refl _ _) rfl
          unfold execOp
          simp [go_sem, Act.eval, Act.put, h13]
        · intro v2 w7 hr hd
          have h14 : v2 14 = .pointer (some ⟨gd, 0, none⟩) := hd 14 (by kernel_rfl)
          refine yields_run (u := .pointer (some ⟨gd, 0, none⟩)) (w' := w7) ?_ (Below.refl _ _) rfl
          unfold execOp
          simp [go_sem, Act.eval, Act.put, h14]
        · intro v2 w7 hr ho hd
          have h15 : v2 15 = .pointer (some ⟨gd, 0, none⟩) := hd 15 (by kernel_rfl)
          obtain ⟨g', c2, h7, hn7⟩ : NewG 143 2 cCl B (g.c ++ [(⟨n, y⟩ : Cl)]) (v2 12) w7 := hd 12 (by kernel_rfl)
          obtain ⟨uq, hu0⟩ := ho.2.2 trivial
          rw [h7] at hn7
          have hc : w7.cell? ⟨gd, 0, none⟩ = some uq := hu0.read 0
          have hf : w7.frozen? ⟨gd, 0, none⟩ = false := hu0.soft 0
          have hg : w7.grownBy (w7.setCell ⟨gd, 0, none⟩ (.slice (some ⟨g', 0, none⟩) (g.c ++ [(⟨n, y⟩ : Cl)]).length c2)) (some gd) := only_store (only_of_below (Below.refl _ w7) (some gd)) _
          refine .inr ⟨w7.setCell ⟨gd, 0, none⟩ (.slice (some ⟨g', 0, none⟩) (g.c ++ [(⟨n, y⟩ : Cl)]).length c2), ?_, hr.grown hg (fun j e => .inl (.inl (by cases e; rfl))), ?_, ?_, some ⟨g', 0, none⟩, c2, hu0.store 0 _, hn7.past hg (fun k e => by cases e; exact rowS_ne hn7 hu0 (by decide))⟩
          · unfold execOp
            simp [go_sem, Act.eval, Act.put, h15, h7, hc, hf]
          · intro k2 v' hk2 hc hu
            exact match k2, hk2, hc, hu with
              | 0, _, _, hu => hu
              | 1, _, _, hu => hu
              | 2, _, _, hu => hu
              | 3, _, _, hu => hu
              | 4, _, _, hu => hu
              | 5, _, _, hu => hu
              | 6, _, _, hu => hu
              | 7, _, _, hu => hu
              | 8, _, _, hu => hu
              | 9, _, _, hu => hu
              | 10, _, _, hu => hu
              | 11, _, _, ⟨gy, h1, h2, h3⟩ => ⟨gy, h1, h2, h3.grown hg (by have := GI.out; intro e; cases e; omega)⟩
              | 12, _, _, ⟨g', c', h1, h2⟩ => ⟨g', c', h1, h2.past hg (fun k e => by cases e; exact rowS_ne h2 hu0 (by decide))⟩
              | 13, _, _, hu => hu
              | 14, _, _, hu => hu
              | 15, _, _, hu => hu
              | 16, hk2, _, _ => absurd rfl hk2
              | _ + 17, _, _, _ => trivial
          · intro k2 hk2 hn hc2 ⟨h1, h2, h3⟩
            exact ⟨fun e => by subst e; exact absurd hc2 (by decide), fun e => by subst e; exact absurd hc2 (by decide), fun e => absurd e hk2⟩
        · intro v2 w7 hr hv
          obtain ⟨D, c2, hl1, hl2⟩ : LaidG 143 2 cCl gd 130 (fun uq => #[uq, .slice v.b g.l.length v.j, .slice v.d g.o.length v.k, .slice v.e g.h.length v.m, .map (some mc), .map (some ml), .map (some mo)]) B (g.c ++ [(⟨n, y⟩ : Cl)]) (v2 16) w7 := hv 16 (by decide)
          have X10 := Lib.hid hl1
          have O10 := Lib.hid hl2
          have R10 := Lib.hid hr
          rw [hfin]
          clear hfin hv hl1 hl2 hr
          generalize v2 12 = v7
          generalize v2 11 = v6
          have hmaps := DM.out.rowS_maps DM.out.oc
          have hap := Lib.hid (rowS_above DM.out.oc DM.out.bd)
          have BE := Lib.hid (BM.out.row DM.out.oc DM.out.cells R10.out HB0.out hap.out (by decide) (by decide))
          have DE : Hid (DrP w7 B gd mc ml mo ⟨D, v.b, v.d, v.e, c2, v.j, v.k, v.m⟩ { g with c := g.c ++ [⟨n, y⟩] }) := Lib.hid
            ⟨X10.out, O10.out, DM.out.ol.turn R10.out (row_apart DM.out.oc DM.out.ol DM.out.cells (by decide) (by decide)), DM.out.oo.turn R10.out (row_apart DM.out.oc DM.out.oo DM.out.cells (by decide) (by decide)), DM.out.oh.turn R10.out (row_apart DM.out.oc DM.out.oh DM.out.cells (by decide) (by decide)), (by have := DM.out.mC.same (R10.out.block _ DM.out.mC.lt hmaps.1); simpa using this), DM.out.mL.same (R10.out.block _ DM.out.mL.lt hmaps.2.1), DM.out.mO.same (R10.out.block _ DM.out.mO.lt hmaps.2.2), DM.out.bd, DM.out.bc, DM.out.bl, DM.out.bo, DM.out.n1, DM.out.n2, DM.out.n3⟩
          clear hmaps hap X10 O10 R10 OX OR GN GI HL HB0 DM OM BM
          go_wp2_with fail
          go_ret
          exact ⟨⟨rfl, _, DE.out⟩, BE.out⟩
    · rw [if_pos (by simpa using he)]
      have hne : (numE kwWorkers x == 0) = false := by rw [beq_eq_false_iff_ne]; exact he
      clear he
      generalize numV kwWorkers x = y at NU
      generalize numE kwWorkers x = z at NU hne ⊢
      go_enter Tryz.func141, Tryz.ntmps141
      go_wp2_with (go_at_call 219; refine (NU.out _ E0.out).mono ?_; rintro e w3 ⟨rfl, b3⟩)
      go_ret
      exact ⟨added_bad (H0.out.below b3), kept_of b3 HB.out⟩
  · rw [clF_not h3]
    have hne : ((ws.length : Int) == 3) = false := by rw [beq_eq_false_iff_ne]; omega
    have H0 := Lib.hid hD
    clear hD hO hE h3
    go_enter Tryz.func141, Tryz.ntmps141
    go_wp2_with fail
    go_ret
    exact ⟨added_bad H0.out, kept_refl _ _⟩
end Go.Proofs.YtpblpjopinllcaaGreatDoor.graph
