/-
  watershedref09.Flows (by gen_fl.py).
  watershedref01.Same, watershedlaw09.Same: of what is the same (by gen_sm.py).
-/
import Derived.Test.YtpblpjopinllcaaGreatDoorJGt2
import Derived.Test.YtpblpjopinllcaaGreatDoorJGz
import Derived.Test.YtpblpjopinllcaaGreatDoorJOg
import Derived.Test.YtpblpjopinllcaaGreatDoorJGeq
namespace Go.Proofs.YtpblpjopinllcaaGreatDoor.graph
open Go.ChangeShapes Go.WideShapes Go.ChangeAt Go.RowKit Go.Shelf
open Go.Proofs.YtpblpjopinllcaaGreatDoor.opened Go.Proofs.YtpblpjopinllcaaGreatDoor.block Go.Proofs.YtpblpjopinllcaaGreatDoor.words Go.Proofs.YtpblpjopinllcaaGreatDoor.region
/-- Whether a channel leads to another cluster. -/
def flB (g : Gr) (i : Nat) : Bool := match g.h[i]? with
  | none => false
  | some x => match g.o[x.f.toNat]?, g.o[x.t.toNat]? with
    | some a, some b => decide (a.a ≠ b.a)
    | _, _ => false
def flI (g : Gr) (i : Nat) : List Int := ((List.range i).filter (flB g)).map (fun (k : Nat) => (k : Int))
def flV (g : Gr) : List Int := if checkE g = 0 then flI g g.h.length else []
def cI (x : Int) : List Value := [.int .i64 x]
theorem CELLS_cI : Cells 1 cI := ⟨fun _ => rfl, fun x v hv => by simp [cI] at hv; subst hv; rfl⟩
theorem flI_le (g : Gr) (i : Nat) : (flI g i).length ≤ i := by
  unfold flI
  rw [List.length_map]
  exact Nat.le_trans (List.length_filter_le _ _) (by simp)
theorem flI_yes {g : Gr} {i : Nat} (h : flB g i = true) : flI g (i + 1) = flI g i ++ [(i : Int)] := by
  unfold flI
  rw [List.range_succ, List.filter_append, List.map_append]
  simp [h]
theorem flI_no {g : Gr} {i : Nat} (h : flB g i = false) : flI g (i + 1) = flI g i := by
  unfold flI
  rw [List.range_succ, List.filter_append, List.map_append]
  simp [h]
theorem infoI : (Tryz.prog.info? 3).map (fun i => (i.zero, i.size, i.bytes)) = some (some (.int .i64 0), 1, 8) := by kernel_rfl
theorem infoI_parts : ∃ i, Tryz.prog.info? 3 = some i ∧ i.zero = some (.int .i64 0) ∧ i.size = 1 ∧ i.bytes = 8 := by
  have h := infoI
  rw [Option.map_eq_some_iff] at h
  obtain ⟨i, hi, he⟩ := h
  simp only [Prod.mk.injEq] at he
  exact ⟨i, hi, he.1, he.2.1, he.2.2⟩
theorem ownI_base {w : World} {a b : Nat} {v : Value} {N : List Int} (hab : a ≤ b) (h : OwnG 3 1 cI w b v N) : OwnG 3 1 cI w a v N :=
  ⟨h.1, h.2.imp id fun ⟨g, cap, cur, hv, hb, rest⟩ => ⟨g, cap, cur, hv, Nat.le_trans hab hb, rest⟩⟩
theorem ownI_grown {W w1 : World} {base : Nat} {v : Value} {N : List Int} {tmp : Obj} (h : OwnG 3 1 cI W base v N) (hb0 : base ≤ W.heap.size) (hg : (W.alloc tmp).grownBy w1 v.ownBlock) : Below base W w1 :=
  ((Below.refl base W).alloc hb0 tmp).grown hg (by simp; omega) fun j ej => by
    rcases h.2 with ⟨rfl, _⟩ | ⟨g, cap, cur, rfl, hb, _, _⟩
    · simp [Value.ownBlock] at ej
    · obtain rfl : g = j := by simpa [Value.ownBlock] using ej
      exact hb
end Go.Proofs.YtpblpjopinllcaaGreatDoor.graph
namespace Go.Proofs.YtpblpjopinllcaaGreatDoor.graph
open Go.ChangeShapes Go.WideShapes Go.ChangeAt Go.RowKit Go.Shelf
open Go.Proofs.YtpblpjopinllcaaGreatDoor.opened Go.Proofs.YtpblpjopinllcaaGreatDoor.block Go.Proofs.YtpblpjopinllcaaGreatDoor.words Go.Proofs.YtpblpjopinllcaaGreatDoor.region
theorem at_int {w : World} {A : Option Addr} {M : List Int} (h : Lg 1 cI w A M) {k : Nat} {p : Int} (hk : M[k]? = some p) :
    ∃ b off, A = some ⟨b, off, none⟩ ∧ b < w.heap.size ∧ w.cell? ⟨b, off + k, none⟩ = some (.int .i64 p) := by
  obtain ⟨b, off, hA, hb, hc⟩ := h.cells hk
  exact ⟨b, off, hA, hb, by simpa [cI, Nat.add_assoc] using hc 0 (by omega)⟩
set_option maxRecDepth 100000 in
set_option maxHeartbeats 2000000 in
theorem sameI_any (N : List Int) (A B : Option Addr) (ca cb : Nat) (w : World) (ha : Lg 1 cI w A N) (hb : Lg 1 cI w B N) (hn : N.length ≤ 100000) :
    Calls Tryz.prog 40 #[.slice A N.length ca, .slice B N.length cb] w fun e w' => e = .returned (.bool true) ∧ Below w.heap.size w w' := by
  have HA := Lib.hid ha
  have HB := Lib.hid hb
  clear ha hb
  go_enter Tryz.func40, Tryz.ntmps40
  go_wp2_with fail
  go_loopw [5] (fun a wr => ∃ i : Nat, i ≤ N.length ∧ a = .int .i64 i ∧ Hid (Below w.heap.size w wr)) (fun a _ => (N.length - intOf a).toNat)
  case atStart => exact ⟨0, by omega, rfl, Lib.hid (Below.refl _ _)⟩
  case round =>
    obtain ⟨i, hi, rfl, Br⟩ := hrel
    by_cases hin : i = N.length
    case neg =>
      have hlt : i < N.length := by omega
      obtain ⟨x, hx⟩ : ∃ x, N[i]? = some x := ⟨N[i], List.getElem?_eq_getElem hlt⟩
      obtain ⟨b1, o1, hA, hb1, c0⟩ := at_int HA.out hx
      obtain ⟨b2, o2, hB, hb2, c1⟩ := at_int HB.out hx
      subst hA
      subst hB
      have E0 : ∀ w7, Below wr.heap.size wr w7 → w7.cell? ⟨b1, o1 + i, none⟩ = some (.int .i64 x) := fun w7 h7 => ((Br.out.trans (h7.mono Br.out.size)).cell (p := ⟨b1, o1 + i, none⟩) hb1).trans c0
      have E1 : ∀ w7, Below wr.heap.size wr w7 → w7.cell? ⟨b2, o2 + i, none⟩ = some (.int .i64 x) := fun w7 h7 => ((Br.out.trans (h7.mono Br.out.size)).cell (p := ⟨b2, o2 + i, none⟩) hb2).trans c1
      replace E0 := Lib.hid E0
      replace E1 := Lib.hid E1
      clear hx c0 c1 hb1 hb2
      go_upto_region 6 with fail
      refine region_full 26 [] [] (fun _ => false) (fun w7 => Below wr.heap.size wr w7 ∧ wr.heap.size ≤ w7.heap.size) ?hR ?r0 [pdOne 0 (Is (.slice (some ⟨b1, o1, none⟩) N.length ca)), pdOne 1 (Is (.int .i64 i)), pdOne 2 (Is (.pointer (some ⟨b1, o1 + i * 1, none⟩))), pdOne 3 (Is (.int .i64 x)), pdOne 4 (Is (.slice (some ⟨b2, o2, none⟩) N.length cb)), pdOne 5 (Is (.int .i64 i)), pdOne 6 (Is (.pointer (some ⟨b2, o2 + i * 1, none⟩))), pdOne 7 (Is (.int .i64 x)), pdOne 8 (Is (.bool false))] (fun _ _ => True) (by kernel_rfl) rfl (by kernel_rfl) (by kernel_rfl) (by kernel_rfl) (by kernel_rfl) ?keep ?hO ?h0 ?tell
      case hR => exact fun wa wb hb ⟨h1, h2⟩ => ⟨h1.trans (hb.mono h1.size), Nat.le_trans h2 hb.size⟩
      case r0 => exact ⟨Below.refl _ _, Nat.le_refl _⟩
      case keep => exact ⟨keep_one (keeps_is _), keep_one (keeps_is _), keep_one (keeps_is _), keep_one (keeps_is _), keep_one (keeps_is _), keep_one (keeps_is _), keep_one (keeps_is _), keep_one (keeps_is _), keep_one (keeps_is _), trivial⟩
      case hO => exact fun _ _ _ _ h => h
      case h0 => exact fun _ _ => trivial
      case tell =>
        intro fin hfin
        simp [lexPut, Act.put] at hfin
        simp only [TellF]
        refine ⟨⟨?_, ?_, ?_, ?_, ?_, ?_, ?_, ?_, ?_, trivial⟩, ?_⟩
        · intro v2 w7 hr hd
          refine yields_run (u := .slice (some ⟨b1, o1, none⟩) N.length ca) (w' := w7) ?_ (Below.refl _ _) rfl
          unfold execOp
          simp [go_sem, Act.eval]
        · intro v2 w7 hr hd
          refine yields_run (u := .int .i64 i) (w' := w7) ?_ (Below.refl _ _) rfl
          unfold execOp
          simp [go_sem, Act.eval, Act.put]
        · intro v2 w7 hr hd
          have h0 : v2 0 = _ := hd 0 (by kernel_rfl)
          have h1 : v2 1 = _ := hd 1 (by kernel_rfl)
          exact yields_index (b := b1) (off := o1) (n := N.length) (c := ca) (i := i) (m := 1) rfl (by simp [Act.eval, Act.put, h0, h1]) (by simp [Act.eval, Act.put, h0, h1]) hlt Tryz.underlying85 (by intro w; simp [Tryz.sizeOf3])
        · intro v2 w7 hr hd
          have h2 : v2 2 = _ := hd 2 (by kernel_rfl)
          have c0 := (E0.out w7 hr.1)
          refine yields_run (u := .int .i64 x) (w' := w7) ?_ (Below.refl _ _) rfl
          unfold execOp
          simp [go_sem, Act.eval, Act.put, h2, c0]
        · intro v2 w7 hr hd
          refine yields_run (u := .slice (some ⟨b2, o2, none⟩) N.length cb) (w' := w7) ?_ (Below.refl _ _) rfl
          unfold execOp
          simp [go_sem, Act.eval, Act.put]
        · intro v2 w7 hr hd
          refine yields_run (u := .int .i64 i) (w' := w7) ?_ (Below.refl _ _) rfl
          unfold execOp
          simp [go_sem, Act.eval, Act.put]
        · intro v2 w7 hr hd
          have h4 : v2 4 = _ := hd 4 (by kernel_rfl)
          have h5 : v2 5 = _ := hd 5 (by kernel_rfl)
          exact yields_index (b := b2) (off := o2) (n := N.length) (c := cb) (i := i) (m := 1) rfl (by simp [Act.eval, Act.put, h4, h5]) (by simp [Act.eval, Act.put, h4, h5]) hlt Tryz.underlying85 (by intro w; simp [Tryz.sizeOf3])
        · intro v2 w7 hr hd
          have h6 : v2 6 = _ := hd 6 (by kernel_rfl)
          have c0 := (E1.out w7 hr.1)
          refine yields_run (u := .int .i64 x) (w' := w7) ?_ (Below.refl _ _) rfl
          unfold execOp
          simp [go_sem, Act.eval, Act.put, h6, c0]
        · intro v2 w7 hr hd
          have h3 : v2 3 = _ := hd 3 (by kernel_rfl)
          have h7 : v2 7 = _ := hd 7 (by kernel_rfl)
          refine yields_run (u := .bool false) (w' := w7) ?_ (Below.refl _ _) rfl
          unfold execOp
          simp [go_sem, Act.eval, Act.put, h3, h7, bne_self_eq_false]
        · intro v2 w7 hr hv
          have hb9 : v2 8 = .bool false := hv 8 (by decide)
          have hR := Lib.hid hr
          rw [hfin]
          generalize v2 8 = v5 at hb9 ⊢
          subst hb9
          clear hfin hv hr
          go_wp2_with fail
          go_roundw
          case rel => exact ⟨i + 1, hlt, by go_num, Lib.hid (Br.out.trans (hR.out.1.mono Br.out.size))⟩
          case measure => simp [intOf]; omega
    subst hin
    have hlt : ¬ ((N.length : Int) < N.length) := by omega
    go_wp2_with fail
    go_ret
    exact ⟨rfl, Br.out⟩
set_option maxRecDepth 100000 in
set_option maxHeartbeats 8000000 in
theorem sameG_any (u v : Gv) (g : Gr) (w : World) (hu : Lies4 w u g) (hv : Lies4 w v g) (y1 : g.c.length ≤ 100000) (y2 : g.l.length ≤ 100000) (y3 : g.o.length ≤ 100000) (y4 : g.h.length ≤ 100000) :
    Calls Tryz.prog 17 #[gV u g, gV v g] w fun e w' => e = .returned (.bool true) ∧ Below w.heap.size w w' := by
  obtain ⟨ua, ub, ud, ue, ui, uj, uk, um⟩ := u
  obtain ⟨va, vb, vd, ve, vi, vj, vk, vm⟩ := v
  unfold gV
  dsimp only
  have b1 := fresh1 w (.cells #[.slice ua g.c.length ui, .slice ub g.l.length uj, .slice ud g.o.length uk, .slice ue g.h.length um] 36)
  have O1 := Whole.fresh w 36 #[.slice ua g.c.length ui, .slice ub g.l.length uj, .slice ud g.o.length uk, .slice ue g.h.length um]
  have b2 := fresh1 (w.alloc (.cells #[.slice ua g.c.length ui, .slice ub g.l.length uj, .slice ud g.o.length uk, .slice ue g.h.length um] 36)) (.cells #[.slice va g.c.length vi, .slice vb g.l.length vj, .slice vd g.o.length vk, .slice ve g.h.length vm] 36)
  have O2 := Whole.fresh (w.alloc (.cells #[.slice ua g.c.length ui, .slice ub g.l.length uj, .slice ud g.o.length uk, .slice ue g.h.length um] 36)) 36 #[.slice va g.c.length vi, .slice vb g.l.length vj, .slice vd g.o.length vk, .slice ve g.h.length vm]
  have P1 := Lib.hid (O1.below b2 O1.inside)
  have P2 := Lib.hid O2
  have BB := Lib.hid (b1.trans (b2.mono b1.size))
  have HU := Lib.hid hu
  have HV := Lib.hid hv
  clear hu hv b1 O1 b2 O2
  go_enter Tryz.func17, Tryz.ntmps17
  go_upto_region 1 with fail
  change Code.wp _ _ _ _ ((w.alloc (.cells #[.slice ua g.c.length ui, .slice ub g.l.length uj, .slice ud g.o.length uk, .slice ue g.h.length um] 36)).alloc (.cells #[.slice va g.c.length vi, .slice vb g.l.length vj, .slice vd g.o.length vk, .slice ve g.h.length vm] 36))
  have hsz : (w.alloc (.cells #[.slice ua g.c.length ui, .slice ub g.l.length uj, .slice ud g.o.length uk, .slice ue g.h.length um] 36)).heap.size = w.heap.size + 1 := by first | simp | simp [World.alloc]
  rw [hsz] at P2
  clear hsz
  generalize hg2 : w.heap.size + 1 = g2 at P2 ⊢
  replace hg2 := Lib.hid hg2
  generalize (w.alloc (.cells #[.slice ua g.c.length ui, .slice ub g.l.length uj, .slice ud g.o.length uk, .slice ue g.h.length um] 36)).alloc (.cells #[.slice va g.c.length vi, .slice vb g.l.length vj, .slice vd g.o.length vk, .slice ve g.h.length vm] 36) = w3 at P1 P2 BB ⊢
  obtain ⟨g1, hg1⟩ : ∃ g1, w.heap.size = g1 := ⟨_, rfl⟩
  have BW := Lib.hid BB.out
  rw [hg1] at P1 ⊢
  have hgs := Lib.hid hg1
  clear hg1 BB
  have G1 : ∀ w7, Below w3.heap.size w3 w7 → ∀ i, w7.cell? ⟨g1, i, none⟩ = #[.slice ua g.c.length ui, .slice ub g.l.length uj, .slice ud g.o.length uk, .slice ue g.h.length um][i]? := fun w7 h7 => (P1.out.below h7 P1.out.inside).read
  have G2 : ∀ w7, Below w3.heap.size w3 w7 → ∀ i, w7.cell? ⟨g2, i, none⟩ = #[.slice va g.c.length vi, .slice vb g.l.length vj, .slice vd g.o.length vk, .slice ve g.h.length vm][i]? := fun w7 h7 => (P2.out.below h7 P2.out.inside).read
  have HW : ∀ w7, Below w3.heap.size w3 w7 → Below w.heap.size w w7 := fun w7 h7 => BW.out.trans (h7.mono BW.out.size)
  replace G1 := Lib.hid G1
  replace G2 := Lib.hid G2
  replace HW := Lib.hid HW
  clear P1 P2
  have k0 : w3.cell? ⟨g1, 0, none⟩ = some (.slice ua g.c.length ui) := G1.out w3 (Below.refl _ _) 0
  have l0 : w3.cell? ⟨g2, 0, none⟩ = some (.slice va g.c.length vi) := G2.out w3 (Below.refl _ _) 0
  have k1 : w3.cell? ⟨g1, 1, none⟩ = some (.slice ub g.l.length uj) := G1.out w3 (Below.refl _ _) 1
  have l1 : w3.cell? ⟨g2, 1, none⟩ = some (.slice vb g.l.length vj) := G2.out w3 (Below.refl _ _) 1
  have k2 : w3.cell? ⟨g1, 2, none⟩ = some (.slice ud g.o.length uk) := G1.out w3 (Below.refl _ _) 2
  have l2 : w3.cell? ⟨g2, 2, none⟩ = some (.slice vd g.o.length vk) := G2.out w3 (Below.refl _ _) 2
  have k3 : w3.cell? ⟨g1, 3, none⟩ = some (.slice ue g.h.length um) := G1.out w3 (Below.refl _ _) 3
  have l3 : w3.cell? ⟨g2, 3, none⟩ = some (.slice ve g.h.length vm) := G2.out w3 (Below.refl _ _) 3
  go_upto_region 4 with fail
  clear k0 k1 k2 k3 l0 l1 l2 l3
  go_wp2_with fail
  go_loopw [5] (fun a wr => ∃ i : Nat, i ≤ g.c.length ∧ a = .int .i64 i ∧ Hid (Below w3.heap.size w3 wr)) (fun a _ => (g.c.length - intOf a).toNat)
  case atStart => exact ⟨0, by omega, rfl, Lib.hid (Below.refl _ _)⟩
  case round =>
    obtain ⟨i, hi, rfl, Br⟩ := hrel
    have k0 : wr.cell? ⟨g1, 0, none⟩ = some (.slice ua g.c.length ui) := G1.out wr Br.out 0
    by_cases hin : i = g.c.length
    case neg =>
      have hlt : i < g.c.length := by omega
      obtain ⟨x, hx⟩ : ∃ x, g.c[i]? = some x := ⟨g.c[i], List.getElem?_eq_getElem hlt⟩
      obtain ⟨b1, o1, hA, hb1, c0, c1⟩ := at_cl HU.out.c hx
      change ua = _ at hA
      obtain ⟨b2, o2, hB, hb2, d0, d1⟩ := at_cl HV.out.c hx
      change va = _ at hB
      subst hA
      subst hB
      have E0 : ∀ w7, Below wr.heap.size wr w7 → w7.cell? ⟨b1, o1 + i * 2, none⟩ = some (sV x.n) := fun w7 h7 => ((HW.out w7 (Br.out.trans (h7.mono Br.out.size))).cell (p := ⟨b1, o1 + i * 2, none⟩) hb1).trans c0
      have F0 : ∀ w7, Below wr.heap.size wr w7 → w7.cell? ⟨b2, o2 + i * 2, none⟩ = some (sV x.n) := fun w7 h7 => ((HW.out w7 (Br.out.trans (h7.mono Br.out.size))).cell (p := ⟨b2, o2 + i * 2, none⟩) hb2).trans d0
      replace E0 := Lib.hid E0
      replace F0 := Lib.hid F0
      have E1 : ∀ w7, Below wr.heap.size wr w7 → w7.cell? ⟨b1, o1 + i * 2 + 1, none⟩ = some (.int .i64 x.w) := fun w7 h7 => ((HW.out w7 (Br.out.trans (h7.mono Br.out.size))).cell (p := ⟨b1, o1 + i * 2 + 1, none⟩) hb1).trans c1
      have F1 : ∀ w7, Below wr.heap.size wr w7 → w7.cell? ⟨b2, o2 + i * 2 + 1, none⟩ = some (.int .i64 x.w) := fun w7 h7 => ((HW.out w7 (Br.out.trans (h7.mono Br.out.size))).cell (p := ⟨b2, o2 + i * 2 + 1, none⟩) hb2).trans d1
      replace E1 := Lib.hid E1
      replace F1 := Lib.hid F1
      have nq : ∀ w, (Op.equalIn 10000 137 (.agg #[sV x.n, .int .i64 x.w]) (.agg #[sV x.n, .int .i64 x.w])).run Tryz.prog w = .ok true w := fun w => eqCluster9 ⟨x.n.toArray⟩ x.w w
      clear hx c0 d0 c1 d1 hb1 hb2
      go_upto_region 6 with fail
      clear k0
      refine region_full 115 [] [] (fun _ => false) (fun w7 => Below wr.heap.size wr w7 ∧ wr.heap.size ≤ w7.heap.size) ?hR ?r0 [pdOne 0 (Is (.pointer (some ⟨g1, 0, none⟩))), pdOne 1 (Is (.slice (some ⟨b1, o1, none⟩) g.c.length ui)), pdOne 2 (Is (.int .i64 i)), pdOne 3 (Is (.pointer (some ⟨b1, o1 + i * 2, none⟩))), pdOne 4 (Is (.agg #[sV x.n, .int .i64 x.w])), pdOne 5 (Is (.pointer (some ⟨g2, 0, none⟩))), pdOne 6 (Is (.slice (some ⟨b2, o2, none⟩) g.c.length vi)), pdOne 7 (Is (.int .i64 i)), pdOne 8 (Is (.pointer (some ⟨b2, o2 + i * 2, none⟩))), pdOne 9 (Is (.agg #[sV x.n, .int .i64 x.w])), pdOne 10 (Is (.bool false))] (fun _ _ => True) (by kernel_rfl) rfl (by kernel_rfl) (by kernel_rfl) (by kernel_rfl) (by kernel_rfl) ?keep ?hO ?h0 ?tell
      case hR => exact fun wa wb hb ⟨h1, h2⟩ => ⟨h1.trans (hb.mono h1.size), Nat.le_trans h2 hb.size⟩
      case r0 => exact ⟨Below.refl _ _, Nat.le_refl _⟩
      case keep => exact ⟨keep_one (keeps_is _), keep_one (keeps_is _), keep_one (keeps_is _), keep_one (keeps_is _), keep_one (keeps_is _), keep_one (keeps_is _), keep_one (keeps_is _), keep_one (keeps_is _), keep_one (keeps_is _), keep_one (keeps_is _), keep_one (keeps_is _), trivial⟩
      case hO => exact fun _ _ _ _ h => h
      case h0 => exact fun _ _ => trivial
      case tell =>
        intro fin hfin
        simp [lexPut, Act.put] at hfin
        simp only [TellF]
        refine ⟨⟨?_, ?_, ?_, ?_, ?_, ?_, ?_, ?_, ?_, ?_, ?_, trivial⟩, ?_⟩
        · intro v2 w7 hr hd
          refine yields_run (u := .pointer (some ⟨g1, 0, none⟩)) (w' := w7) ?_ (Below.refl _ _) rfl
          unfold execOp
          simp [go_sem, Act.eval]
        · intro v2 w7 hr hd
          have h0 : v2 0 = _ := hd 0 (by kernel_rfl)
          have c0 := (G1.out w7 (Br.out.trans (hr.1.mono Br.out.size)) 0)
          refine yields_run (u := .slice (some ⟨b1, o1, none⟩) g.c.length ui) (w' := w7) ?_ (Below.refl _ _) rfl
          unfold execOp
          simp [go_sem, Act.eval, Act.put, h0, c0]
        · intro v2 w7 hr hd
          refine yields_run (u := .int .i64 i) (w' := w7) ?_ (Below.refl _ _) rfl
          unfold execOp
          simp [go_sem, Act.eval, Act.put]
        · intro v2 w7 hr hd
          have h1 : v2 1 = _ := hd 1 (by kernel_rfl)
          have h2 : v2 2 = _ := hd 2 (by kernel_rfl)
          exact yields_index (b := b1) (off := o1) (n := g.c.length) (c := ui) (i := i) (m := 2) rfl (by simp [Act.eval, Act.put, h1, h2]) (by simp [Act.eval, Act.put, h1, h2]) hlt Tryz.underlying31 (by intro w; simp [Tryz.sizeOf137])
        · intro v2 w7 hr hd
          have h3 : v2 3 = _ := hd 3 (by kernel_rfl)
          have c0 := (E0.out w7 hr.1)
          have c1 := (E1.out w7 hr.1)
          refine yields_run (u := .agg #[sV x.n, .int .i64 x.w]) (w' := w7) ?_ (Below.refl _ _) rfl
          unfold execOp
          simp [go_sem, Act.eval, Act.put, h3, c0, c1]
        · intro v2 w7 hr hd
          refine yields_run (u := .pointer (some ⟨g2, 0, none⟩)) (w' := w7) ?_ (Below.refl _ _) rfl
          unfold execOp
          simp [go_sem, Act.eval, Act.put]
        · intro v2 w7 hr hd
          have h5 : v2 5 = _ := hd 5 (by kernel_rfl)
          have c0 := (G2.out w7 (Br.out.trans (hr.1.mono Br.out.size)) 0)
          refine yields_run (u := .slice (some ⟨b2, o2, none⟩) g.c.length vi) (w' := w7) ?_ (Below.refl _ _) rfl
          unfold execOp
          simp [go_sem, Act.eval, Act.put, h5, c0]
        · intro v2 w7 hr hd
          refine yields_run (u := .int .i64 i) (w' := w7) ?_ (Below.refl _ _) rfl
          unfold execOp
          simp [go_sem, Act.eval, Act.put]
        · intro v2 w7 hr hd
          have h6 : v2 6 = _ := hd 6 (by kernel_rfl)
          have h7 : v2 7 = _ := hd 7 (by kernel_rfl)
          exact yields_index (b := b2) (off := o2) (n := g.c.length) (c := vi) (i := i) (m := 2) rfl (by simp [Act.eval, Act.put, h6, h7]) (by simp [Act.eval, Act.put, h6, h7]) hlt Tryz.underlying31 (by intro w; simp [Tryz.sizeOf137])
        · intro v2 w7 hr hd
          have h8 : v2 8 = _ := hd 8 (by kernel_rfl)
          have c0 := (F0.out w7 hr.1)
          have c1 := (F1.out w7 hr.1)
          refine yields_run (u := .agg #[sV x.n, .int .i64 x.w]) (w' := w7) ?_ (Below.refl _ _) rfl
          unfold execOp
          simp [go_sem, Act.eval, Act.put, h8, c0, c1]
        · intro v2 w7 hr hd
          have h4 : v2 4 = _ := hd 4 (by kernel_rfl)
          have h9 : v2 9 = _ := hd 9 (by kernel_rfl)
          refine yields_run (u := .bool false) (w' := w7) ?_ (Below.refl _ _) rfl
          unfold execOp
          simp [go_sem, Act.eval, Act.put, h4, h9, nq]
        · intro v2 w7 hr hv
          have hb9 : v2 10 = .bool false := hv 10 (by decide)
          have hR := Lib.hid hr
          rw [hfin]
          generalize v2 10 = v5 at hb9 ⊢
          subst hb9
          clear hfin hv hr
          go_wp2_with fail
          go_roundw
          case rel => exact ⟨i + 1, hlt, by go_num, Lib.hid (Br.out.trans (hR.out.1.mono Br.out.size))⟩
          case measure => simp [intOf]; omega
    subst hin
    have hlt : ¬ ((g.c.length : Int) < g.c.length) := by omega
    go_upto_region 8 with fail
    clear k0 hlt
    go_wp2_with fail
    go_loopw [6] (fun a wr => ∃ i : Nat, i ≤ g.l.length ∧ a = .int .i64 i ∧ Hid (Below w3.heap.size w3 wr)) (fun a _ => (g.l.length - intOf a).toNat)
    case atStart => exact ⟨0, by omega, rfl, Lib.hid Br.out⟩
    case round =>
      obtain ⟨i, hi, rfl, Br⟩ := hrel
      have k0 : wr.cell? ⟨g1, 1, none⟩ = some (.slice ub g.l.length uj) := G1.out wr Br.out 1
      by_cases hin : i = g.l.length
      case neg =>
        have hlt : i < g.l.length := by omega
        obtain ⟨x, hx⟩ : ∃ x, g.l[i]? = some x := ⟨g.l[i], List.getElem?_eq_getElem hlt⟩
        obtain ⟨b1, o1, hA, hb1, c0, c1, c2⟩ := at_lo HU.out.l hx
        change ub = _ at hA
        obtain ⟨b2, o2, hB, hb2, d0, d1, d2⟩ := at_lo HV.out.l hx
        change vb = _ at hB
        subst hA
        subst hB
        have E0 : ∀ w7, Below wr.heap.size wr w7 → w7.cell? ⟨b1, o1 + i * 3, none⟩ = some (sV x.n) := fun w7 h7 => ((HW.out w7 (Br.out.trans (h7.mono Br.out.size))).cell (p := ⟨b1, o1 + i * 3, none⟩) hb1).trans c0
        have F0 : ∀ w7, Below wr.heap.size wr w7 → w7.cell? ⟨b2, o2 + i * 3, none⟩ = some (sV x.n) := fun w7 h7 => ((HW.out w7 (Br.out.trans (h7.mono Br.out.size))).cell (p := ⟨b2, o2 + i * 3, none⟩) hb2).trans d0
        replace E0 := Lib.hid E0
        replace F0 := Lib.hid F0
        have E1 : ∀ w7, Below wr.heap.size wr w7 → w7.cell? ⟨b1, o1 + i * 3 + 1, none⟩ = some (.int .i64 x.u) := fun w7 h7 => ((HW.out w7 (Br.out.trans (h7.mono Br.out.size))).cell (p := ⟨b1, o1 + i * 3 + 1, none⟩) hb1).trans c1
        have F1 : ∀ w7, Below wr.heap.size wr w7 → w7.cell? ⟨b2, o2 + i * 3 + 1, none⟩ = some (.int .i64 x.u) := fun w7 h7 => ((HW.out w7 (Br.out.trans (h7.mono Br.out.size))).cell (p := ⟨b2, o2 + i * 3 + 1, none⟩) hb2).trans d1
        replace E1 := Lib.hid E1
        replace F1 := Lib.hid F1
        have E2 : ∀ w7, Below wr.heap.size wr w7 → w7.cell? ⟨b1, o1 + i * 3 + 2, none⟩ = some (.int .i64 x.r) := fun w7 h7 => ((HW.out w7 (Br.out.trans (h7.mono Br.out.size))).cell (p := ⟨b1, o1 + i * 3 + 2, none⟩) hb1).trans c2
        have F2 : ∀ w7, Below wr.heap.size wr w7 → w7.cell? ⟨b2, o2 + i * 3 + 2, none⟩ = some (.int .i64 x.r) := fun w7 h7 => ((HW.out w7 (Br.out.trans (h7.mono Br.out.size))).cell (p := ⟨b2, o2 + i * 3 + 2, none⟩) hb2).trans d2
        replace E2 := Lib.hid E2
        replace F2 := Lib.hid F2
        have nq : ∀ w, (Op.equalIn 10000 139 (.agg #[sV x.n, .int .i64 x.u, .int .i64 x.r]) (.agg #[sV x.n, .int .i64 x.u, .int .i64 x.r])).run Tryz.prog w = .ok true w := fun w => eqLoop9 ⟨x.n.toArray⟩ x.u x.r w
        clear hx c0 d0 c1 d1 c2 d2 hb1 hb2
        go_upto_region 11 with fail
        clear k0
        refine region_full 115 [] [] (fun _ => false) (fun w7 => Below wr.heap.size wr w7 ∧ wr.heap.size ≤ w7.heap.size) ?hR ?r0 [pdOne 0 (Is (.pointer (some ⟨g1, 1, none⟩))), pdOne 1 (Is (.slice (some ⟨b1, o1, none⟩) g.l.length uj)), pdOne 2 (Is (.int .i64 i)), pdOne 3 (Is (.pointer (some ⟨b1, o1 + i * 3, none⟩))), pdOne 4 (Is (.agg #[sV x.n, .int .i64 x.u, .int .i64 x.r])), pdOne 5 (Is (.pointer (some ⟨g2, 1, none⟩))), pdOne 6 (Is (.slice (some ⟨b2, o2, none⟩) g.l.length vj)), pdOne 7 (Is (.int .i64 i)), pdOne 8 (Is (.pointer (some ⟨b2, o2 + i * 3, none⟩))), pdOne 9 (Is (.agg #[sV x.n, .int .i64 x.u, .int .i64 x.r])), pdOne 10 (Is (.bool false))] (fun _ _ => True) (by kernel_rfl) rfl (by kernel_rfl) (by kernel_rfl) (by kernel_rfl) (by kernel_rfl) ?keep ?hO ?h0 ?tell
        case hR => exact fun wa wb hb ⟨h1, h2⟩ => ⟨h1.trans (hb.mono h1.size), Nat.le_trans h2 hb.size⟩
        case r0 => exact ⟨Below.refl _ _, Nat.le_refl _⟩
        case keep => exact ⟨keep_one (keeps_is _), keep_one (keeps_is _), keep_one (keeps_is _), keep_one (keeps_is _), keep_one (keeps_is _), keep_one (keeps_is _), keep_one (keeps_is _), keep_one (keeps_is _), keep_one (keeps_is _), keep_one (keeps_is _), keep_one (keeps_is _), trivial⟩
        case hO => exact fun _ _ _ _ h => h
        case h0 => exact fun _ _ => trivial
        case tell =>
          intro fin hfin
          simp [lexPut, Act.put] at hfin
          simp only [TellF]
          refine ⟨⟨?_, ?_, ?_, ?_, ?_, ?_, ?_, ?_, ?_, ?_, ?_, trivial⟩, ?_⟩
          · intro v2 w7 hr hd
            refine yields_run (u := .pointer (some ⟨g1, 1, none⟩)) (w' := w7) ?_ (Below.refl _ _) rfl
            unfold execOp
            simp [go_sem, Act.eval]
          · intro v2 w7 hr hd
            have h0 : v2 0 = _ := hd 0 (by kernel_rfl)
            have c0 := (G1.out w7 (Br.out.trans (hr.1.mono Br.out.size)) 1)
            refine yields_run (u := .slice (some ⟨b1, o1, none⟩) g.l.length uj) (w' := w7) ?_ (Below.refl _ _) rfl
            unfold execOp
            simp [go_sem, Act.eval, Act.put, h0, c0]
          · intro v2 w7 hr hd
            refine yields_run (u := .int .i64 i) (w' := w7) ?_ (Below.refl _ _) rfl
            unfold execOp
            simp [go_sem, Act.eval, Act.put]
          · intro v2 w7 hr hd
            have h1 : v2 1 = _ := hd 1 (by kernel_rfl)
            have h2 : v2 2 = _ := hd 2 (by kernel_rfl)
            exact yields_index (b := b1) (off := o1) (n := g.l.length) (c := uj) (i := i) (m := 3) rfl (by simp [Act.eval, Act.put, h1, h2]) (by simp [Act.eval, Act.put, h1, h2]) hlt Tryz.underlying32 (by intro w; simp [Tryz.sizeOf139])
          · intro v2 w7 hr hd
            have h3 : v2 3 = _ := hd 3 (by kernel_rfl)
            have c0 := (E0.out w7 hr.1)
            have c1 := (E1.out w7 hr.1)
            have c2 := (E2.out w7 hr.1)
            refine yields_run (u := .agg #[sV x.n, .int .i64 x.u, .int .i64 x.r]) (w' := w7) ?_ (Below.refl _ _) rfl
            unfold execOp
            simp [go_sem, Act.eval, Act.put, h3, c0, c1, c2]
          · intro v2 w7 hr hd
            refine yields_run (u := .pointer (some ⟨g2, 1, none⟩)) (w' := w7) ?_ (Below.refl _ _) rfl
            unfold execOp
            simp [go_sem, Act.eval, Act.put]
          · intro v2 w7 hr hd
            have h5 : v2 5 = _ := hd 5 (by kernel_rfl)
            have c0 := (G2.out w7 (Br.out.trans (hr.1.mono Br.out.size)) 1)
            refine yields_run (u := .slice (some ⟨b2, o2, none⟩) g.l.length vj) (w' := w7) ?_ (Below.refl _ _) rfl
            unfold execOp
            simp [go_sem, Act.eval, Act.put, h5, c0]
          · intro v2 w7 hr hd
            refine yields_run (u := .int .i64 i) (w' := w7) ?_ (Below.refl _ _) rfl
            unfold execOp
            simp [go_sem, Act.eval, Act.put]
          · intro v2 w7 hr hd
            have h6 : v2 6 = _ := hd 6 (by kernel_rfl)
            have h7 : v2 7 = _ := hd 7 (by kernel_rfl)
            exact yields_index (b := b2) (off := o2) (n := g.l.length) (c := vj) (i := i) (m := 3) rfl (by simp [Act.eval, Act.put, h6, h7]) (by simp [Act.eval, Act.put, h6, h7]) hlt Tryz.underlying32 (by intro w; simp [Tryz.sizeOf139])
          · intro v2 w7 hr hd
            have h8 : v2 8 = _ := hd 8 (by kernel_rfl)
            have c0 := (F0.out w7 hr.1)
            have c1 := (F1.out w7 hr.1)
            have c2 := (F2.out w7 hr.1)
            refine yields_run (u := .agg #[sV x.n, .int .i64 x.u, .int .i64 x.r]) (w' := w7) ?_ (Below.refl _ _) rfl
            unfold execOp
            simp [go_sem, Act.eval, Act.put, h8, c0, c1, c2]
          · intro v2 w7 hr hd
            have h4 : v2 4 = _ := hd 4 (by kernel_rfl)
            have h9 : v2 9 = _ := hd 9 (by kernel_rfl)
            refine yields_run (u := .bool false) (w' := w7) ?_ (Below.refl _ _) rfl
            unfold execOp
            simp [go_sem, Act.eval, Act.put, h4, h9, nq]
          · intro v2 w7 hr hv
            have hb9 : v2 10 = .bool false := hv 10 (by decide)
            have hR := Lib.hid hr
            rw [hfin]
            generalize v2 10 = v5 at hb9 ⊢
            subst hb9
            clear hfin hv hr
            go_wp2_with fail
            go_roundw
            case rel => exact ⟨i + 1, hlt, by go_num, Lib.hid (Br.out.trans (hR.out.1.mono Br.out.size))⟩
            case measure => simp [intOf]; omega
      subst hin
      have hlt : ¬ ((g.l.length : Int) < g.l.length) := by omega
      go_upto_region 13 with fail
      clear k0 hlt
      go_wp2_with fail
      go_loopw [7] (fun a wr => ∃ i : Nat, i ≤ g.o.length ∧ a = .int .i64 i ∧ Hid (Below w3.heap.size w3 wr)) (fun a _ => (g.o.length - intOf a).toNat)
      case atStart => exact ⟨0, by omega, rfl, Lib.hid Br.out⟩
      case round =>
        obtain ⟨i, hi, rfl, Br⟩ := hrel
        have k0 : wr.cell? ⟨g1, 2, none⟩ = some (.slice ud g.o.length uk) := G1.out wr Br.out 2
        by_cases hin : i = g.o.length
        case neg =>
          have hlt : i < g.o.length := by omega
          obtain ⟨x, hx⟩ : ∃ x, g.o[i]? = some x := ⟨g.o[i], List.getElem?_eq_getElem hlt⟩
          obtain ⟨b1, o1, hA, hb1, c0, c1, c2, c3, c4, c5⟩ := at_oq HU.out.o hx
          change ud = _ at hA
          obtain ⟨b2, o2, hB, hb2, d0, d1, d2, d3, d4, d5⟩ := at_oq HV.out.o hx
          change vd = _ at hB
          subst hA
          subst hB
          have E0 : ∀ w7, Below wr.heap.size wr w7 → w7.cell? ⟨b1, o1 + i * 6, none⟩ = some (sV x.n) := fun w7 h7 => ((HW.out w7 (Br.out.trans (h7.mono Br.out.size))).cell (p := ⟨b1, o1 + i * 6, none⟩) hb1).trans c0
          have F0 : ∀ w7, Below wr.heap.size wr w7 → w7.cell? ⟨b2, o2 + i * 6, none⟩ = some (sV x.n) := fun w7 h7 => ((HW.out w7 (Br.out.trans (h7.mono Br.out.size))).cell (p := ⟨b2, o2 + i * 6, none⟩) hb2).trans d0
          replace E0 := Lib.hid E0
          replace F0 := Lib.hid F0
          have E1 : ∀ w7, Below wr.heap.size wr w7 → w7.cell? ⟨b1, o1 + i * 6 + 1, none⟩ = some (.int .i64 x.k) := fun w7 h7 => ((HW.out w7 (Br.out.trans (h7.mono Br.out.size))).cell (p := ⟨b1, o1 + i * 6 + 1, none⟩) hb1).trans c1
          have F1 : ∀ w7, Below wr.heap.size wr w7 → w7.cell? ⟨b2, o2 + i * 6 + 1, none⟩ = some (.int .i64 x.k) := fun w7 h7 => ((HW.out w7 (Br.out.trans (h7.mono Br.out.size))).cell (p := ⟨b2, o2 + i * 6 + 1, none⟩) hb2).trans d1
          replace E1 := Lib.hid E1
          replace F1 := Lib.hid F1
          have E2 : ∀ w7, Below wr.heap.size wr w7 → w7.cell? ⟨b1, o1 + i * 6 + 2, none⟩ = some (.int .i64 x.l) := fun w7 h7 => ((HW.out w7 (Br.out.trans (h7.mono Br.out.size))).cell (p := ⟨b1, o1 + i * 6 + 2, none⟩) hb1).trans c2
          have F2 : ∀ w7, Below wr.heap.size wr w7 → w7.cell? ⟨b2, o2 + i * 6 + 2, none⟩ = some (.int .i64 x.l) := fun w7 h7 => ((HW.out w7 (Br.out.trans (h7.mono Br.out.size))).cell (p := ⟨b2, o2 + i * 6 + 2, none⟩) hb2).trans d2
          replace E2 := Lib.hid E2
          replace F2 := Lib.hid F2
          have E3 : ∀ w7, Below wr.heap.size wr w7 → w7.cell? ⟨b1, o1 + i * 6 + 3, none⟩ = some (.int .i64 x.a) := fun w7 h7 => ((HW.out w7 (Br.out.trans (h7.mono Br.out.size))).cell (p := ⟨b1, o1 + i * 6 + 3, none⟩) hb1).trans c3
          have F3 : ∀ w7, Below wr.heap.size wr w7 → w7.cell? ⟨b2, o2 + i * 6 + 3, none⟩ = some (.int .i64 x.a) := fun w7 h7 => ((HW.out w7 (Br.out.trans (h7.mono Br.out.size))).cell (p := ⟨b2, o2 + i * 6 + 3, none⟩) hb2).trans d3
          replace E3 := Lib.hid E3
          replace F3 := Lib.hid F3
          have E4 : ∀ w7, Below wr.heap.size wr w7 → w7.cell? ⟨b1, o1 + i * 6 + 4, none⟩ = some (.int .i64 x.x) := fun w7 h7 => ((HW.out w7 (Br.out.trans (h7.mono Br.out.size))).cell (p := ⟨b1, o1 + i * 6 + 4, none⟩) hb1).trans c4
          have F4 : ∀ w7, Below wr.heap.size wr w7 → w7.cell? ⟨b2, o2 + i * 6 + 4, none⟩ = some (.int .i64 x.x) := fun w7 h7 => ((HW.out w7 (Br.out.trans (h7.mono Br.out.size))).cell (p := ⟨b2, o2 + i * 6 + 4, none⟩) hb2).trans d4
          replace E4 := Lib.hid E4
          replace F4 := Lib.hid F4
          have E5 : ∀ w7, Below wr.heap.size wr w7 → w7.cell? ⟨b1, o1 + i * 6 + 5, none⟩ = some (.int .i64 x.y) := fun w7 h7 => ((HW.out w7 (Br.out.trans (h7.mono Br.out.size))).cell (p := ⟨b1, o1 + i * 6 + 5, none⟩) hb1).trans c5
          have F5 : ∀ w7, Below wr.heap.size wr w7 → w7.cell? ⟨b2, o2 + i * 6 + 5, none⟩ = some (.int .i64 x.y) := fun w7 h7 => ((HW.out w7 (Br.out.trans (h7.mono Br.out.size))).cell (p := ⟨b2, o2 + i * 6 + 5, none⟩) hb2).trans d5
          replace E5 := Lib.hid E5
          replace F5 := Lib.hid F5
          have nq : ∀ w, (Op.equalIn 10000 141 (.agg #[sV x.n, .int .i64 x.k, .int .i64 x.l, .int .i64 x.a, .int .i64 x.x, .int .i64 x.y]) (.agg #[sV x.n, .int .i64 x.k, .int .i64 x.l, .int .i64 x.a, .int .i64 x.x, .int .i64 x.y])).run Tryz.prog w = .ok true w := fun w => eqOp9 ⟨x.n.toArray⟩ x.k x.l x.a x.x x.y w
          clear hx c0 d0 c1 d1 c2 d2 c3 d3 c4 d4 c5 d5 hb1 hb2
          go_upto_region 16 with fail
          clear k0
          refine region_full 115 [] [] (fun _ => false) (fun w7 => Below wr.heap.size wr w7 ∧ wr.heap.size ≤ w7.heap.size) ?hR ?r0 [pdOne 0 (Is (.pointer (some ⟨g1, 2, none⟩))), pdOne 1 (Is (.slice (some ⟨b1, o1, none⟩) g.o.length uk)), pdOne 2 (Is (.int .i64 i)), pdOne 3 (Is (.pointer (some ⟨b1, o1 + i * 6, none⟩))), pdOne 4 (Is (.agg #[sV x.n, .int .i64 x.k, .int .i64 x.l, .int .i64 x.a, .int .i64 x.x, .int .i64 x.y])), pdOne 5 (Is (.pointer (some ⟨g2, 2, none⟩))), pdOne 6 (Is (.slice (some ⟨b2, o2, none⟩) g.o.length vk)), pdOne 7 (Is (.int .i64 i)), pdOne 8 (Is (.pointer (some ⟨b2, o2 + i * 6, none⟩))), pdOne 9 (Is (.agg #[sV x.n, .int .i64 x.k, .int .i64 x.l, .int .i64 x.a, .int .i64 x.x, .int .i64 x.y])), pdOne 10 (Is (.bool false))] (fun _ _ => True) (by kernel_rfl) rfl (by kernel_rfl) (by kernel_rfl) (by kernel_rfl) (by kernel_rfl) ?keep ?hO ?h0 ?tell
          case hR => exact fun wa wb hb ⟨h1, h2⟩ => ⟨h1.trans (hb.mono h1.size), Nat.le_trans h2 hb.size⟩
          case r0 => exact ⟨Below.refl _ _, Nat.le_refl _⟩
          case keep => exact ⟨keep_one (keeps_is _), keep_one (keeps_is _), keep_one (keeps_is _), keep_one (keeps_is _), keep_one (keeps_is _), keep_one (keeps_is _), keep_one (keeps_is _), keep_one (keeps_is _), keep_one (keeps_is _), keep_one (keeps_is _), keep_one (keeps_is _), trivial⟩
          case hO => exact fun _ _ _ _ h => h
          case h0 => exact fun _ _ => trivial
          case tell =>
            intro fin hfin
            simp [lexPut, Act.put] at hfin
            simp only [TellF]
            refine ⟨⟨?_, ?_, ?_, ?_, ?_, ?_, ?_, ?_, ?_, ?_, ?_, trivial⟩, ?_⟩
            · intro v2 w7 hr hd
              refine yields_run (u := .pointer (some ⟨g1, 2, none⟩)) (w' := w7) ?_ (Below.refl _ _) rfl
              unfold execOp
              simp [go_sem, Act.eval]
            · intro v2 w7 hr hd
              have h0 : v2 0 = _ := hd 0 (by kernel_rfl)
              have c0 := (G1.out w7 (Br.out.trans (hr.1.mono Br.out.size)) 2)
              refine yields_run (u := .slice (some ⟨b1, o1, none⟩) g.o.length uk) (w' := w7) ?_ (Below.refl _ _) rfl
              unfold execOp
              simp [go_sem, Act.eval, Act.put, h0, c0]
            · intro v2 w7 hr hd
              refine yields_run (u := .int .i64 i) (w' := w7) ?_ (Below.refl _ _) rfl
              unfold execOp
              simp [go_sem, Act.eval, Act.put]
            · intro v2 w7 hr hd
              have h1 : v2 1 = _ := hd 1 (by kernel_rfl)
              have h2 : v2 2 = _ := hd 2 (by kernel_rfl)
              exact yields_index (b := b1) (off := o1) (n := g.o.length) (c := uk) (i := i) (m := 6) rfl (by simp [Act.eval, Act.put, h1, h2]) (by simp [Act.eval, Act.put, h1, h2]) hlt Tryz.underlying33 (by intro w; simp [Tryz.sizeOf141])
            · intro v2 w7 hr hd
              have h3 : v2 3 = _ := hd 3 (by kernel_rfl)
              have c0 := (E0.out w7 hr.1)
              have c1 := (E1.out w7 hr.1)
              have c2 := (E2.out w7 hr.1)
              have c3 := (E3.out w7 hr.1)
              have c4 := (E4.out w7 hr.1)
              have c5 := (E5.out w7 hr.1)
              refine yields_run (u := .agg #[sV x.n, .int .i64 x.k, .int .i64 x.l, .int .i64 x.a, .int .i64 x.x, .int .i64 x.y]) (w' := w7) ?_ (Below.refl _ _) rfl
              unfold execOp
              simp [go_sem, Act.eval, Act.put, h3, c0, c1, c2, c3, c4, c5]
            · intro v2 w7 hr hd
              refine yields_run (u := .pointer (some ⟨g2, 2, none⟩)) (w' := w7) ?_ (Below.refl _ _) rfl
              unfold execOp
              simp [go_sem, Act.eval, Act.put]
            · intro v2 w7 hr hd
              have h5 : v2 5 = _ := hd 5 (by kernel_rfl)
              have c0 := (G2.out w7 (Br.out.trans (hr.1.mono Br.out.size)) 2)
              refine yields_run (u := .slice (some ⟨b2, o2, none⟩) g.o.length vk) (w' := w7) ?_ (Below.refl _ _) rfl
              unfold execOp
              simp [go_sem, Act.eval, Act.put, h5, c0]
            · intro v2 w7 hr hd
              refine yields_run (u := .int .i64 i) (w' := w7) ?_ (Below.refl _ _) rfl
              unfold execOp
              simp [go_sem, Act.eval, Act.put]
            · intro v2 w7 hr hd
              have h6 : v2 6 = _ := hd 6 (by kernel_rfl)
              have h7 : v2 7 = _ := hd 7 (by kernel_rfl)
              exact yields_index (b := b2) (off := o2) (n := g.o.length) (c := vk) (i := i) (m := 6) rfl (by simp [Act.eval, Act.put, h6, h7]) (by simp [Act.eval, Act.put, h6, h7]) hlt Tryz.underlying33 (by intro w; simp [Tryz.sizeOf141])
            · intro v2 w7 hr hd
              have h8 : v2 8 = _ := hd 8 (by kernel_rfl)
              have c0 := (F0.out w7 hr.1)
              have c1 := (F1.out w7 hr.1)
              have c2 := (F2.out w7 hr.1)
              have c3 := (F3.out w7 hr.1)
              have c4 := (F4.out w7 hr.1)
              have c5 := (F5.out w7 hr.1)
              refine yields_run (u := .agg #[sV x.n, .int .i64 x.k, .int .i64 x.l, .int .i64 x.a, .int .i64 x.x, .int .i64 x.y]) (w' := w7) ?_ (Below.refl _ _) rfl
              unfold execOp
              simp [go_sem, Act.eval, Act.put, h8, c0, c1, c2, c3, c4, c5]
            · intro v2 w7 hr hd
              have h4 : v2 4 = _ := hd 4 (by kernel_rfl)
              have h9 : v2 9 = _ := hd 9 (by kernel_rfl)
              refine yields_run (u := .bool false) (w' := w7) ?_ (Below.refl _ _) rfl
              unfold execOp
              simp [go_sem, Act.eval, Act.put, h4, h9, nq]
            · intro v2 w7 hr hv
              have hb9 : v2 10 = .bool false := hv 10 (by decide)
              have hR := Lib.hid hr
              rw [hfin]
              generalize v2 10 = v5 at hb9 ⊢
              subst hb9
              clear hfin hv hr
              go_wp2_with fail
              go_roundw
              case rel => exact ⟨i + 1, hlt, by go_num, Lib.hid (Br.out.trans (hR.out.1.mono Br.out.size))⟩
              case measure => simp [intOf]; omega
        subst hin
        have hlt : ¬ ((g.o.length : Int) < g.o.length) := by omega
        go_upto_region 18 with fail
        clear k0 hlt
        go_wp2_with fail
        go_loopw [8] (fun a wr => ∃ i : Nat, i ≤ g.h.length ∧ a = .int .i64 i ∧ Hid (Below w3.heap.size w3 wr)) (fun a _ => (g.h.length - intOf a).toNat)
        case atStart => exact ⟨0, by omega, rfl, Lib.hid Br.out⟩
        case round =>
          obtain ⟨i, hi, rfl, Br⟩ := hrel
          have k0 : wr.cell? ⟨g1, 3, none⟩ = some (.slice ue g.h.length um) := G1.out wr Br.out 3
          by_cases hin : i = g.h.length
          case neg =>
            have hlt : i < g.h.length := by omega
            obtain ⟨x, hx⟩ : ∃ x, g.h[i]? = some x := ⟨g.h[i], List.getElem?_eq_getElem hlt⟩
            obtain ⟨b1, o1, hA, hb1, c0, c1⟩ := at_ch HU.out.h hx
            change ue = _ at hA
            obtain ⟨b2, o2, hB, hb2, d0, d1⟩ := at_ch HV.out.h hx
            change ve = _ at hB
            subst hA
            subst hB
            have E0 : ∀ w7, Below wr.heap.size wr w7 → w7.cell? ⟨b1, o1 + i * 2, none⟩ = some (.int .i64 x.f) := fun w7 h7 => ((HW.out w7 (Br.out.trans (h7.mono Br.out.size))).cell (p := ⟨b1, o1 + i * 2, none⟩) hb1).trans c0
            have F0 : ∀ w7, Below wr.heap.size wr w7 → w7.cell? ⟨b2, o2 + i * 2, none⟩ = some (.int .i64 x.f) := fun w7 h7 => ((HW.out w7 (Br.out.trans (h7.mono Br.out.size))).cell (p := ⟨b2, o2 + i * 2, none⟩) hb2).trans d0
            replace E0 := Lib.hid E0
            replace F0 := Lib.hid F0
            have E1 : ∀ w7, Below wr.heap.size wr w7 → w7.cell? ⟨b1, o1 + i * 2 + 1, none⟩ = some (.int .i64 x.t) := fun w7 h7 => ((HW.out w7 (Br.out.trans (h7.mono Br.out.size))).cell (p := ⟨b1, o1 + i * 2 + 1, none⟩) hb1).trans c1
            have F1 : ∀ w7, Below wr.heap.size wr w7 → w7.cell? ⟨b2, o2 + i * 2 + 1, none⟩ = some (.int .i64 x.t) := fun w7 h7 => ((HW.out w7 (Br.out.trans (h7.mono Br.out.size))).cell (p := ⟨b2, o2 + i * 2 + 1, none⟩) hb2).trans d1
            replace E1 := Lib.hid E1
            replace F1 := Lib.hid F1
            have nq : ∀ w, (Op.equalIn 10000 142 (.agg #[.int .i64 x.f, .int .i64 x.t]) (.agg #[.int .i64 x.f, .int .i64 x.t])).run Tryz.prog w = .ok true w := fun w => eqChannel9 x.f x.t w
            clear hx c0 d0 c1 d1 hb1 hb2
            go_upto_region 21 with fail
            clear k0
            refine region_full 115 [] [] (fun _ => false) (fun w7 => Below wr.heap.size wr w7 ∧ wr.heap.size ≤ w7.heap.size) ?hR ?r0 [pdOne 0 (Is (.pointer (some ⟨g1, 3, none⟩))), pdOne 1 (Is (.slice (some ⟨b1, o1, none⟩) g.h.length um)), pdOne 2 (Is (.int .i64 i)), pdOne 3 (Is (.pointer (some ⟨b1, o1 + i * 2, none⟩))), pdOne 4 (Is (.agg #[.int .i64 x.f, .int .i64 x.t])), pdOne 5 (Is (.pointer (some ⟨g2, 3, none⟩))), pdOne 6 (Is (.slice (some ⟨b2, o2, none⟩) g.h.length vm)), pdOne 7 (Is (.int .i64 i)), pdOne 8 (Is (.pointer (some ⟨b2, o2 + i * 2, none⟩))), pdOne 9 (Is (.agg #[.int .i64 x.f, .int .i64 x.t])), pdOne 10 (Is (.bool false))] (fun _ _ => True) (by kernel_rfl) rfl (by kernel_rfl) (by kernel_rfl) (by kernel_rfl) (by kernel_rfl) ?keep ?hO ?h0 ?tell
            case hR => exact fun wa wb hb ⟨h1, h2⟩ => ⟨h1.trans (hb.mono h1.size), Nat.le_trans h2 hb.size⟩
            case r0 => exact ⟨Below.refl _ _, Nat.le_refl _⟩
            case keep => exact ⟨keep_one (keeps_is _), keep_one (keeps_is _), keep_one (keeps_is _), keep_one (keeps_is _), keep_one (keeps_is _), keep_one (keeps_is _), keep_one (keeps_is _), keep_one (keeps_is _), keep_one (keeps_is _), keep_one (keeps_is _), keep_one (keeps_is _), trivial⟩
            case hO => exact fun _ _ _ _ h => h
            case h0 => exact fun _ _ => trivial
            case tell =>
              intro fin hfin
              simp [lexPut, Act.put] at hfin
              simp only [TellF]
              refine ⟨⟨?_, ?_, ?_, ?_, ?_, ?_, ?_, ?_, ?_, ?_, ?_, trivial⟩, ?_⟩
              · intro v2 w7 hr hd
                refine yields_run (u := .pointer (some ⟨g1, 3, none⟩)) (w' := w7) ?_ (Below.refl _ _) rfl
                unfold execOp
                simp [go_sem, Act.eval]
              · intro v2 w7 hr hd
                have h0 : v2 0 = _ := hd 0 (by kernel_rfl)
                have c0 := (G1.out w7 (Br.out.trans (hr.1.mono Br.out.size)) 3)
                refine yields_run (u := .slice (some ⟨b1, o1, none⟩) g.h.length um) (w' := w7) ?_ (Below.refl _ _) rfl
                unfold execOp
                simp [go_sem, Act.eval, Act.put, h0, c0]
              · intro v2 w7 hr hd
                refine yields_run (u := .int .i64 i) (w' := w7) ?_ (Below.refl _ _) rfl
                unfold execOp
                simp [go_sem, Act.eval, Act.put]
              · intro v2 w7 hr hd
                have h1 : v2 1 = _ := hd 1 (by kernel_rfl)
                have h2 : v2 2 = _ := hd 2 (by kernel_rfl)
                exact yields_index (b := b1) (off := o1) (n := g.h.length) (c := um) (i := i) (m := 2) rfl (by simp [Act.eval, Act.put, h1, h2]) (by simp [Act.eval, Act.put, h1, h2]) hlt Tryz.underlying34 (by intro w; simp [Tryz.sizeOf142])
              · intro v2 w7 hr hd
                have h3 : v2 3 = _ := hd 3 (by kernel_rfl)
                have c0 := (E0.out w7 hr.1)
                have c1 := (E1.out w7 hr.1)
                refine yields_run (u := .agg #[.int .i64 x.f, .int .i64 x.t]) (w' := w7) ?_ (Below.refl _ _) rfl
                unfold execOp
                simp [go_sem, Act.eval, Act.put, h3, c0, c1]
              · intro v2 w7 hr hd
                refine yields_run (u := .pointer (some ⟨g2, 3, none⟩)) (w' := w7) ?_ (Below.refl _ _) rfl
                unfold execOp
                simp [go_sem, Act.eval, Act.put]
              · intro v2 w7 hr hd
                have h5 : v2 5 = _ := hd 5 (by kernel_rfl)
                have c0 := (G2.out w7 (Br.out.trans (hr.1.mono Br.out.size)) 3)
                refine yields_run (u := .slice (some ⟨b2, o2, none⟩) g.h.length vm) (w' := w7) ?_ (Below.refl _ _) rfl
                unfold execOp
                simp [go_sem, Act.eval, Act.put, h5, c0]
              · intro v2 w7 hr hd
                refine yields_run (u := .int .i64 i) (w' := w7) ?_ (Below.refl _ _) rfl
                unfold execOp
                simp [go_sem, Act.eval, Act.put]
              · intro v2 w7 hr hd
                have h6 : v2 6 = _ := hd 6 (by kernel_rfl)
                have h7 : v2 7 = _ := hd 7 (by kernel_rfl)
                exact yields_index (b := b2) (off := o2) (n := g.h.length) (c := vm) (i := i) (m := 2) rfl (by simp [Act.eval, Act.put, h6, h7]) (by simp [Act.eval, Act.put, h6, h7]) hlt Tryz.underlying34 (by intro w; simp [Tryz.sizeOf142])
              · intro v2 w7 hr hd
                have h8 : v2 8 = _ := hd 8 (by kernel_rfl)
                have c0 := (F0.out w7 hr.1)
                have c1 := (F1.out w7 hr.1)
                refine yields_run (u := .agg #[.int .i64 x.f, .int .i64 x.t]) (w' := w7) ?_ (Below.refl _ _) rfl
                unfold execOp
                simp [go_sem, Act.eval, Act.put, h8, c0, c1]
              · intro v2 w7 hr hd
                have h4 : v2 4 = _ := hd 4 (by kernel_rfl)
                have h9 : v2 9 = _ := hd 9 (by kernel_rfl)
                refine yields_run (u := .bool false) (w' := w7) ?_ (Below.refl _ _) rfl
                unfold execOp
                simp [go_sem, Act.eval, Act.put, h4, h9, nq]
              · intro v2 w7 hr hv
                have hb9 : v2 10 = .bool false := hv 10 (by decide)
                have hR := Lib.hid hr
                rw [hfin]
                generalize v2 10 = v5 at hb9 ⊢
                subst hb9
                clear hfin hv hr
                go_wp2_with fail
                go_roundw
                case rel => exact ⟨i + 1, hlt, by go_num, Lib.hid (Br.out.trans (hR.out.1.mono Br.out.size))⟩
                case measure => simp [intOf]; omega
          subst hin
          have hlt : ¬ ((g.h.length : Int) < g.h.length) := by omega
          go_wp2_with fail
          go_ret
          exact ⟨rfl, hgs.out ▸ HW.out _ Br.out⟩
end Go.Proofs.YtpblpjopinllcaaGreatDoor.graph
