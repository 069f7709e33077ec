/-
  watershedlaw09.Great (by gen_gg.py).
  The walk of GraphFits.
-/
import Derived.Test.YtpblpjopinllcaaGreatDoorJLayG
import Derived.Test.YtpblpjopinllcaaGreatDoorJGfl
import Derived.Test.YtpblpjopinllcaaGreatDoorJOg
namespace Go.Proofs.YtpblpjopinllcaaGreatDoor.graph
open Go.ChangeShapes Go.WideShapes Go.ChangeAt Go.RowKit
open Go.Proofs.YtpblpjopinllcaaGreatDoor.opened Go.Proofs.YtpblpjopinllcaaGreatDoor.block Go.Proofs.YtpblpjopinllcaaGreatDoor.words
/-- A graph that is not too much to be asked. -/
structure Small (g : Gr) : Prop where
  lc : g.c.length ≤ 50
  ll : g.l.length ≤ 50
  lo : g.o.length ≤ 100
  lh : g.h.length ≤ 100
  c : ∀ x ∈ g.c, x.n.length ≤ 1000
  l : ∀ x ∈ g.l, x.n.length ≤ 1000
  o : ∀ x ∈ g.o, x.n.length ≤ 1000
open Classical in
/-- Is a graph too much to be asked? -/
noncomputable def greatB (g : Gr) : Bool := decide (¬ Small g)
theorem great_yes {g : Gr} (h : ¬ Small g) : greatB g = true := by unfold greatB; simp [h]
theorem great_no {g : Gr} (h : Small g) : greatB g = false := by unfold greatB; simp [h]
theorem great_small {g : Gr} (h : greatB g = false) : Small g := Classical.byContradiction fun k => by rw [great_yes k] at h; cases h
theorem len_str (s : Bs) : (⟨s.toArray⟩ : ByteArray).size = s.length := by show s.toArray.size = _; simp
theorem all_next {α : Type} {L : List α} {P : α → Prop} {i : Nat} {x : α} (hx : L[i]? = some x) (h : ∀ y ∈ L.take i, P y) (hp : P x) : ∀ y ∈ L.take (i + 1), P y := by
  intro y hy
  rw [List.take_add_one, hx] at hy
  rcases List.mem_append.1 hy with hy | hy
  · exact h y hy
  · simp at hy
    rw [hy]
    exact hp
set_option maxRecDepth 100000 in
set_option maxHeartbeats 2000000 in
theorem great_any (v : Gv) (g : Gr) (w : World) (h : Lies4 w v g) :
    Calls Tryz.prog 20 #[gV v g] w fun e w' => e = .returned (.bool (greatB g)) ∧ Below w.heap.size w w' := by
  obtain ⟨B, hBv⟩ : ∃ B, greatB g = B := ⟨_, rfl⟩
  rw [hBv]
  replace hBv := Lib.hid hBv
  obtain ⟨va, vb, vd, ve, vi, vj, vk, vm⟩ := v
  unfold gV
  dsimp only
  have hB := Lib.hid (fresh1 w (.cells #[.slice va g.c.length vi, .slice vb g.l.length vj, .slice vd g.o.length vk, .slice ve g.h.length vm] 36))
  have OX := Lib.hid (Whole.fresh w 36 #[.slice va g.c.length vi, .slice vb g.l.length vj, .slice vd g.o.length vk, .slice ve g.h.length vm])
  have H1 := Lib.hid (h.below hB.out)
  clear h
  go_enter Tryz.func20, Tryz.ntmps20
  go_upto_region 1 with fail
  change Code.wp _ _ _ _ (w.alloc (.cells #[.slice va g.c.length vi, .slice vb g.l.length vj, .slice vd g.o.length vk, .slice ve g.h.length vm] 36))
  generalize w.alloc (.cells #[.slice va g.c.length vi, .slice vb g.l.length vj, .slice vd g.o.length vk, .slice ve g.h.length vm] 36) = w1 at OX hB H1 ⊢
  obtain ⟨gg, hgg⟩ : ∃ gg, w.heap.size = gg := ⟨_, rfl⟩
  rw [hgg] at OX ⊢
  replace hgg := Lib.hid hgg
  have k := OX.out.read
  have k0 : w1.cell? ⟨gg, 0, none⟩ = some (.slice va g.c.length vi) := k 0
  have k1 : w1.cell? ⟨gg, 1, none⟩ = some (.slice vb g.l.length vj) := k 1
  have k2 : w1.cell? ⟨gg, 2, none⟩ = some (.slice vd g.o.length vk) := k 2
  have k3 : w1.cell? ⟨gg, 3, none⟩ = some (.slice ve g.h.length vm) := k 3
  clear k
  rcases Classical.em (50 < g.c.length) with a1 | a1
  · obtain rfl : true = B := by rw [← hBv.out, great_yes (fun S => by have := S.lc; have := S.ll; have := S.lo; have := S.lh; omega)]
    go_wp2_with fail
    go_ret
    exact ⟨rfl, hB.out⟩
  rcases Classical.em (50 < g.l.length) with a2 | a2
  · obtain rfl : true = B := by rw [← hBv.out, great_yes (fun S => by have := S.lc; have := S.ll; have := S.lo; have := S.lh; omega)]
    go_wp2_with fail
    go_ret
    exact ⟨rfl, hB.out⟩
  rcases Classical.em (100 < g.o.length) with a3 | a3
  · obtain rfl : true = B := by rw [← hBv.out, great_yes (fun S => by have := S.lc; have := S.ll; have := S.lo; have := S.lh; omega)]
    go_wp2_with fail
    go_ret
    exact ⟨rfl, hB.out⟩
  rcases Classical.em (100 < g.h.length) with a4 | a4
  · obtain rfl : true = B := by rw [← hBv.out, great_yes (fun S => by have := S.lc; have := S.ll; have := S.lo; have := S.lh; omega)]
    go_wp2_with fail
    go_ret
    exact ⟨rfl, hB.out⟩
  go_upto_region 3 with fail
  go_wp2_with fail
  go_loopw [3] (fun a wr => ∃ i : Nat, i ≤ g.c.length ∧ a = .int .i64 i ∧ Hid (∀ x ∈ g.c.take i, x.n.length ≤ 1000) ∧ w1 = wr) (fun a _ => (g.c.length - intOf a).toNat)
  case atStart => exact ⟨0, by omega, rfl, Lib.hid (by simp), rfl⟩
  case round =>
    obtain ⟨i, hi, rfl, Z, rfl⟩ := hrel
    by_cases hin : i = g.c.length
    case neg =>
      have hlt : i < g.c.length := by omega
      obtain ⟨x, hx⟩ : ∃ x, g.c[i]? = some x := ⟨g.c[i], List.getElem?_eq_getElem hlt⟩
      obtain ⟨b1, o1, hA, hb1, c0, c1⟩ := at_cl H1.out.c hx
      change va = _ at hA
      subst hA
      clear c1
      by_cases hb : x.n.length ≤ 1000
      · have Z2 := Lib.hid (all_next hx Z.out hb)
        have hb' : ¬ 1000 < x.n.length := by omega
        clear hx
        go_wp2_with fail
        go_roundw
        case rel => exact ⟨i + 1, hlt, by go_num, Z2, by first | rfl | trivial⟩
        case measure => simp [intOf]; omega
      · have hb' : 1000 < x.n.length := by omega
        obtain rfl : true = B := by rw [← hBv.out, great_yes (fun S => hb (S.c x (List.mem_of_getElem? hx)))]
        clear hx hb
        go_wp2_with fail
        go_ret
        exact ⟨rfl, hB.out⟩
    subst hin
    have Z0 := Lib.hid (show ∀ x ∈ g.c, x.n.length ≤ 1000 by have := Z.out; rwa [List.take_length] at this)
    clear Z
    have hlt : ¬ ((g.c.length : Int) < g.c.length) := by omega
    go_upto_region 8 with fail
    clear hlt
    go_wp2_with fail
    go_loopw [4] (fun a wr => ∃ i : Nat, i ≤ g.l.length ∧ a = .int .i64 i ∧ Hid (∀ x ∈ g.l.take i, x.n.length ≤ 1000) ∧ w1 = wr) (fun a _ => (g.l.length - intOf a).toNat)
    case atStart => exact ⟨0, by omega, rfl, Lib.hid (by simp), rfl⟩
    case round =>
      obtain ⟨i, hi, rfl, Z, rfl⟩ := hrel
      by_cases hin : i = g.l.length
      case neg =>
        have hlt : i < g.l.length := by omega
        obtain ⟨x, hx⟩ : ∃ x, g.l[i]? = some x := ⟨g.l[i], List.getElem?_eq_getElem hlt⟩
        obtain ⟨b1, o1, hA, hb1, c0, c1, c2⟩ := at_lo H1.out.l hx
        change vb = _ at hA
        subst hA
        clear c1 c2
        by_cases hb : x.n.length ≤ 1000
        · have Z2 := Lib.hid (all_next hx Z.out hb)
          have hb' : ¬ 1000 < x.n.length := by omega
          clear hx
          go_wp2_with fail
          go_roundw
          case rel => exact ⟨i + 1, hlt, by go_num, Z2, by first | rfl | trivial⟩
          case measure => simp [intOf]; omega
        · have hb' : 1000 < x.n.length := by omega
          obtain rfl : true = B := by rw [← hBv.out, great_yes (fun S => hb (S.l x (List.mem_of_getElem? hx)))]
          clear hx hb
          go_wp2_with fail
          go_ret
          exact ⟨rfl, hB.out⟩
      subst hin
      have Z1 := Lib.hid (show ∀ x ∈ g.l, x.n.length ≤ 1000 by have := Z.out; rwa [List.take_length] at this)
      clear Z
      have hlt : ¬ ((g.l.length : Int) < g.l.length) := by omega
      go_upto_region 13 with fail
      clear hlt
      go_wp2_with fail
      go_loopw [5] (fun a wr => ∃ i : Nat, i ≤ g.o.length ∧ a = .int .i64 i ∧ Hid (∀ x ∈ g.o.take i, x.n.length ≤ 1000) ∧ w1 = wr) (fun a _ => (g.o.length - intOf a).toNat)
      case atStart => exact ⟨0, by omega, rfl, Lib.hid (by simp), rfl⟩
      case round =>
        obtain ⟨i, hi, rfl, Z, rfl⟩ := hrel
        by_cases hin : i = g.o.length
        case neg =>
          have hlt : i < g.o.length := by omega
          obtain ⟨x, hx⟩ : ∃ x, g.o[i]? = some x := ⟨g.o[i], List.getElem?_eq_getElem hlt⟩
          obtain ⟨b1, o1, hA, hb1, c0, c1, c2, c3, c4, c5⟩ := at_oq H1.out.o hx
          change vd = _ at hA
          subst hA
          clear c1 c2 c3 c4 c5
          by_cases hb : x.n.length ≤ 1000
          · have Z2 := Lib.hid (all_next hx Z.out hb)
            have hb' : ¬ 1000 < x.n.length := by omega
            clear hx
            go_wp2_with fail
            go_roundw
            case rel => exact ⟨i + 1, hlt, by go_num, Z2, by first | rfl | trivial⟩
            case measure => simp [intOf]; omega
          · have hb' : 1000 < x.n.length := by omega
            obtain rfl : true = B := by rw [← hBv.out, great_yes (fun S => hb (S.o x (List.mem_of_getElem? hx)))]
            clear hx hb
            go_wp2_with fail
            go_ret
            exact ⟨rfl, hB.out⟩
        subst hin
        have Z2 := Lib.hid (show ∀ x ∈ g.o, x.n.length ≤ 1000 by have := Z.out; rwa [List.take_length] at this)
        clear Z
        have hlt : ¬ ((g.o.length : Int) < g.o.length) := by omega
        obtain rfl : false = B := by rw [← hBv.out, great_no ⟨by omega, by omega, by omega, by omega, Z0.out, Z1.out, Z2.out⟩]
        go_wp2_with fail
        go_ret
        exact ⟨rfl, hB.out⟩
end Go.Proofs.YtpblpjopinllcaaGreatDoor.graph
set_option linter.unusedSimpArgs false
set_option linter.unusedVariables false
namespace Go.Proofs.YtpblpjopinllcaaGreatDoor.graph
open Go.ChangeShapes Go.WideShapes Go.ChangeAt Go.RowKit
open Go.Proofs.YtpblpjopinllcaaGreatDoor.opened Go.Proofs.YtpblpjopinllcaaGreatDoor.block Go.Proofs.YtpblpjopinllcaaGreatDoor.words Go.Proofs.YtpblpjopinllcaaGreatDoor.region Go.Proofs.YtpblpjopinllcaaGreatDoor.tm Go.Proofs.YtpblpjopinllcaaGreatDoor.pa
theorem fit_small {v : Gv} {g : Gr} (R : Rooms v g) (S : Small g) : Fit v g :=
  ⟨R.i, R.j, R.k, R.m, fun x hx => Nat.le_trans (S.c x hx) (by omega), fun x hx => Nat.le_trans (S.l x hx) (by omega), fun x hx => Nat.le_trans (S.o x hx) (by omega)⟩
theorem rounds_zero {g : Gr} (h : checkE g = 0) (t : Tm) (ha : t.a = 0) (hb : t.b = 0) (hc : t.c = 0) : ∀ (d : Nat) (k : Int), roundsB g.l t d k = true
  | 0, _ => rfl
  | d + 1, k => by
    unfold roundsB
    split
    · rfl
    · rename_i x hx
      rw [rounds_zero h t ha hb hc d x.u, Bool.and_true]
      have hl := (check_parts h).2.2.1
      have e := first_zero hl k.toNat (List.getElem?_eq_some_iff.1 hx).1
      unfold loE at e
      rw [hx] at e
      dsimp only at e
      split at e
      · rename_i h1
        exact absurd e h1
      · split at e
        · cases e
        · rename_i h2
          have : nth t d = 0 := by unfold nth; repeat (first | assumption | (split) | omega)
          rw [this]
          simp
          omega
theorem rounds_le {L : List Lo} {t u : Tm} (ha : u.a ≤ t.a) (hb : u.b ≤ t.b) (hc : u.c ≤ t.c) : ∀ (d : Nat) (k : Int), roundsB L t d k = true → roundsB L u d k = true
  | 0, _, _ => rfl
  | d + 1, k, h => by
    unfold roundsB at h ⊢
    split
    · rfl
    · rename_i x hx
      rw [hx] at h
      simp only [Bool.and_eq_true, decide_eq_true_eq] at h ⊢
      refine ⟨?_, rounds_le ha hb hc d x.u h.2⟩
      have : nth u d ≤ nth t d := by unfold nth; repeat (first | assumption | (split) | omega)
      omega
theorem fits_lesser {g : Gr} {p : Int} {t u : Tm} (h : fitsB g p t = true) (hc : chk u = 0) (hd : u.d = t.d) (h1 : u.a ≤ t.a) (h2 : u.b ≤ t.b) (h3 : u.c ≤ t.c) : fitsB g p u = true := by
  unfold fitsB at h ⊢
  simp only [Bool.and_eq_true, decide_eq_true_eq] at h ⊢
  exact ⟨h.1, hc, hd.trans h.2.2.1, rounds_le h1 h2 h3 _ _ h.2.2.2⟩
theorem wrapU_pos (n : Int) : 0 ≤ IntKind.u64.wrap n := by
  rw [show IntKind.u64.wrap n = n % 18446744073709551616 by simp [IntKind.wrap, IntKind.signed, IntKind.bits]]
  omega
theorem chk_zero (d : Nat) (h : d ≤ 3) : chk ⟨0, d, 0, 0, 0⟩ = 0 := by
  match d, h with
  | 0, _ => decide
  | 1, _ => decide
  | 2, _ => decide
  | 3, _ => decide
set_option maxRecDepth 100000 in
theorem zeroR_any (d : Nat) (h : d ≤ 3) (w : World) : Calls Tryz.prog 28 #[.int .i64 (d : Nat)] w fun e w' => e = .returned (.tuple #[.agg #[.int .u32 0, .int .i64 (d : Nat), .int .u32 0, .int .u32 0, .int .u32 0], .int .i64 0]) ∧ Below w.heap.size w w' := by
  go_enter Tryz.func28, Tryz.ntmps28
  go_wp2_with fail
  refine bodyPost_ret (v := .tuple #[.agg #[.int .u32 0, .int .i64 (d : Nat), .int .u32 0, .int .u32 0, .int .u32 0], .int .i64 0]) (by simp [results, Tryz.results28, go_sem]) rfl ⟨rfl, ?_⟩
  exact fresh1 _ _
set_option maxRecDepth 100000 in
set_option maxHeartbeats 8000000 in
theorem walkF (V : Gv) (g : Gr) (I : g.In) (loc : Int) (t : Tm) (it : t.In) (u : Tm) (iu : u.In) (w : World) (hE : EnvG w) (h : Lies4 w V g) :
    Calls Tryz.prog 6 #[gV V g, .int .i64 loc, .agg #[.int .u32 t.e, .int .i64 t.d, .int .u32 t.a, .int .u32 t.b, .int .u32 t.c], .agg #[.int .u32 u.e, .int .i64 u.d, .int .u32 u.a, .int .u32 u.b, .int .u32 u.c]] w fun e w' => e = .returned (.bool true) ∧ Below w.heap.size w w' := by
  have GR := fun w1 (h1 : Lies4 w1 V g) => great_any V g w1 h1
  have TO := fun lc ll lo lh w1 (h1 : Lies4 w1 V g) => toG_any V g lc ll lo lh w1 h1
  obtain ⟨va, vb, vd, ve, vi, vj, vk, vm⟩ := V
  unfold gV at GR TO ⊢
  dsimp only at GR TO ⊢
  replace GR := Lib.hid GR
  replace TO := Lib.hid TO
  have E0 := Lib.hid hE
  have H0 := Lib.hid h
  have OG := Whole.fresh w 36 #[.slice va g.c.length vi, .slice vb g.l.length vj, .slice vd g.o.length vk, .slice ve g.h.length vm]
  have b1 := fresh1 w (.cells #[.slice va g.c.length vi, .slice vb g.l.length vj, .slice vd g.o.length vk, .slice ve g.h.length vm] 36)
  have z1 := size_alloc w (.cells #[.slice va g.c.length vi, .slice vb g.l.length vj, .slice vd g.o.length vk, .slice ve g.h.length vm] 36)
  clear hE h
  go_enter Tryz.func6, Tryz.ntmps6
  go_upto_region 1 with fail
  change Code.wp _ _ _ _ (((w.alloc (.cells #[.slice va g.c.length vi, .slice vb g.l.length vj, .slice vd g.o.length vk, .slice ve g.h.length vm] 36)).alloc (.cells (#[.int .u32 t.e, .int .i64 t.d, .int .u32 t.a, .int .u32 t.b, .int .u32 t.c]) 63)).alloc (.cells (#[.int .u32 u.e, .int .i64 u.d, .int .u32 u.a, .int .u32 u.b, .int .u32 u.c]) 63))
  generalize w.alloc (.cells #[.slice va g.c.length vi, .slice vb g.l.length vj, .slice vd g.o.length vk, .slice ve g.h.length vm] 36) = w1 at OG b1 z1 ⊢
  have OT := Whole.fresh w1 63 (#[.int .u32 t.e, .int .i64 t.d, .int .u32 t.a, .int .u32 t.b, .int .u32 t.c])
  have b2 := fresh1 w1 (.cells (#[.int .u32 t.e, .int .i64 t.d, .int .u32 t.a, .int .u32 t.b, .int .u32 t.c]) 63)
  have z2 := size_alloc w1 (.cells (#[.int .u32 t.e, .int .i64 t.d, .int .u32 t.a, .int .u32 t.b, .int .u32 t.c]) 63)
  rw [z1] at OT z2
  generalize w1.alloc (.cells (#[.int .u32 t.e, .int .i64 t.d, .int .u32 t.a, .int .u32 t.b, .int .u32 t.c]) 63) = w2 at OT b2 z2 ⊢
  have OU := Whole.fresh w2 63 (#[.int .u32 u.e, .int .i64 u.d, .int .u32 u.a, .int .u32 u.b, .int .u32 u.c])
  have b3 := fresh1 w2 (.cells (#[.int .u32 u.e, .int .i64 u.d, .int .u32 u.a, .int .u32 u.b, .int .u32 u.c]) 63)
  rw [z2] at OU
  generalize w2.alloc (.cells (#[.int .u32 u.e, .int .i64 u.d, .int .u32 u.a, .int .u32 u.b, .int .u32 u.c]) 63) = w3 at OU b3 ⊢
  have B3 := Lib.hid (then_below b1 (then_below b2 b3))
  have OG3 := Lib.hid ((OG.below b2 OG.inside).below b3 (OG.below b2 OG.inside).inside)
  have OT3 := Lib.hid (OT.below b3 OT.inside)
  have OU3 := Lib.hid OU
  clear OG OT OU b1 b2 b3 z1 z2
  obtain ⟨gg, hgg⟩ : ∃ gg, w.heap.size = gg := ⟨_, rfl⟩
  rw [hgg] at OG3 OT3 OU3 ⊢
  have Hgg := Lib.hid hgg
  obtain ⟨gt, hgt⟩ : ∃ gt, gg + 1 = gt := ⟨_, rfl⟩
  rw [hgt] at OT3 OU3 ⊢
  obtain ⟨gu, hgu⟩ : ∃ gu, gt + 1 = gu := ⟨_, rfl⟩
  rw [hgu] at OU3 ⊢
  clear hgg hgt hgu
  have S3 : Hid (∀ W, Below w3.heap.size w3 W → Below w.heap.size w W ∧ EnvG W ∧ Lies4 W ⟨va, vb, vd, ve, vi, vj, vk, vm⟩ g) := Lib.hid fun W hW => ⟨then_below B3.out hW, E0.out.below (then_below B3.out hW), H0.out.below (then_below B3.out hW)⟩
  have SG : Hid (∀ W, Below w3.heap.size w3 W → ∀ i, W.cell? ⟨gg, i, none⟩ = (#[.slice va g.c.length vi, .slice vb g.l.length vj, .slice vd g.o.length vk, .slice ve g.h.length vm] : Array Value)[i]?) := Lib.hid fun W hW => (OG3.out.below hW OG3.out.inside).read
  have ST : Hid (∀ W, Below w3.heap.size w3 W → ∀ i, W.cell? ⟨gt, i, none⟩ = (#[.int .u32 t.e, .int .i64 t.d, .int .u32 t.a, .int .u32 t.b, .int .u32 t.c] : Array Value)[i]?) := Lib.hid fun W hW => (OT3.out.below hW OT3.out.inside).read
  have SU : Hid (∀ W, Below w3.heap.size w3 W → ∀ i, W.cell? ⟨gu, i, none⟩ = (#[.int .u32 u.e, .int .i64 u.d, .int .u32 u.a, .int .u32 u.b, .int .u32 u.c] : Array Value)[i]?) := Lib.hid fun W hW => (OU3.out.below hW OU3.out.inside).read
  clear OG3 OT3 OU3 B3 E0 H0
  have WK := Lib.hid (works9_any w3 (S3.out w3 (Below.refl _ _)).2.1)
  go_upto_region 3 with (go_at_call 19; refine WK.out.mono ?_; rintro e w4 ⟨rfl, b4⟩)
  have B4 := Lib.hid b4
  clear b4 WK
  have h4 := S3.out w4 B4.out
  have k0 : w4.cell? ⟨gg, 0, none⟩ = some (.slice va g.c.length vi) := SG.out w4 B4.out 0
  have k1 : w4.cell? ⟨gg, 1, none⟩ = some (.slice vb g.l.length vj) := SG.out w4 B4.out 1
  have k2 : w4.cell? ⟨gg, 2, none⟩ = some (.slice vd g.o.length vk) := SG.out w4 B4.out 2
  have k3 : w4.cell? ⟨gg, 3, none⟩ = some (.slice ve g.h.length vm) := SG.out w4 B4.out 3
  have GR4 := Lib.hid (GR.out w4 h4.2.2)
  clear GR h4
  have LG : Hid (∀ W, Below w3.heap.size w3 W → Lies4 W ⟨va, vb, vd, ve, vi, vj, vk, vm⟩ g) := Lib.hid fun W hW => (S3.out W hW).2.2
  cases hS : greatB g with
  | true =>
    rw [hS] at GR4
    go_wp2_with (go_at_call 20; refine GR4.out.mono ?_; rintro e w5 ⟨rfl, b5⟩)
    go_ret
    exact ⟨rfl, (S3.out _ (then_below B4.out b5)).1⟩
  | false =>
    have SH := Lib.hid (great_small hS)
    rw [hS] at GR4
    obtain ⟨lc, ll, lo, lh, -, -, -⟩ := SH.out
    replace TO := Lib.hid (TO.out (by omega) (by omega) (by omega) (by omega))
    have CK : Hid (∀ v', Rooms v' g → ∀ W, EnvG W → Lies4 W v' g → Calls Tryz.prog 23 #[gV v' g] W fun e w' => e = .returned (.int .i64 (checkE g)) ∧ Below W.heap.size W w') := Lib.hid fun v' R' W hW hL => check_any v' g (fit_small R' SH.out) I W hL hW.k
    have K5 : Hid (∀ W, Below w3.heap.size w3 W → W.cell? ⟨gg, 0, none⟩ = some (.slice va g.c.length vi) ∧ W.cell? ⟨gg, 1, none⟩ = some (.slice vb g.l.length vj) ∧ W.cell? ⟨gg, 2, none⟩ = some (.slice vd g.o.length vk) ∧ W.cell? ⟨gg, 3, none⟩ = some (.slice ve g.h.length vm)) := Lib.hid fun W hW => ⟨SG.out W hW 0, SG.out W hW 1, SG.out W hW 2, SG.out W hW 3⟩
    clear lc ll lo lh hS
    by_cases hc : checkE g = 0
    case neg =>
      have hne : (checkE g == 0) = false := by rw [beq_eq_false_iff_ne]; exact hc
      clear hc
      generalize checkE g = ce at CK hne
      go_wp2_with (first
        | (go_at_call 23; refine (CK.out v6 R6 _ (S3.out _ B6.out).2.1 L6).mono ?_; rintro e w7 ⟨rfl, b7⟩)
        | (go_at_call 22; refine (TO.out _ (LG.out _ B5.out)).mono ?_; rintro e w6 ⟨v6, rfl, L6, R6, b6⟩; have B6 := Lib.hid (then_below B5.out b6); clear b6)
        | (go_at_call 20; refine GR4.out.mono ?_; rintro e w5 ⟨rfl, b5⟩; have B5 := Lib.hid (then_below B4.out b5); obtain ⟨k0, k1, k2, k3⟩ := K5.out w5 B5.out; clear b5))
      go_ret
      exact ⟨rfl, (S3.out _ (then_below B6.out b7)).1⟩
    have HC := Lib.hid hc
    rw [hc] at CK
    clear hc
    go_upto_region 5 with (first
      | (go_at_call 23; refine (CK.out v6 R6 _ (S3.out _ B6.out).2.1 L6).mono ?_; rintro e w7 ⟨rfl, b7⟩; have B7 := Lib.hid (then_below B6.out b7); clear b7 L6 R6)
      | (go_at_call 22; refine (TO.out _ (LG.out _ B5.out)).mono ?_; rintro e w6 ⟨v6, rfl, L6, R6, b6⟩; have B6 := Lib.hid (then_below B5.out b6); clear b6)
      | (go_at_call 20; refine GR4.out.mono ?_; rintro e w5 ⟨rfl, b5⟩; have B5 := Lib.hid (then_below B4.out b5); obtain ⟨k0, k1, k2, k3⟩ := K5.out w5 B5.out; clear b5))
    clear k0 k1 k2 k3
    obtain ⟨k0, k1, k2, k3⟩ := K5.out w7 B7.out
    go_upto_region 6 with (go_at_call 22; refine (TO.out _ (LG.out _ B7.out)).mono ?_; rintro e w8 ⟨v8, rfl, L8, R8, b8⟩)
    clear k0 k1 k2 k3 B4 B5 B6 GR4 CK TO K5 LG
    obtain ⟨xa, xb, xd, xe, xi, xj, xk, xm⟩ := v8
    have FX := fit_small R8 SH.out
    have SC := fun p W (hW : EnvG W) (hL : Lies4 W ⟨xa, xb, xd, xe, xi, xj, xk, xm⟩ g) => scope_any ⟨xa, xb, xd, xe, xi, xj, xk, xm⟩ g FX I p W hL hW.k
    have FI := fun p (t : Tm) (it : t.In) W (hW : EnvG W) (hL : Lies4 W ⟨xa, xb, xd, xe, xi, xj, xk, xm⟩ g) => fits_any ⟨xa, xb, xd, xe, xi, xj, xk, xm⟩ g FX I p t it W hL hW.k
    unfold gV at SC FI
    dsimp only at SC FI
    replace SC := Lib.hid SC
    replace FI := Lib.hid FI
    clear FX R8
    have W8 := Whole.fresh w8 27 #[.slice xa g.c.length xi, .slice xb g.l.length xj, .slice xd g.o.length xk, .slice xe g.h.length xm]
    have f8 := fresh1 w8 (.cells #[.slice xa g.c.length xi, .slice xb g.l.length xj, .slice xd g.o.length xk, .slice xe g.h.length xm] 27)
    change Code.wp _ _ _ _ (w8.alloc (.cells #[.slice xa g.c.length xi, .slice xb g.l.length xj, .slice xd g.o.length xk, .slice xe g.h.length xm] 27))
    generalize w8.alloc (.cells #[.slice xa g.c.length xi, .slice xb g.l.length xj, .slice xd g.o.length xk, .slice xe g.h.length xm] 27) = w9 at W8 f8 ⊢
    have B9 := Lib.hid (then_below B7.out (then_below b8 f8))
    have L9 := Lib.hid (L8.below f8)
    generalize w8.heap.size = gx at W8 ⊢
    have W9 := Lib.hid W8
    clear W8 f8 b8 L8 B7
    have S9 : Hid (∀ W, Below w9.heap.size w9 W → Below w3.heap.size w3 W ∧ EnvG W ∧ Lies4 W ⟨xa, xb, xd, xe, xi, xj, xk, xm⟩ g) := Lib.hid fun W hW => ⟨then_below B9.out hW, (S3.out W (then_below B9.out hW)).2.1, L9.out.below hW⟩
    have SX : Hid (∀ W, Below w9.heap.size w9 W → W.cell? ⟨gx, 0, none⟩ = some (.slice xa g.c.length xi) ∧ W.cell? ⟨gx, 1, none⟩ = some (.slice xb g.l.length xj) ∧ W.cell? ⟨gx, 2, none⟩ = some (.slice xd g.o.length xk) ∧ W.cell? ⟨gx, 3, none⟩ = some (.slice xe g.h.length xm)) := Lib.hid fun W hW => ⟨(W9.out.below hW W9.out.inside).read 0, (W9.out.below hW W9.out.inside).read 1, (W9.out.below hW W9.out.inside).read 2, (W9.out.below hW W9.out.inside).read 3⟩
    clear W9 L9
    have hsz := sizes_of (check_parts HC.out).1
    have ho0 : 0 < g.o.length := hsz.2.2.2.2.2
    have ho1 : g.o.length ≤ 24 := hsz.2.2.1
    clear hsz
    obtain ⟨k0, k1, k2, k3⟩ := SX.out w9 (Below.refl _ _)
    go_upto_region 7 with fail
    obtain ⟨P, hP⟩ : ∃ P, wrap64 ((IntKind.u64.wrap loc).tmod (2 * (g.o.length : Int))) = P := ⟨_, rfl⟩
    rw [hP]
    have hPb : 0 ≤ P ∧ P < 2 * (g.o.length : Int) := by
      have h0 := wrapU_pos loc
      rw [Int.tmod_eq_emod_of_nonneg h0] at hP
      have h1 := Int.emod_nonneg (IntKind.u64.wrap loc) (show (2 * (g.o.length : Int)) ≠ 0 by omega)
      have h2 := Int.emod_lt_of_pos (IntKind.u64.wrap loc) (show 0 < 2 * (g.o.length : Int) by omega)
      unfold wrap64 at hP
      omega
    have hL : locE g P = 0 := by
      unfold locE
      rw [if_neg (by rw [HC.out]; simp), if_neg (by omega)]
    clear hP ho0
    have hd3 : locD g P ≤ 3 := by
      unfold locD
      rw [if_pos hL]
      have := loop_range HC.out (P / 2).toNat (locO P)
      exact deep3 HC.out _ this.1 this.2
    obtain ⟨dd, hdd⟩ : ∃ dd, locD g P = dd := ⟨_, rfl⟩
    have hz : fitsB g P ⟨0, (dd : Nat), 0, 0, 0⟩ = true := by
      unfold fitsB
      have hch : chk ⟨0, (dd : Nat), 0, 0, 0⟩ = 0 := chk_zero dd (by omega)
      rw [hL, hch, hdd, rounds_zero HC.out _ rfl rfl rfl]
      simp
    have HZ := Lib.hid hz
    have hFL := Lib.hid (fun (hc : chk u = 0) (hd : u.d = t.d) (h1 : u.a ≤ t.a) (h2 : u.b ≤ t.b) (h3 : u.c ≤ t.c) (h : fitsB g P t = true) => fits_lesser h hc hd h1 h2 h3)
    have SC9 := SC.out P w9 (S9.out w9 (Below.refl _ _)).2.1 (S9.out w9 (Below.refl _ _)).2.2
    rw [hL, hdd] at SC9
    replace SC9 := Lib.hid SC9
    rw [hdd] at hd3
    have ZR := Lib.hid (zeroR_any dd hd3)
    clear hL hdd hz SC
    generalize locL g P = lL at SC9
    go_upto_region 8 with (go_at_call 25; refine SC9.out.mono ?_; rintro e w10 ⟨rfl, b10⟩; have B10 := Lib.hid b10; clear b10)
    go_upto_region 9 with (go_at_call 28; refine (ZR.out _).mono ?_; rintro e w11 ⟨rfl, b11⟩; have B11 := Lib.hid (then_below B10.out b11); clear b11)
    have OZ := Whole.fresh w11 63 #[.int .u32 0, .int .i64 (dd : Nat), .int .u32 0, .int .u32 0, .int .u32 0]
    have f11 := fresh1 w11 (.cells #[.int .u32 0, .int .i64 (dd : Nat), .int .u32 0, .int .u32 0, .int .u32 0] 63)
    change Code.wp _ _ _ _ (w11.alloc (.cells #[.int .u32 0, .int .i64 (dd : Nat), .int .u32 0, .int .u32 0, .int .u32 0] 63))
    generalize w11.alloc (.cells #[.int .u32 0, .int .i64 (dd : Nat), .int .u32 0, .int .u32 0, .int .u32 0] 63) = w12 at OZ f11 ⊢
    generalize w11.heap.size = gz at OZ ⊢
    have B12 := Lib.hid (then_below B11.out f11)
    clear f11
    have z0 : w12.cell? ⟨gz, 0, none⟩ = some (.int .u32 0) := OZ.read 0
    have z1 : w12.cell? ⟨gz, 1, none⟩ = some (.int .i64 (dd : Nat)) := OZ.read 1
    have z2 : w12.cell? ⟨gz, 2, none⟩ = some (.int .u32 0) := OZ.read 2
    have z3 : w12.cell? ⟨gz, 3, none⟩ = some (.int .u32 0) := OZ.read 3
    have z4 : w12.cell? ⟨gz, 4, none⟩ = some (.int .u32 0) := OZ.read 4
    clear k0 k1 k2 k3 OZ
    obtain ⟨k0, k1, k2, k3⟩ := SX.out w12 B12.out
    have FZ := FI.out P ⟨0, (dd : Nat), 0, 0, 0⟩ ⟨by simp, by simp, by dsimp only; omega, by dsimp only; omega, by simp, by simp, by simp, by simp, by simp, by simp⟩ w12 (S9.out w12 B12.out).2.1 (S9.out w12 B12.out).2.2
    rw [HZ.out] at FZ
    dsimp only at FZ
    replace FZ := Lib.hid FZ
    go_upto_region 11 with (go_at_call 29; refine FZ.out.mono ?_; rintro e w13 ⟨rfl, b13⟩; have B13 := Lib.hid (then_below B12.out b13); clear b13)
    clear k0 k1 k2 k3 z0 z1 z2 z3 z4 FZ HZ ZR SC9
    obtain ⟨k0, k1, k2, k3⟩ := SX.out w13 B13.out
    have A13 := Lib.hid (S9.out w13 B13.out).1
    have t0 : w13.cell? ⟨gt, 0, none⟩ = some (.int .u32 t.e) := ST.out w13 A13.out 0
    have t1 : w13.cell? ⟨gt, 1, none⟩ = some (.int .i64 t.d) := ST.out w13 A13.out 1
    have t2 : w13.cell? ⟨gt, 2, none⟩ = some (.int .u32 t.a) := ST.out w13 A13.out 2
    have t3 : w13.cell? ⟨gt, 3, none⟩ = some (.int .u32 t.b) := ST.out w13 A13.out 3
    have t4 : w13.cell? ⟨gt, 4, none⟩ = some (.int .u32 t.c) := ST.out w13 A13.out 4
    have FT := FI.out P t it w13 (S9.out w13 B13.out).2.1 (S9.out w13 B13.out).2.2
    have FU := Lib.hid (FI.out P u iu)
    have CU := Lib.hid (fun W => Go.Proofs.YtpblpjopinllcaaGreatDoor.stamp.checkR_any u iu W)
    clear FI it iu
    cases hft : fitsB g P t with
    | false =>
      rw [hft] at FT
      replace FT := Lib.hid FT
      clear hft
      go_wp2_with (go_at_call 29; refine FT.out.mono ?_; rintro e w14 ⟨rfl, b14⟩)
      go_ret
      exact ⟨rfl, (S3.out _ (S9.out _ (then_below B13.out b14)).1).1⟩
    | true =>
      rw [hft] at FT
      replace FT := Lib.hid FT
      replace hft := Lib.hid hft
      have U14 : Hid (∀ W, Below w13.heap.size w13 W → (W.cell? ⟨gu, 0, none⟩ = some (.int .u32 u.e) ∧ W.cell? ⟨gu, 1, none⟩ = some (.int .i64 u.d) ∧ W.cell? ⟨gu, 2, none⟩ = some (.int .u32 u.a) ∧ W.cell? ⟨gu, 3, none⟩ = some (.int .u32 u.b) ∧ W.cell? ⟨gu, 4, none⟩ = some (.int .u32 u.c)) ∧ W.cell? ⟨gt, 1, none⟩ = some (.int .i64 t.d) ∧ W.cell? ⟨gt, 2, none⟩ = some (.int .u32 t.a) ∧ W.cell? ⟨gt, 3, none⟩ = some (.int .u32 t.b) ∧ W.cell? ⟨gt, 4, none⟩ = some (.int .u32 t.c)) := Lib.hid fun W hW =>
        have h9 := (S9.out W (then_below B13.out hW)).1
        ⟨⟨SU.out W h9 0, SU.out W h9 1, SU.out W h9 2, SU.out W h9 3, SU.out W h9 4⟩, ST.out W h9 1, ST.out W h9 2, ST.out W h9 3, ST.out W h9 4⟩
      clear ST SU
      have CUx : Hid (∀ W, Calls Tryz.prog 30 #[.agg #[.int .u32 u.e, .int .i64 u.d, .int .u32 u.a, .int .u32 u.b, .int .u32 u.c]] W fun e w' => e = .returned (.int .i64 (chk u)) ∧ Below W.heap.size W w') := CU
      by_cases hcu : chk u = 0
      case neg =>
        have hne : (chk u == 0) = false := by rw [beq_eq_false_iff_ne]; exact hcu
        clear CU
        generalize chk u = cu at CUx hne hFL hcu
        go_wp2_with (first
          | (go_at_call 30; refine (CUx.out _).mono ?_; rintro e w15 ⟨rfl, b15⟩)
          | (go_at_call 29; refine FT.out.mono ?_; rintro e w14 ⟨rfl, b14⟩; have B14 := Lib.hid b14; obtain ⟨⟨u0, u1, u2, u3, u4⟩, -⟩ := U14.out w14 b14; clear b14))
        go_ret
        exact ⟨rfl, (S3.out _ (S9.out _ (then_below B13.out (then_below B14.out b15))).1).1⟩
      have HCU := Lib.hid hcu
      rw [hcu] at CUx
      clear hcu CU
      by_cases hud : u.d = t.d
      case neg =>
        have hne : (u.d == t.d) = false := by rw [beq_eq_false_iff_ne]; exact hud
        go_wp2_with (first
          | (go_at_call 30; refine (CUx.out _).mono ?_; rintro e w15 ⟨rfl, b15⟩; have B15 := Lib.hid (then_below B14.out b15); obtain ⟨⟨u0, u1, u2, u3, u4⟩, t1, t2, t3, t4⟩ := U14.out w15 B15.out; clear b15)
          | (go_at_call 29; refine FT.out.mono ?_; rintro e w14 ⟨rfl, b14⟩; have B14 := Lib.hid b14; obtain ⟨⟨u0, u1, u2, u3, u4⟩, -⟩ := U14.out w14 b14; clear b14))
        go_ret
        exact ⟨rfl, (S3.out _ (S9.out _ (then_below B13.out B15.out)).1).1⟩
      have HUD := Lib.hid hud
      have hde : (u.d == t.d) = true := by rw [beq_iff_eq]; exact hud
      clear hud
      go_wp2_with (first
        | (go_at_call 30; refine (CUx.out _).mono ?_; rintro e w15 ⟨rfl, b15⟩; have B15 := Lib.hid (then_below B14.out b15); obtain ⟨⟨u0, u1, u2, u3, u4⟩, t1, t2, t3, t4⟩ := U14.out w15 B15.out; clear b15)
        | (go_at_call 29; refine FT.out.mono ?_; rintro e w14 ⟨rfl, b14⟩; have B14 := Lib.hid b14; obtain ⟨⟨u0, u1, u2, u3, u4⟩, -⟩ := U14.out w14 b14; clear b14))
      clear hde u0 u1 u2 u3 u4 t1 t2 t3 t4 t0 k0 k1 k2 k3
      go_loopw [15] (fun a wr => ∃ i : Nat, i ≤ 3 ∧ a = .int .i64 i ∧ Hid (0 < i → u.a ≤ t.a) ∧ Hid (1 < i → u.b ≤ t.b) ∧ Hid (2 < i → u.c ≤ t.c) ∧ Hid (Below w13.heap.size w13 wr)) (fun a _ => (3 - intOf a).toNat)
      case atStart => exact ⟨0, by omega, rfl, Lib.hid (by omega), Lib.hid (by omega), Lib.hid (by omega), B15⟩
      case round =>
        obtain ⟨i, hi3, rfl, q1, q2, q3, BR⟩ := hrel
        rcases (show i = 0 ∨ i = 1 ∨ i = 2 ∨ i = 3 by omega) with rfl | rfl | rfl | rfl
        · obtain ⟨⟨u0, u1, u2, u3, u4⟩, t1, t2, t3, t4⟩ := U14.out wr BR.out
          have v1 : ∀ y : Since wr, y.1.cell? ⟨gu, 2, none⟩ = some (.int .u32 u.a) := fun y => (U14.out y.1 (then_below BR.out y.2)).1.2.2.1
          have v2 : ∀ y : Since wr, y.1.cell? ⟨gt, 2, none⟩ = some (.int .u32 t.a) := fun y => (U14.out y.1 (then_below BR.out y.2)).2.2.1
          clear u0 u1 u2 u3 u4 t1 t2 t3 t4
          by_cases hle : u.a ≤ t.a
          · have hgt : ¬ t.a < u.a := by omega
            have HQ := Lib.hid hle
            clear hle
            go_upto_region 16 with fail
            refine region_since wr (by kernel_rfl) (by kernel_rfl) (Below.refl _ _) ?_
            repeat (go_big_quiet_step (fail))
            refine wpQuiet_nil ?_
            rintro w16 ⟨y, hy⟩
            have B16 := Lib.hid (then_below BR.out (show Below wr.heap.size wr w16 from hy ▸ y.2))
            clear v1 v2 hy
            go_wp2_with fail
            go_roundw
            case rel => exact ⟨0 + 1, by omega, by go_num, Lib.hid (fun _ => HQ.out), Lib.hid (fun hx => absurd hx (by omega)), Lib.hid (fun hx => absurd hx (by omega)), B16⟩
            case measure => simp [intOf]
          · have hgt : t.a < u.a := by omega
            clear hle
            go_upto_region 16 with fail
            refine region_since wr (by kernel_rfl) (by kernel_rfl) (Below.refl _ _) ?_
            repeat (go_big_quiet_step (fail))
            refine wpQuiet_nil ?_
            rintro w16 ⟨y, hy⟩
            have B16 := Lib.hid (then_below BR.out (show Below wr.heap.size wr w16 from hy ▸ y.2))
            clear v1 v2 hy
            go_wp2_with fail
            go_ret
            exact ⟨rfl, (S3.out _ (S9.out _ (then_below B13.out B16.out)).1).1⟩
        · obtain ⟨⟨u0, u1, u2, u3, u4⟩, t1, t2, t3, t4⟩ := U14.out wr BR.out
          have v1 : ∀ y : Since wr, y.1.cell? ⟨gu, 3, none⟩ = some (.int .u32 u.b) := fun y => (U14.out y.1 (then_below BR.out y.2)).1.2.2.2.1
          have v2 : ∀ y : Since wr, y.1.cell? ⟨gt, 3, none⟩ = some (.int .u32 t.b) := fun y => (U14.out y.1 (then_below BR.out y.2)).2.2.2.1
          clear u0 u1 u2 u3 u4 t1 t2 t3 t4
          by_cases hle : u.b ≤ t.b
          · have hgt : ¬ t.b < u.b := by omega
            have HQ := Lib.hid hle
            clear hle
            go_upto_region 16 with fail
            refine region_since wr (by kernel_rfl) (by kernel_rfl) (Below.refl _ _) ?_
            repeat (go_big_quiet_step (fail))
            refine wpQuiet_nil ?_
            rintro w16 ⟨y, hy⟩
            have B16 := Lib.hid (then_below BR.out (show Below wr.heap.size wr w16 from hy ▸ y.2))
            clear v1 v2 hy
            go_wp2_with fail
            go_roundw
            case rel => exact ⟨1 + 1, by omega, by go_num, Lib.hid (fun _ => q1.out (by omega)), Lib.hid (fun _ => HQ.out), Lib.hid (fun hx => absurd hx (by omega)), B16⟩
            case measure => simp [intOf]
          · have hgt : t.b < u.b := by omega
            clear hle
            go_upto_region 16 with fail
            refine region_since wr (by kernel_rfl) (by kernel_rfl) (Below.refl _ _) ?_
            repeat (go_big_quiet_step (fail))
            refine wpQuiet_nil ?_
            rintro w16 ⟨y, hy⟩
            have B16 := Lib.hid (then_below BR.out (show Below wr.heap.size wr w16 from hy ▸ y.2))
            clear v1 v2 hy
            go_wp2_with fail
            go_ret
            exact ⟨rfl, (S3.out _ (S9.out _ (then_below B13.out B16.out)).1).1⟩
        · obtain ⟨⟨u0, u1, u2, u3, u4⟩, t1, t2, t3, t4⟩ := U14.out wr BR.out
          have v1 : ∀ y : Since wr, y.1.cell? ⟨gu, 4, none⟩ = some (.int .u32 u.c) := fun y => (U14.out y.1 (then_below BR.out y.2)).1.2.2.2.2
          have v2 : ∀ y : Since wr, y.1.cell? ⟨gt, 4, none⟩ = some (.int .u32 t.c) := fun y => (U14.out y.1 (then_below BR.out y.2)).2.2.2.2
          clear u0 u1 u2 u3 u4 t1 t2 t3 t4
          by_cases hle : u.c ≤ t.c
          · have hgt : ¬ t.c < u.c := by omega
            have HQ := Lib.hid hle
            clear hle
            go_upto_region 16 with fail
            refine region_since wr (by kernel_rfl) (by kernel_rfl) (Below.refl _ _) ?_
            repeat (go_big_quiet_step (fail))
            refine wpQuiet_nil ?_
            rintro w16 ⟨y, hy⟩
            have B16 := Lib.hid (then_below BR.out (show Below wr.heap.size wr w16 from hy ▸ y.2))
            clear v1 v2 hy
            go_wp2_with fail
            go_roundw
            case rel => exact ⟨2 + 1, by omega, by go_num, Lib.hid (fun _ => q1.out (by omega)), Lib.hid (fun _ => q2.out (by omega)), Lib.hid (fun _ => HQ.out), B16⟩
            case measure => simp [intOf]
          · have hgt : t.c < u.c := by omega
            clear hle
            go_upto_region 16 with fail
            refine region_since wr (by kernel_rfl) (by kernel_rfl) (Below.refl _ _) ?_
            repeat (go_big_quiet_step (fail))
            refine wpQuiet_nil ?_
            rintro w16 ⟨y, hy⟩
            have B16 := Lib.hid (then_below BR.out (show Below wr.heap.size wr w16 from hy ▸ y.2))
            clear v1 v2 hy
            go_wp2_with fail
            go_ret
            exact ⟨rfl, (S3.out _ (S9.out _ (then_below B13.out B16.out)).1).1⟩
        · have hf := hFL.out HCU.out HUD.out (q1.out (by omega)) (q2.out (by omega)) (q3.out (by omega)) hft.out
          have FU14 := FU.out wr (S9.out wr (then_below B13.out BR.out)).2.1 (S9.out wr (then_below B13.out BR.out)).2.2
          rw [hf] at FU14
          replace FU14 := Lib.hid FU14
          clear hf
          obtain ⟨⟨u0, u1, u2, u3, u4⟩, -⟩ := U14.out wr BR.out
          obtain ⟨k0, k1, k2, k3⟩ := SX.out wr (then_below B13.out BR.out)
          go_wp2_with (go_at_call 29; refine FU14.out.mono ?_; rintro e w17 ⟨rfl, b17⟩)
          go_ret
          exact ⟨rfl, (S3.out _ (S9.out _ (then_below B13.out (then_below BR.out b17))).1).1⟩
end Go.Proofs.YtpblpjopinllcaaGreatDoor.graph
