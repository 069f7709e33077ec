/-
  watershedlaw09.Great (by gen_gg.py).
-/
import Derived.Test.YtlbphlhbofjfgaaDoorJGk
namespace Go.Proofs.YtlbphlhbofjfgaaDoor.graph
open Go.ChangeShapes Go.WideShapes Go.ChangeAt Go.RowKit
open Go.Proofs.YtlbphlhbofjfgaaDoor.opened Go.Proofs.YtlbphlhbofjfgaaDoor.block Go.Proofs.YtlbphlhbofjfgaaDoor.words
/-- A graph that is not too much to be asked. -/
structure Small (g : Gr) : Prop where
  lc : g.c.length ≤ 50
  ll : g.l.length ≤ 50
  lo : g.o.length ≤ 100
  lh : g.h.length ≤ 100
  c : ∀ x ∈ g.c, x.n.length ≤ 1000
  l : ∀ x ∈ g.l, x.n.length ≤ 1000
  o : ∀ x ∈ g.o, x.n.length ≤ 1000
open Classical in
/-- Is a graph too much to be asked? -/
noncomputable def greatB (g : Gr) : Bool := decide (¬ Small g)
theorem great_yes {g : Gr} (h : ¬ Small g) : greatB g = true := by unfold greatB; simp [h]
theorem great_no {g : Gr} (h : Small g) : greatB g = false := by unfold greatB; simp [h]
theorem great_small {g : Gr} (h : greatB g = false) : Small g := Classical.byContradiction fun k => by rw [great_yes k] at h; cases h
theorem len_str (s : Bs) : (⟨s.toArray⟩ : ByteArray).size = s.length := by show s.toArray.size = _; simp
theorem all_next {α : Type} {L : List α} {P : α → Prop} {i : Nat} {x : α} (hx : L[i]? = some x) (h : ∀ y ∈ L.take i, P y) (hp : P x) : ∀ y ∈ L.take (i + 1), P y := by
  intro y hy
  rw [List.take_add_one, hx] at hy
  rcases List.mem_append.1 hy with hy | hy
  · exact h y hy
  · simp at hy
    rw [hy]
    exact hp
set_option maxRecDepth 100000 in
set_option maxHeartbeats 2000000 in
theorem great_any (v : Gv) (g : Gr) (w : World) (h : Lies4 w v g) :
    Calls Tryd.prog 5 #[gV v g] w fun e w' => e = .returned (.bool (greatB g)) ∧ Below w.heap.size w w' := by
  obtain ⟨B, hBv⟩ : ∃ B, greatB g = B := ⟨_, rfl⟩
  rw [hBv]
  replace hBv := Lib.hid hBv
  obtain ⟨va, vb, vd, ve, vi, vj, vk, vm⟩ := v
  unfold gV
  dsimp only
  have hB := Lib.hid (fresh1 w (.cells #[.slice va g.c.length vi, .slice vb g.l.length vj, .slice vd g.o.length vk, .slice ve g.h.length vm] 27))
  have OX := Lib.hid (Whole.fresh w 27 #[.slice va g.c.length vi, .slice vb g.l.length vj, .slice vd g.o.length vk, .slice ve g.h.length vm])
  have H1 := Lib.hid (h.below hB.out)
  clear h
  go_enter Tryd.func5, Tryd.ntmps5
  go_upto_region 1 with fail
  change Code.wp _ _ _ _ (w.alloc (.cells #[.slice va g.c.length vi, .slice vb g.l.length vj, .slice vd g.o.length vk, .slice ve g.h.length vm] 27))
  generalize w.alloc (.cells #[.slice va g.c.length vi, .slice vb g.l.length vj, .slice vd g.o.length vk, .slice ve g.h.length vm] 27) = w1 at OX hB H1 ⊢
  obtain ⟨gg, hgg⟩ : ∃ gg, w.heap.size = gg := ⟨_, rfl⟩
  rw [hgg] at OX ⊢
  replace hgg := Lib.hid hgg
  have k := OX.out.read
  have k0 : w1.cell? ⟨gg, 0, none⟩ = some (.slice va g.c.length vi) := k 0
  have k1 : w1.cell? ⟨gg, 1, none⟩ = some (.slice vb g.l.length vj) := k 1
  have k2 : w1.cell? ⟨gg, 2, none⟩ = some (.slice vd g.o.length vk) := k 2
  have k3 : w1.cell? ⟨gg, 3, none⟩ = some (.slice ve g.h.length vm) := k 3
  clear k
  rcases Classical.em (50 < g.c.length) with a1 | a1
  · obtain rfl : true = B := by rw [← hBv.out, great_yes (fun S => by have := S.lc; have := S.ll; have := S.lo; have := S.lh; omega)]
    go_wp2_with fail
    go_ret
    exact ⟨rfl, hB.out⟩
  rcases Classical.em (50 < g.l.length) with a2 | a2
  · obtain rfl : true = B := by rw [← hBv.out, great_yes (fun S => by have := S.lc; have := S.ll; have := S.lo; have := S.lh; omega)]
    go_wp2_with fail
    go_ret
    exact ⟨rfl, hB.out⟩
  rcases Classical.em (100 < g.o.length) with a3 | a3
  · obtain rfl : true = B := by rw [← hBv.out, great_yes (fun S => by have := S.lc; have := S.ll; have := S.lo; have := S.lh; omega)]
    go_wp2_with fail
    go_ret
    exact ⟨rfl, hB.out⟩
  rcases Classical.em (100 < g.h.length) with a4 | a4
  · obtain rfl : true = B := by rw [← hBv.out, great_yes (fun S => by have := S.lc; have := S.ll; have := S.lo; have := S.lh; omega)]
    go_wp2_with fail
    go_ret
    exact ⟨rfl, hB.out⟩
  go_upto_region 3 with fail
  go_wp2_with fail
  go_loopw [3] (fun a wr => ∃ i : Nat, i ≤ g.c.length ∧ a = .int .i64 i ∧ Hid (∀ x ∈ g.c.take i, x.n.length ≤ 1000) ∧ w1 = wr) (fun a _ => (g.c.length - intOf a).toNat)
  case atStart => exact ⟨0, by omega, rfl, Lib.hid (by simp), rfl⟩
  case round =>
    obtain ⟨i, hi, rfl, Z, rfl⟩ := hrel
    by_cases hin : i = g.c.length
    case neg =>
      have hlt : i < g.c.length := by omega
      obtain ⟨x, hx⟩ : ∃ x, g.c[i]? = some x := ⟨g.c[i], List.getElem?_eq_getElem hlt⟩
      obtain ⟨b1, o1, hA, hb1, c0, c1⟩ := at_cl H1.out.c hx
      change va = _ at hA
      subst hA
      clear c1
      by_cases hb : x.n.length ≤ 1000
      · have Z2 := Lib.hid (all_next hx Z.out hb)
        have hb' : ¬ 1000 < x.n.length := by omega
        clear hx
        go_wp2_with fail
        go_roundw
        case rel => exact ⟨i + 1, hlt, by go_num, Z2, by first | rfl | trivial⟩
        case measure => simp [intOf]; omega
      · have hb' : 1000 < x.n.length := by omega
        obtain rfl : true = B := by rw [← hBv.out, great_yes (fun S => hb (S.c x (List.mem_of_getElem? hx)))]
        clear hx hb
        go_wp2_with fail
        go_ret
        exact ⟨rfl, hB.out⟩
    subst hin
    have Z0 := Lib.hid (show ∀ x ∈ g.c, x.n.length ≤ 1000 by have := Z.out; rwa [List.take_length] at this)
    clear Z
    have hlt : ¬ ((g.c.length : Int) < g.c.length) := by omega
    go_upto_region 8 with fail
    clear hlt
    go_wp2_with fail
    go_loopw [4] (fun a wr => ∃ i : Nat, i ≤ g.l.length ∧ a = .int .i64 i ∧ Hid (∀ x ∈ g.l.take i, x.n.length ≤ 1000) ∧ w1 = wr) (fun a _ => (g.l.length - intOf a).toNat)
    case atStart => exact ⟨0, by omega, rfl, Lib.hid (by simp), rfl⟩
    case round =>
      obtain ⟨i, hi, rfl, Z, rfl⟩ := hrel
      by_cases hin : i = g.l.length
      case neg =>
        have hlt : i < g.l.length := by omega
        obtain ⟨x, hx⟩ : ∃ x, g.l[i]? = some x := ⟨g.l[i], List.getElem?_eq_getElem hlt⟩
        obtain ⟨b1, o1, hA, hb1, c0, c1, c2⟩ := at_lo H1.out.l hx
        change vb = _ at hA
        subst hA
        clear c1 c2
        by_cases hb : x.n.length ≤ 1000
        · have Z2 := Lib.hid (all_next hx Z.out hb)
          have hb' : ¬ 1000 < x.n.length := by omega
          clear hx
          go_wp2_with fail
          go_roundw
          case rel => exact ⟨i + 1, hlt, by go_num, Z2, by first | rfl | trivial⟩
          case measure => simp [intOf]; omega
        · have hb' : 1000 < x.n.length := by omega
          obtain rfl : true = B := by rw [← hBv.out, great_yes (fun S => hb (S.l x (List.mem_of_getElem? hx)))]
          clear hx hb
          go_wp2_with fail
          go_ret
          exact ⟨rfl, hB.out⟩
      subst hin
      have Z1 := Lib.hid (show ∀ x ∈ g.l, x.n.length ≤ 1000 by have := Z.out; rwa [List.take_length] at this)
      clear Z
      have hlt : ¬ ((g.l.length : Int) < g.l.length) := by omega
      go_upto_region 13 with fail
      clear hlt
      go_wp2_with fail
      go_loopw [5] (fun a wr => ∃ i : Nat, i ≤ g.o.length ∧ a = .int .i64 i ∧ Hid (∀ x ∈ g.o.take i, x.n.length ≤ 1000) ∧ w1 = wr) (fun a _ => (g.o.length - intOf a).toNat)
      case atStart => exact ⟨0, by omega, rfl, Lib.hid (by simp), rfl⟩
      case round =>
        obtain ⟨i, hi, rfl, Z, rfl⟩ := hrel
        by_cases hin : i = g.o.length
        case neg =>
          have hlt : i < g.o.length := by omega
          obtain ⟨x, hx⟩ : ∃ x, g.o[i]? = some x := ⟨g.o[i], List.getElem?_eq_getElem hlt⟩
          obtain ⟨b1, o1, hA, hb1, c0, c1, c2, c3, c4, c5⟩ := at_oq H1.out.o hx
          change vd = _ at hA
          subst hA
          clear c1 c2 c3 c4 c5
          by_cases hb : x.n.length ≤ 1000
          · have Z2 := Lib.hid (all_next hx Z.out hb)
            have hb' : ¬ 1000 < x.n.length := by omega
            clear hx
            go_wp2_with fail
            go_roundw
            case rel => exact ⟨i + 1, hlt, by go_num, Z2, by first | rfl | trivial⟩
            case measure => simp [intOf]; omega
          · have hb' : 1000 < x.n.length := by omega
            obtain rfl : true = B := by rw [← hBv.out, great_yes (fun S => hb (S.o x (List.mem_of_getElem? hx)))]
            clear hx hb
            go_wp2_with fail
            go_ret
            exact ⟨rfl, hB.out⟩
        subst hin
        have Z2 := Lib.hid (show ∀ x ∈ g.o, x.n.length ≤ 1000 by have := Z.out; rwa [List.take_length] at this)
        clear Z
        have hlt : ¬ ((g.o.length : Int) < g.o.length) := by omega
        obtain rfl : false = B := by rw [← hBv.out, great_no ⟨by omega, by omega, by omega, by omega, Z0.out, Z1.out, Z2.out⟩]
        go_wp2_with fail
        go_ret
        exact ⟨rfl, hB.out⟩
end Go.Proofs.YtlbphlhbofjfgaaDoor.graph
