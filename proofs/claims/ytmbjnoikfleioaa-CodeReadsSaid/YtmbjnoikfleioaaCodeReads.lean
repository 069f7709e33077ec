/-
  Whatever is read of any bytes by code.Reader, in any order of calls: each answer, what is left, and what was wrong first are the document's; no condition.
-/
import Derived.Test.YtmbjnoikfleioaaRdB3
import Derived.Test.YtmbjnoikfleioaaOpen
import Derived.Deep.DeepCutAuto
import Derived.Deep.RegionWith
import Derived.Deep.CutBlock
namespace Go.Proofs.Ytmbjnoikfleioaa.codeReads
open Go.Proofs.Ytmbjnoikfleioaa.code Go.Proofs.Ytmbjnoikfleioaa.opened Go.Proofs.Ytmbjnoikfleioaa.enc Go.Proofs.Ytmbjnoikfleioaa.block
open Go.ChangeShapes Go.WideShapes Go.ChangeAt Go.RowKit

structure Ask where
  kind : Int
  most : Int
  n : Int
def Ask.cells (a : Ask) : List Value := [.int .i64 a.kind, .int .i64 a.most, .int .i64 a.n]
def i64 (x : Int) : Prop := -9223372036854775808 ≤ x ∧ x ≤ 9223372036854775807
/-- Two readers that stand alike. -/
def Both (w : World) (ga gb : Nat) (s : ByteArray) : Prop := ∃ (n : Nat) (e : Int), n ≤ s.size ∧ RdA w ga (s.data.toList.drop n) e ∧ RdB w gb s n e

theorem rNum_in {s : ByteArray} {n : Nat} {e : Int} (hn : n ≤ s.size) : n + (rNum (s.data.toList.drop n) e).2.1 ≤ s.size := by
  have h := (rNum_bd (s.data.toList.drop n) e).2.2
  have h3 : s.data.toList.length = s.size := rfl
  rw [List.length_drop] at h
  omega
theorem rInt_in {s : ByteArray} {n : Nat} {e m : Int} (hn : n ≤ s.size) : n + (rInt (s.data.toList.drop n) e m).2.1 ≤ s.size := by
  have h := (rInt_bd (s.data.toList.drop n) e m).2.2
  have h3 : s.data.toList.length = s.size := rfl
  rw [List.length_drop] at h
  omega
theorem rTxt_in {s : ByteArray} {n : Nat} {e m : Int} (hn : n ≤ s.size) : n + (rTxt (s.data.toList.drop n) e m).2.1 ≤ s.size := by
  have h := rTxt_bd (s.data.toList.drop n) e m
  have h3 : s.data.toList.length = s.size := rfl
  rw [List.length_drop] at h
  omega
theorem both_drop {w : World} {g : Nat} {l : List UInt8} {n m : Nat} {e : Int} (h : RdA w g ((l.drop n).drop m) e) : RdA w g (l.drop (n + m)) e := by
  rw [List.drop_drop] at h; exact h

theorem leftQ (g : Nat) (s : ByteArray) (n : Nat) (e : Int) (hs : s.size ≤ 140737488351232) (hn : n ≤ s.size) (w : World) (h : RdB w g s n e) :
    Calls Try.prog 28 #[.pointer (some ⟨g, 0, none⟩)] w fun r w' => r = .returned (.int .i64 (s.data.toList.drop n).length) ∧ ∃ m, w' = w.drewN m := by
  obtain ⟨c0, c1, c2, f0, f1, f2⟩ := h.facts
  clear h
  go_enter Try.func28, Try.ntmps28
  go_wp2
  go_quiet (fail)
  go_wp2
  go_ret
  exact ⟨ret_i64 (by simp; omega), ⟨_, rfl⟩⟩
theorem leftS (g : Nat) (l : List UInt8) (e : Int) (w : World) (h : RdA w g l e) :
    Calls Try.prog 27 #[.pointer (some ⟨g, 0, none⟩)] w fun r w' => r = .returned (.int .i64 l.length) ∧ w' = w := (leftA g l e w h).mono fun _ _ h => ⟨h.1, h.2.symm⟩
theorem errS (g : Nat) (l : List UInt8) (e : Int) (w : World) (h : RdA w g l e) :
    Calls Try.prog 29 #[.pointer (some ⟨g, 0, none⟩)] w fun r w' => r = .returned (.int .i64 e) ∧ w' = w := (errA g l e w h).mono fun _ _ h => ⟨h.1, h.2.symm⟩
theorem then_only {B ga gb : Nat} {a w w2 w3 : World} (h : Below B a w) (g2 : w.grownBy w2 (some ga)) (g3 : w2.grownBy w3 (some gb)) (hB : B ≤ w.heap.size) (ha : B ≤ ga) (hb : B ≤ gb) : Below B a w3 :=
  below_only (below_only h g2 hB ha) g3 (Nat.le_trans hB g2.size) hb

set_option maxRecDepth 100000 in
set_option maxHeartbeats 4000000 in
theorem walkR (s : ByteArray) (hs : s.size ≤ 140737488351232) (A : Option Addr) (c : Nat) (L : List Ask) (w : World) (hL : LiesN w A 3 (L.map Ask.cells)) (mL : L.length ≤ 9223372036854775807) (dL : ∀ a ∈ L, i64 a.kind ∧ i64 a.most ∧ i64 a.n) :
    Calls Try.prog 4 #[.string s, .slice A L.length c] w fun e w' => e = .returned (.bool true) ∧ Below w.heap.size w w' := by
  by_cases hbig : 10000 < s.size
  · go_enter Try.func4, Try.ntmps4
    go_wp2
    go_ret
    exact ⟨rfl, Below.refl _ _⟩
  · go_enter Try.func4, Try.ntmps4
    go_wp2_with fail
    refine (new_any s _).mono ?_
    rintro e w1 ⟨rfl, rfl⟩
    go_upto_block 0 with fail
    have r0 : Both ((w.alloc (Obj.cells #[Value.string s, Value.int IntKind.i64 0] 54)).alloc (Obj.cells #[Value.string s, Value.int IntKind.i64 0, Value.int IntKind.i64 0] 33)) w.heap.size (w.heap.size + 1) s :=
      ⟨0, 0, Nat.zero_le _, Whole.alloc (Whole.fresh w 54 #[Value.string s, Value.int IntKind.i64 0]) _, by
        have := Whole.fresh (w.alloc (Obj.cells #[Value.string s, Value.int IntKind.i64 0] 54)) 33 #[Value.string s, Value.int IntKind.i64 0, Value.int IntKind.i64 0]
        rw [World.size_alloc] at this
        exact this⟩
    have b0 : Below w.heap.size w ((w.alloc (Obj.cells #[Value.string s, Value.int IntKind.i64 0] 54)).alloc (Obj.cells #[Value.string s, Value.int IntKind.i64 0, Value.int IntKind.i64 0] 33)) :=
      ((Below.refl _ _).alloc (Nat.le_refl _) _).alloc (by simp) _
    generalize hga : w.heap.size = ga at r0
    have HGA := Lib.hid hga
    go_cut [] from 20 (fun wx => Both wx ga (ga + 1) s ∧ Below w.heap.size w wx)
    case first =>
      go_wp2_with fail
      go_loopw [7] (fun i wr => ∃ k : Nat, k ≤ L.length ∧ k ≤ 60 ∧ i = .int .i64 k ∧ Both wr ga (ga + 1) s ∧ Below w.heap.size w wr) (fun i _ => 60 - (intOf i).toNat)
      case atStart => exact ⟨0, by omega, by omega, rfl, r0, b0⟩
      case round =>
        clear r0 b0
        obtain ⟨k, hk, hk2, rfl, hboth, hb⟩ := hrel
        by_cases hlt : k < L.length ∧ k < 60
        · obtain ⟨g1, g2⟩ := hlt
          obtain ⟨a, ha⟩ : ∃ a, L[k]? = some a := ⟨_, List.getElem?_eq_getElem g1⟩
          rcases hL with h0 | ⟨b, off, hA, hbl, hc⟩
          · simp at h0; subst h0; simp at g1
          · subst hA
            obtain ⟨-, hcc⟩ := hc k a.cells (by rw [List.getElem?_map, ha]; rfl)
            have c0 : wr.cell? ⟨b, off + k * 3, none⟩ = some (.int .i64 a.kind) := (hb.cell hbl).trans (hcc 0 (by omega))
            have c1 : wr.cell? ⟨b, off + k * 3 + 1, none⟩ = some (.int .i64 a.most) := (hb.cell hbl).trans (hcc 1 (by omega))
            have c2 : wr.cell? ⟨b, off + k * 3 + 2, none⟩ = some (.int .i64 a.n) := (hb.cell hbl).trans (hcc 2 (by omega))
            obtain ⟨dk, dm, dn⟩ := dL a (List.mem_of_getElem? ha)
            clear hc hcc ha
            go_upto_block 2 with fail
            have hx : Whole (wr.alloc (Obj.cells #[Value.int IntKind.i64 a.kind, Value.int IntKind.i64 a.most, Value.int IntKind.i64 a.n] 35)) wr.heap.size 35 #[Value.int IntKind.i64 a.kind, Value.int IntKind.i64 a.most, Value.int IntKind.i64 a.n] := Whole.fresh wr 35 _
            have hb2 : Below w.heap.size w (wr.alloc (Obj.cells #[Value.int IntKind.i64 a.kind, Value.int IntKind.i64 a.most, Value.int IntKind.i64 a.n] 35)) := hb.alloc hb.size _
            obtain ⟨n, e, hn, ra, rb⟩ := hboth
            have hlo : ga + 1 < wr.heap.size := Whole.inside rb
            have ra2 : RdA (wr.alloc (Obj.cells #[Value.int IntKind.i64 a.kind, Value.int IntKind.i64 a.most, Value.int IntKind.i64 a.n] 35)) ga (s.data.toList.drop n) e := Whole.alloc ra _
            have rb2 : RdB (wr.alloc (Obj.cells #[Value.int IntKind.i64 a.kind, Value.int IntKind.i64 a.most, Value.int IntKind.i64 a.n] 35)) (ga + 1) s n e := Whole.alloc rb _
            clear ra rb c0 c1 c2
            generalize wr.alloc (Obj.cells #[Value.int IntKind.i64 a.kind, Value.int IntKind.i64 a.most, Value.int IntKind.i64 a.n] 35) = wo at hx hb2 ra2 rb2 ⊢
            generalize wr.heap.size = go at hx hlo ⊢
            have hxm : wo.cell? ⟨go, 1, none⟩ = some (.int .i64 a.most) := hx.read 1
            have hxn : wo.cell? ⟨go, 2, none⟩ = some (.int .i64 a.n) := hx.read 2
            have hxk : wo.cell? ⟨go, 0, none⟩ = some (.int .i64 a.kind) := hx.read 0
            have hng : some go ≠ some ga := by simp; omega
            go_cut [9] from 20 to 104 (fun ok wx => ok = .bool true ∧ Both wx ga (ga + 1) s ∧ Below w.heap.size w wx)
            case first =>
              have hl : (s.data.toList.drop n).length ≤ 9223372036854775807 := by
                have h3 : s.data.toList.length = s.size := rfl
                simp; omega
              by_cases k0 : a.kind = 0
              · have K0 : (a.kind == 0) = true := by simpa using k0
                have KN := Lib.hid k0; clear k0
                go_wp2_with fail
                refine (numA ga _ e hl _ ra2).mono ?_
                rintro r w2 ⟨rfl, ra3, g3⟩
                have rb3 : RdB w2 (ga + 1) s n e := Whole.grown rb2 g3 (by simp)
                go_wp2_with fail
                refine (numB (ga + 1) s n e hs hn _ rb3).mono ?_
                rintro r w3 ⟨rfl, rb4, g4⟩
                go_wp2_with fail
                go_meet
                exact ⟨rfl, ⟨_, _, rNum_in hn, both_drop (Whole.grown ra3 g4 (by simp)), rb4⟩, below_only (below_only hb2 g3 hb2.size (by have := HGA.out; omega)) g4 (Nat.le_trans hb2.size g3.size) (by have := HGA.out; omega)⟩
              · have K0 : (a.kind == 0) = false := by simpa using k0
                by_cases k1 : a.kind = 1
                · have K1 : (a.kind == 1) = true := by simpa using k1
                  have KN := Lib.hid k1; clear k1 k0
                  go_wp2_with fail
                  go_region_with (first | (go_at_call 17; refine (intA ga _ e a.most hl dm.1 dm.2 _ (by exact ra2)).mono ?_; rintro r w2 ⟨rfl, ra3, g3⟩; have rb3 : RdB w2 (ga + 1) s n e := Whole.grown (w := wo.drew) rb2 g3 (by simp); have hx3 := g3.cell hxm hng) | (go_at_call 18; refine (intB (ga + 1) s n e a.most hs hn dm.1 dm.2 _ (by exact rb3)).mono ?_; rintro r w3 ⟨rfl, rb4, g4⟩))
                  all_goals go_wp2_with fail
                  all_goals go_meet
                  all_goals exact ⟨rfl, ⟨_, _, rInt_in hn, both_drop (Whole.grown ra3 g4 (by simp)), rb4⟩, then_only hb2.drew g3 g4 hb2.size (by have := HGA.out; omega) (by have := HGA.out; omega)⟩
                · have K1 : (a.kind == 1) = false := by simpa using k1
                  by_cases k2 : a.kind = 2
                  · have K2 : (a.kind == 2) = true := by simpa using k2
                    have KN := Lib.hid k2; clear k2 k0 k1
                    go_wp2_with fail
                    refine (signedA ga _ e hl _ ra2).mono ?_
                    rintro r w2 ⟨rfl, ra3, g3⟩
                    have rb3 : RdB w2 (ga + 1) s n e := Whole.grown rb2 g3 (by simp)
                    go_wp2_with fail
                    refine (signedB (ga + 1) s n e hs hn _ rb3).mono ?_
                    rintro r w3 ⟨rfl, rb4, g4⟩
                    go_wp2_with fail
                    go_meet
                    exact ⟨rfl, ⟨_, _, rNum_in hn, both_drop (Whole.grown ra3 g4 (by simp)), rb4⟩, then_only hb2 g3 g4 hb2.size (by have := HGA.out; omega) (by have := HGA.out; omega)⟩
                  · have K2 : (a.kind == 2) = false := by simpa using k2
                    by_cases k3 : a.kind = 3
                    · have K3 : (a.kind == 3) = true := by simpa using k3
                      have KN := Lib.hid k3; clear k3 k0 k1 k2
                      go_wp2_with fail
                      go_region_with (first | (go_at_call 21; refine (txtA ga _ e a.most hl dm.1 dm.2 _ (by exact ra2)).mono ?_; rintro r w2 ⟨rfl, ra3, g3⟩; have rb3 : RdB w2 (ga + 1) s n e := Whole.grown (w := wo.drew) rb2 g3 (by simp); have hx3 := g3.cell hxm hng) | (go_at_call 22; refine (txtB (ga + 1) s n e a.most hs hn dm.1 dm.2 _ (by exact rb3)).mono ?_; rintro r w3 ⟨rfl, rb4, g4⟩))
                      all_goals go_wp2_with fail
                      all_goals go_meet
                      all_goals exact ⟨rfl, ⟨_, _, rTxt_in hn, both_drop (Whole.grown ra3 g4 (by simp)), rb4⟩, then_only hb2.drew g3 g4 hb2.size (by have := HGA.out; omega) (by have := HGA.out; omega)⟩
                    · have K3 : (a.kind == 3) = false := by simpa using k3
                      by_cases k4 : a.kind = 4
                      · have K4 : (a.kind == 4) = true := by simpa using k4
                        have KN := Lib.hid k4; clear k4 k0 k1 k2 k3
                        go_wp2_with fail
                        refine (failA ga _ e a.n _ ra2).mono ?_
                        rintro r w2 ⟨rfl, ra3, g3⟩
                        have rb3 : RdB w2 (ga + 1) s n e := Whole.grown rb2 g3 (by simp)
                        have hx3 := g3.cell hxn hng
                        go_wp2_with fail
                        refine (failB (ga + 1) s n e a.n _ rb3).mono ?_
                        rintro r w3 ⟨rfl, rb4, g4⟩
                        go_wp2_with fail
                        go_meet
                        exact ⟨rfl, ⟨_, _, hn, Whole.grown ra3 g4 (by simp), rb4⟩, then_only hb2 g3 g4 hb2.size (by have := HGA.out; omega) (by have := HGA.out; omega)⟩
                      · have K4 : (a.kind == 4) = false := by simpa using k4
                        clear k0 k1 k2 k3 k4
                        go_wp2_with fail
                        refine (endA ga _ e _ ra2).mono ?_
                        rintro r w2 ⟨rfl, ra3, g3⟩
                        have rb3 : RdB w2 (ga + 1) s n e := Whole.grown rb2 g3 (by simp)
                        go_wp2_with fail
                        refine (endB (ga + 1) s n e hs hn _ rb3).mono ?_
                        rintro r w3 ⟨rfl, rb4, g4⟩
                        go_wp2_with fail
                        go_meet
                        exact ⟨rfl, ⟨_, _, hn, Whole.grown ra3 g4 (by simp), rb4⟩, then_only hb2 g3 g4 hb2.size (by have := HGA.out; omega) (by have := HGA.out; omega)⟩
            case rest =>
              clear ra2 rb2 hb2 hx hxm hxn hxk hng hlo
              obtain ⟨rfl, ⟨n', e', hn', ra3, rb3⟩, hb3⟩ := hcut
              obtain ⟨c0, c1, c2, f0, f1, f2⟩ := rb3.facts
              clear c0 c1 f0 f1 f2
              go_wp2_with fail
              go_quiet (first | (go_at_call 27; exact Calls.quiet_of_same (leftS ga (s.data.toList.drop n') e' _ (by exact ra3))) | (go_at_call 28; exact Calls.quiet_of (leftQ (ga + 1) s n' e' hs hn' _ (by exact rb3))) | (go_at_call 29; exact Calls.quiet_of_same (errS ga (s.data.toList.drop n') e' _ (by exact ra3))))
              go_wp2_with fail
              go_roundw
              case rel => exact ⟨k + 1, by omega, by omega, by go_num, ⟨n', e', hn', ra3, rb3⟩, below_drewN hb3 _⟩
              case measure => simp [intOf]; omega
        · go_wp2_with fail
          all_goals go_meet
          all_goals exact ⟨hboth, hb⟩
    case rest =>
      clear r0 b0
      obtain ⟨⟨n, e, hn, ra, rb⟩, hb⟩ := hcut
      go_wp2_with fail
      refine (endA ga _ e _ ra).mono ?_
      rintro r w2 ⟨rfl, ra3, g3⟩
      have rb3 : RdB w2 (ga + 1) s n e := Whole.grown rb g3 (by simp)
      go_wp2_with fail
      refine (endB (ga + 1) s n e hs hn _ rb3).mono ?_
      rintro r w3 ⟨rfl, rb4, g4⟩
      go_wp2_with fail
      go_ret
      exact ⟨rfl, then_only hb g3 g4 hb.size (by have := HGA.out; omega) (by have := HGA.out; omega)⟩

def askR : Reader (Int × Int × Int × Unit) := consR 1 (intR .i64) (consR 1 (intR .i64) (consR 1 (intR .i64) nilR))
theorem ask_cells (w : World) (cs : List Value) (p : Int × Int × Int × Unit) (h : askR w cs p) : cs = (Ask.cells ⟨p.1, p.2.1, p.2.2.1⟩) ∧ (Lit.int .i64 p.1).wf = true ∧ (Lit.int .i64 p.2.1).wf = true ∧ (Lit.int .i64 p.2.2.1).wf = true := by
  obtain ⟨⟨h1, w1⟩, ⟨h2, w2⟩, ⟨h3, w3⟩, h4⟩ := h
  refine ⟨?_, w1, w2, w3⟩
  have e1 : cs = cs.take 1 ++ cs.drop 1 := (List.take_append_drop 1 cs).symm
  have e2 : cs.drop 1 = (cs.drop 1).take 1 ++ (cs.drop 1).drop 1 := (List.take_append_drop 1 _).symm
  have e3 : (cs.drop 1).drop 1 = ((cs.drop 1).drop 1).take 1 ++ ((cs.drop 1).drop 1).drop 1 := (List.take_append_drop 1 _).symm
  rw [h4, h3, List.append_nil] at e3
  rw [h2, e3] at e2
  rw [h1, e2] at e1
  exact e1
theorem walk (s : ByteArray) (r : Row (Int × Int × Int × Unit)) {W : World} {k : List Value} (hs : s.size ≤ 140737488351232) (q : sliceR 3 24 askR W k r) :
    Calls Try.prog 4 #[.string s, r.val] W fun e w' => e = .returned (.bool true) ∧ Below W.heap.size W w' := by
  have e := liesN_of (f := fun p => Ask.cells ⟨p.1, p.2.1, p.2.2.1⟩) (fun w cs p h => (ask_cells w cs p h).1) (by omega) q
  have hm := row_max q
  rw [row_val q]
  have hmm : r.elems.map (fun p => Ask.cells ⟨p.1, p.2.1, p.2.2.1⟩) = (r.elems.map fun p => (⟨p.1, p.2.1, p.2.2.1⟩ : Ask)).map Ask.cells := by rw [List.map_map]; rfl
  rw [hmm] at e
  have hl : r.elems.length = (r.elems.map fun p => (⟨p.1, p.2.1, p.2.2.1⟩ : Ask)).length := by simp
  rw [hl] at hm ⊢
  refine walkR s hs _ _ _ W e hm fun a ha => ?_
  obtain ⟨p, hp, rfl⟩ := List.mem_map.1 ha
  obtain ⟨_, hc⟩ := elem_of q p hp
  obtain ⟨_, x1, x2, x3⟩ := ask_cells _ _ _ hc
  exact ⟨bounds_i64 x1, bounds_i64 x2, bounds_i64 x3⟩

theorem told (W : World) (args : Array Value) (h : Fed Try.prog W [9, 27] args) : Calls Try.prog 4 args W fun e W' => e = .returned (.bool true) ∧ Below W.heap.size W W' := by
  obtain ⟨v0, v1, rfl⟩ := args2 h.count
  obtain ⟨⟨_, o0⟩, r0⟩ := h.each 0 9 v0 rfl rfl
  obtain ⟨⟨_, o1⟩, r1⟩ := h.each 1 27 v1 rfl rfl
  obtain ⟨a0, q0⟩ := r0 (opens_str Try.underlying9)
  obtain ⟨rfl, w0⟩ := top_str Try.underlying9 o0 q0
  obtain ⟨a1, q1⟩ := r1 (opens_slice Try.underlying27 (m := 3) (bytes := 24) (by kernel_rfl) (by kernel_rfl) (opens_struct Try.underlying35 (by kernel_rfl) (by kernel_rfl) (opensFs_cons (opens_int Try.underlying3) (m := 1) (by kernel_rfl) (opensFs_cons (opens_int Try.underlying3) (m := 1) (by kernel_rfl) (opensFs_cons (opens_int Try.underlying3) (m := 1) (by kernel_rfl) opensFs_nil)))))
  obtain rfl := top_slice Try.underlying27 o1 q1
  exact walk a0 a1 w0 q1

/-! ### The row -/
theorem own : ownKnob Try.prog.godebug = none := by kernel_rfl
theorem laidOut : laidOutB Try.prog = true := by kernel_rfl
set_option maxRecDepth 100000 in
theorem lifted (os : Os) (started : os.Started) (H : Type) (enc : TypeId × Value → H) :
    ReturnsInHanded {} Try.checked os 4 .any (Rows.codeReadsSpec.pre6 enc Try.prog Try.f4 Rows.codeReadsRow.domain false) (Rows.codeReadsSpec.post enc Try.prog Try.f4 false true false false) :=
  lift (C := Try.checked) (fn := Try.f4) (tb := 4) (ts := [9, 27]) own started (by kernel_rfl) Try.func4 laidOut (by kernel_rfl) (by kernel_rfl) (by kernel_rfl) Try.underlying4 rfl
    (fun ds h => by
      match ds, h with
      | [_, _], _ => rfl)
    (ChangeSpec.witness6 (enc := enc) (C := Try.checked) false ⟨#[], #[.string ByteArray.empty, .slice none 0 0], []⟩ 8 (by kernel_rfl) (by kernel_rfl) (by kernel_rfl) (by kernel_rfl)) told

theorem over : Rows.codeReadsRow.holds Try.pinned (OpenSpec.ofChange Rows.codeReadsSpec) :=
  OpenClaim.holds_of_wide 4 Try.f4 rfl rfl rfl rfl rfl rfl rfl ⟨rfl, rfl, rfl, rfl, rfl⟩ rfl rfl rfl rfl rfl (by kernel_rfl) Try.func4 (by kernel_rfl)
    (of_decide_eq_true (by kernel_rfl)) (by unfold Func.isWrapper; first | (rw [if_pos (by decide +kernel)]; kernel_rfl) | (rw [if_neg (by decide +kernel)]; exact ⟨rfl, rfl⟩))
    (fun os started H enc _ => lifted os started H enc)

theorem proved : Rows.CodeReadsSaid := over
#print axioms proved
end Go.Proofs.Ytmbjnoikfleioaa.codeReads
