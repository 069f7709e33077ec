/-
  The document's Take (by gen_xt.py).
-/
import Derived.Test.YtbomlapmoiamgaaXw1
import Derived.Test.YtbomlapmoiamgaaFa
set_option linter.unusedSimpArgs false
set_option linter.unusedVariables false
namespace Go.Proofs.Ytbomlapmoiamgaa.wan
open Go.ChangeShapes Go.WideShapes Go.ChangeAt Go.RowKit
open Go.Proofs.Ytbomlapmoiamgaa.opened Go.Proofs.Ytbomlapmoiamgaa.block Go.Proofs.Ytbomlapmoiamgaa.words Go.Proofs.Ytbomlapmoiamgaa.region
/-- An own row of letters, somewhere behind z. -/
def OwnPL (tl : TypeId) (z : Nat) (N : List Lt) (u : Value) (w : World) : Prop := ∃ B c, u = .slice B N.length c ∧ OwnG tl 3 cL w z (.slice B N.length c) N
theorem keeps_ownPL (tl : TypeId) (z : Nat) (N : List Lt) : Keeps (OwnPL tl z N) := fun _ _ _ hb ⟨B, c, h1, h2⟩ => ⟨B, c, h1, h2.below hb⟩
theorem own0L (W : World) (z : Nat) (hz : z ≤ W.heap.size) (tl : TypeId) : OwnG tl 3 cL (W.alloc (.cells #[] tl)) z (.slice (some ⟨W.heap.size, 0, none⟩) 0 0) [] := ⟨rfl, .inr ⟨W.heap.size, 0, #[], rfl, hz, heap_new W _, Nat.le_refl _, by simp [maxLen], rfl, rfl⟩⟩
def FinL (tw tl : TypeId) (g z : Nat) (W : Wn) (N : List Lt) (_ : Value) (w : World) : Prop := ∃ B c, Whole w g tw (wanC W.n (.slice B N.length c) W.O W.c) ∧ OwnG tl 3 cL w z (.slice B N.length c) N
theorem keeps_finL (tw tl : TypeId) (g z : Nat) (W : Wn) (N : List Lt) : Keeps (FinL tw tl g z W N) := fun _ _ _ hb ⟨B, c, h1, h2⟩ => ⟨B, c, h1.below hb h1.inside, h2.below hb⟩
theorem OwnG.boxed {α : Type} {m : Nat} {f : α → List Value} {T : TypeId} {w w' : World} {z g0 : Nat} {v : Value} {N : List α} (ho : OwnG T m f w z v N) (hz : g0 < z) (h9 : ∀ {k : Nat} {tk : TypeId} {ck : Array Value}, Whole w k tk ck → k ≠ g0 → Whole w' k tk ck) : OwnG T m f w' z v N := by
  refine ⟨ho.1, ?_⟩
  rcases ho.2 with hn | ⟨b, cap, cur, hv, hb, hh, rest⟩
  · exact .inl hn
  · exact .inr ⟨b, cap, cur, hv, hb, h9 hh (by omega), rest⟩
theorem OwnG.low {α : Type} {m : Nat} {f : α → List Value} {T : TypeId} {w : World} {b1 base : Nat} {v : Value} {N : List α} (h : OwnG T m f w b1 v N) (hb : base ≤ b1) : OwnG T m f w base v N := by
  refine ⟨h.1, ?_⟩
  rcases h.2 with hx | ⟨b, cap, cur, hv, hb2, rest⟩
  · exact .inl hx
  · exact .inr ⟨b, cap, cur, hv, Nat.le_trans hb hb2, rest⟩
theorem own_someL {w : World} {tl : TypeId} {base n c : Nat} {A : Option Addr} {N : List Lt} (h : OwnG tl 3 cL w base (.slice A n c) N) (hl : 0 < N.length) : ∃ b, A = some ⟨b, 0, none⟩ := by
  rcases h.2 with ⟨-, hn⟩ | ⟨b, cap, cur, hv, -⟩
  · omega
  · injection hv with h1
    exact ⟨b, h1⟩
theorem OwnG.turnS {α : Type} {m : Nat} {f : α → List Value} {T tw : TypeId} {w w' : World} {z g : Nat} {v : Value} {N : List α} {cs : Array Value} (ho : OwnG T m f w z v N) (hd : Whole w g tw cs) (hne : T ≠ tw) (h : TurnS w w' (fun k => k = g)) : OwnG T m f w' z v N := by
  refine ⟨ho.1, ?_⟩
  rcases ho.2 with hn | ⟨b, cap, cur, hv, hb, hh, rest⟩
  · exact .inl hn
  · exact .inr ⟨b, cap, cur, hv, hb, (h.block b (Array.getElem?_eq_some_iff.1 hh).1 (obj_ne hh hd (ty_ne hne))).trans hh, rest⟩
set_option maxRecDepth 100000 in
theorem sliceL_to (b n c k : Nat) (hk : k ≤ c) (W : World) : (Instr.sliceAt 45 (.slice (some ⟨b, 0, none⟩) n c) none (some (.int .i64 (k : Int))) none).run Try.prog W = .ok (.slice (some ⟨b, 0, none⟩) k c) W := by
  go_simp
set_option maxRecDepth 100000 in
theorem sliceL_from (b n c k : Nat) (hk : k ≤ n) (hn : n ≤ c) (W : World) : (Instr.sliceAt 45 (.slice (some ⟨b, 0, none⟩) n c) (some (.int .i64 (k : Int))) none none).run Try.prog W = .ok (.slice (if c = k then some ⟨b, 0, none⟩ else some ⟨b, k * 3, none⟩) (n - k) (c - k)) W := by
  have hkc : k ≤ c := by omega
  by_cases h : c = k
  · subst h
    go_simp
  · have h2 : k < c := by omega
    go_simp
section
variable {B g : Nat} {W : Wn} {A : Option Addr} {c : Nat} {w : World}
set_option maxRecDepth 100000 in
set_option maxHeartbeats 8000000 in
theorem takeR_any (h : WanE 49 36 B w g W A c) (G : GoodW W) (i : Int) : Calls Try.prog 12 #[.pointer (some ⟨g, 0, none⟩), .int .i64 i] w fun e w' => e = .returned (.tuple #[(atV W i).val, .int .i64 (atE W i)]) ∧ WanP 49 36 B w' g (takeV W i) ∧ WB 49 36 B w w' := by
  have hBw : B ≤ w.heap.size := (show WanP 49 36 B w g W from ⟨A, c, h⟩).le
  have HBw := Lib.hid hBw
  have B0 : Hid (Below w.heap.size w (w.alloc (.cells zL 36))) := Lib.hid (fresh1 w _)
  have R0 : Hid (Whole (w.alloc (.cells zL 36)) w.heap.size 36 zL) := Lib.hid (Whole.fresh w 36 zL)
  have HE := Lib.hid (h.below (fresh1 w (.cells zL 36)))
  have HGd := Lib.hid G
  have HA := Lib.hid (atR_any HE.out HGd.out i)
  have HGI := Lib.hid h.cell.inside
  have HAI : Hid (∀ b, A = some ⟨b, 0, none⟩ → b < w.heap.size) := Lib.hid fun b e => by
    subst e
    obtain ⟨cur, hc⟩ := OwnG.shapeT h.row (k := b) rfl
    exact (Array.getElem?_eq_some_iff.1 hc).1
  have HVV : Hid (takeV W i = if atE W i ≠ 0 then W else { W with L := W.L.eraseIdx i.toNat }) := Lib.hid rfl
  have HIn : Hid (atE W i = 0 → 0 ≤ i ∧ i < W.L.length) := Lib.hid fun h0 => by
    unfold atE at h0
    split at h0
    · assumption
    · cases h0
  generalize takeV W i = tv at HVV ⊢
  generalize atE W i = ae at HA HVV HIn ⊢
  generalize atV W i = l at HA ⊢
  clear h G hBw
  go_enter Try.func12, Try.ntmps12
  go_upto_region 1 with fail
  change Code.wp _ _ _ _ (w.alloc (.cells zL 36))
  generalize w.alloc (.cells zL 36) = w0 at B0 R0 HE HA ⊢
  obtain ⟨g0, hg0⟩ : ∃ g, g = w.heap.size := ⟨_, rfl⟩
  have HG0 := Lib.hid hg0
  have HGJ := Lib.hid HGI.out
  rw [← hg0] at R0 HGI ⊢
  clear hg0
  go_upto_region 2 with (go_at_call 23; (with_reducible refine HA.out.mono ?_); rintro e w1 ⟨rfl, b1⟩; have B1 := Lib.hid b1; clear b1)
  change Code.wp _ _ _ _ (w1.alloc (.cells (cL l).toArray 36))
  have B2 : Hid (Below w0.heap.size w0 (w1.alloc (.cells (cL l).toArray 36))) := Lib.hid (then_below B1.out (fresh1 w1 _))
  have R2 : Hid (Whole (w1.alloc (.cells (cL l).toArray 36)) w1.heap.size 36 (cL l).toArray) := Lib.hid (Whole.fresh w1 36 _)
  have HS1 : Hid (w0.heap.size ≤ w1.heap.size) := Lib.hid B1.out.size
  generalize w1.alloc (.cells (cL l).toArray 36) = w2 at B2 R2 ⊢
  obtain ⟨g2, hg2⟩ : ∃ g, g = w1.heap.size := ⟨_, rfl⟩
  rw [← hg2] at R2 HS1 ⊢
  clear hg2 HA B1
  have H2 := Lib.hid (HE.out.below B2.out)
  have Z2 := Lib.hid (R0.out.below B2.out R0.out.inside)
  have W2 : Hid (WB 49 36 B w w2) := Lib.hid (WB.of (then_below B0.out B2.out) HBw.out)
  have HN : Hid (g0 ≠ g ∧ g2 ≠ g ∧ g0 < w2.heap.size) := Lib.hid ⟨by have := HGI.out; omega, by have := HGI.out; have := R0.out.inside; have := HS1.out; omega, Z2.out.inside⟩
  by_cases h0 : ae = 0
  · subst h0
    have hv := HVV.out
    rw [if_neg (by simp)] at hv
    have hb := HIn.out rfl
    obtain ⟨j, rfl⟩ : ∃ j : Nat, i = j := ⟨i.toNat, by omega⟩
    rw [Int.toNat_natCast, List.eraseIdx_eq_take_drop_succ] at hv
    subst hv
    have hj : j < W.L.length := by omega
    obtain ⟨b, rfl⟩ := own_someL H2.out.row (by omega)
    have hroom := OwnG.room H2.out.row
    have hl96 := HGd.out.l
    have HKC : Hid (j + 1 ≤ W.L.length ∧ j ≤ c ∧ (W.L.take j).length = j ∧ W.L.length ≤ 96 ∧ W.L.length ≤ c) := Lib.hid ⟨by omega, by omega, by rw [List.length_take]; omega, hl96, hroom⟩
    have HRW := Lib.hid fun (w7 : World) (hr : TurnS w2 w7 (fun k => k = g)) => OwnG.turnS H2.out.row H2.out.cell (by decide) hr
    have HCL := Lib.hid H2.out.cell
    have HBZ : Hid (B ≤ w2.heap.size) := Lib.hid (Nat.le_trans HBw.out (then_below B0.out B2.out).size)
    obtain ⟨i0, hi0, hz0, hz1, hz2⟩ := infoR
    clear hb HVV HIn hroom hl96
    go_upto_region 3 with fail
    refine wp_frame ?_
    intro a9 ha9
    have hN9 : a9.tmps.size = 37 := by rw [ha9]; rfl
    have e0 : a9.eval (.tmp 0) = .pointer (some ⟨g, 0, none⟩) := by rw [ha9]; rfl
    have e1 : a9.eval (.tmp 1) = .int .i64 (j : Int) := by rw [ha9]; rfl
    have HA9 := Lib.hid ha9
    clear ha9
    refine region_fullZ 37 [(8, 16), (8, 19), (16, 19), (8, 1), (16, 8), (16, 1), (19, 16), (19, 8), (19, 1)] [(19, 5), (19, 12), (8, 5), (16, 5), (16, 12)] [(8, 1), (16, 8), (16, 1), (19, 16), (19, 8), (19, 1)] (fun k => k == 5 || k == 8 || k == 12 || k == 16 || k == 19) (fun w7 => TurnS w2 w7 (fun k => k = g)) ?hR ?r0 [pdOne 0 (Is (.pointer (some ⟨g, 0, none⟩))), pdOne 1 (OwnPL 36 w2.heap.size []), pdOne 2 (Is (.pointer (some ⟨g, 0, none⟩))), pdOne 3 (Is (.pointer (some ⟨g, 0, none⟩))), pdOne 4 (Is (.pointer (some ⟨g, 1, none⟩))), pdOne 5 (Is (.slice (some ⟨b, 0, none⟩) W.L.length c)), pdOne 6 (Is (.int .i64 (j : Int))), pdOne 7 (Is (.slice (some ⟨b, 0, none⟩) j c)), pdOne 8 (OwnPL 36 w2.heap.size (W.L.take j)), pdOne 9 (Is (.pointer (some ⟨g, 0, none⟩))), pdOne 10 (Is (.pointer (some ⟨g, 0, none⟩))), pdOne 11 (Is (.pointer (some ⟨g, 1, none⟩))), pdOne 12 (Is (.slice (some ⟨b, 0, none⟩) W.L.length c)), pdOne 13 (Is (.int .i64 (j : Int))), pdOne 14 (Is (.int .i64 ((j + 1 : Nat) : Int))), pdOne 15 (Is (.slice (if c = j + 1 then some ⟨b, 0, none⟩ else some ⟨b, (j + 1) * 3, none⟩) (W.L.length - (j + 1)) (c - (j + 1)))), pdOne 16 (OwnPL 36 w2.heap.size (W.L.take j ++ W.L.drop (j + 1))), pdOne 17 (Is (.pointer (some ⟨g, 0, none⟩))), pdOne 18 (Is (.pointer (some ⟨g, 1, none⟩))), pdOne 19 (FinL 49 36 g w2.heap.size W (W.L.take j ++ W.L.drop (j + 1)))] (fun k w7 => (k = 5 ∨ k = 12 → Whole w7 g 49 (wanC W.n (.slice (some ⟨b, 0, none⟩) W.L.length c) W.O W.c)) ∧ (∃ u, Whole w7 g 49 (wanC W.n u W.O W.c))) (by kernel_rfl) hN9 (by kernel_rfl) (by kernel_rfl) (by kernel_rfl) (by kernel_rfl) (by kernel_rfl) ?keep ?hO ?h0 ?tell
    case hR => exact fun w7 w8 hb h1 => h1.later hb
    case r0 => exact TurnS.refl _ _
    case keep => exact ⟨keep_one (keeps_is _), keep_one (keeps_ownPL _ _ _), keep_one (keeps_is _), keep_one (keeps_is _), keep_one (keeps_is _), keep_one (keeps_is _), keep_one (keeps_is _), keep_one (keeps_is _), keep_one (keeps_ownPL _ _ _), keep_one (keeps_is _), keep_one (keeps_is _), keep_one (keeps_is _), keep_one (keeps_is _), keep_one (keeps_is _), keep_one (keeps_is _), keep_one (keeps_is _), keep_one (keeps_ownPL _ _ _), keep_one (keeps_is _), keep_one (keeps_is _), keep_one (keeps_finL _ _ _ _ _ _), trivial⟩
    case hO => exact fun k w7 w8 hb ⟨h1, u, hu⟩ => ⟨fun e => (h1 e).below hb (h1 e).inside, u, hu.below hb hu.inside⟩
    case h0 => exact fun k _ => ⟨fun _ => HCL.out, _, HCL.out⟩
    case tell =>
      intro fin hfin
      refine ⟨?tells, ?after⟩
      case' tells => (simp only [TellZ]; refine ⟨?_, ?_, ?_, ?_, ?_, ?_, ?_, ?_, ?_, ?_, ?_, ?_, ?_, ?_, ?_, ?_, ?_, ?_, ?_, ?_, trivial⟩)
      · intro v2 w7 hr hd
        refine ⟨(fun j b h => nomatch h), ?_⟩
        refine yields_run (u := .pointer (some ⟨g, 0, none⟩)) (w' := w7) ?_ (Below.refl _ _) rfl
        unfold execOp
        (try simp only [List.map_toArray, List.map_cons, List.map_nil, ev_ne, ev_eq, ev_const, put_size, hN9, ne_eq, Nat.reduceEqDiff, not_false_eq_true, Nat.reduceLT, e0, e1])
        (try simp [go_sem])
      · intro v2 w7 hr hd
        refine ⟨(fun j b h => nomatch h), ?_⟩
        refine yields_run (u := .slice (some ⟨w7.heap.size, 0, none⟩) 0 0) (w' := w7.alloc (.cells #[] 36)) ?_ (fresh1 w7 _) ⟨_, _, rfl, own0L w7 _ hr.size _⟩
        unfold execOp
        simp [go_sem]
      · intro v2 w7 hr hd
        refine ⟨(fun j b h => nomatch h), ?_⟩
        refine yields_run (u := .pointer (some ⟨g, 0, none⟩)) (w' := w7) ?_ (Below.refl _ _) rfl
        unfold execOp
        (try simp only [List.map_toArray, List.map_cons, List.map_nil, ev_ne, ev_eq, ev_const, put_size, hN9, ne_eq, Nat.reduceEqDiff, not_false_eq_true, Nat.reduceLT, e0, e1])
        (try simp [go_sem])
      · intro v2 w7 hr hd
        have h2 : v2 2 = .pointer (some ⟨g, 0, none⟩) := hd 2 (by kernel_rfl)
        refine ⟨(fun j b h => nomatch h), ?_⟩
        refine yields_run (u := .pointer (some ⟨g, 0, none⟩)) (w' := w7) ?_ (Below.refl _ _) rfl
        unfold execOp
        (try simp only [List.map_toArray, List.map_cons, List.map_nil, ev_ne, ev_eq, ev_const, put_size, hN9, ne_eq, Nat.reduceEqDiff, not_false_eq_true, Nat.reduceLT, e0, e1, h2])
        (try simp [go_sem])
      · intro v2 w7 hr hd
        have h3 : v2 3 = .pointer (some ⟨g, 0, none⟩) := hd 3 (by kernel_rfl)
        refine ⟨(fun j b h => nomatch h), ?_⟩
        refine yields_run (u := .pointer (some ⟨g, 1, none⟩)) (w' := w7) ?_ (Below.refl _ _) rfl
        unfold execOp
        (try simp only [List.map_toArray, List.map_cons, List.map_nil, ev_ne, ev_eq, ev_const, put_size, hN9, ne_eq, Nat.reduceEqDiff, not_false_eq_true, Nat.reduceLT, e0, e1, h3])
        (try simp [go_sem])
      · intro v2 w7 hr ho hd
        have h4 : v2 4 = .pointer (some ⟨g, 1, none⟩) := hd 4 (by kernel_rfl)
        refine ⟨(fun j b h => nomatch h), ?_⟩
        have hc : w7.cell? ⟨g, 1, none⟩ = some (.slice (some ⟨b, 0, none⟩) W.L.length c) := (ho.1 (by simp)).read 1
        have hf : w7.frozen? ⟨g, 1, none⟩ = false := (ho.1 (by simp)).soft 1
        refine .inl (.inl ⟨.slice (some ⟨b, 0, none⟩) W.L.length c, w7, ?_, hr, fun _ _ _ _ hu => hu, fun _ _ _ _ hu => hu, rfl⟩)
        unfold execOp
        (try simp only [List.map_toArray, List.map_cons, List.map_nil, ev_ne, ev_eq, ev_const, put_size, hN9, ne_eq, Nat.reduceEqDiff, not_false_eq_true, Nat.reduceLT, e0, e1, h4])
        (try simp [go_sem, hc, hf])
      · intro v2 w7 hr hd
        refine ⟨(fun j b h => nomatch h), ?_⟩
        refine yields_run (u := .int .i64 (j : Int)) (w' := w7) ?_ (Below.refl _ _) rfl
        unfold execOp
        (try simp only [List.map_toArray, List.map_cons, List.map_nil, ev_ne, ev_eq, ev_const, put_size, hN9, ne_eq, Nat.reduceEqDiff, not_false_eq_true, Nat.reduceLT, e0, e1])
        (try simp [go_sem])
      · intro v2 w7 hr hd
        have h5 : v2 5 = _ := hd 5 (by kernel_rfl)
        have h6 : v2 6 = _ := hd 6 (by kernel_rfl)
        refine ⟨(fun j b h => nomatch h), ?_⟩
        exact yields_slice (v := .slice (some ⟨b, 0, none⟩) W.L.length c) rfl (by simp only [List.map_toArray, List.map_cons, List.map_nil, ev_ne, ev_eq, ev_const, put_size, hN9, ne_eq, Nat.reduceEqDiff, not_false_eq_true, Nat.reduceLT, e0, e1, h5]) (by simp only [List.map_toArray, List.map_cons, List.map_nil, ev_ne, ev_eq, ev_const, put_size, hN9, ne_eq, Nat.reduceEqDiff, not_false_eq_true, Nat.reduceLT, e0, e1, h6, Option.map_some, Option.map_none]; exact sliceL_to b W.L.length c j HKC.out.2.1 w7) rfl
      · intro v2 w7 hr ho hd
        obtain ⟨B0, d0, hs, hown⟩ : OwnPL 36 w2.heap.size [] (v2 1) w7 := hd 1 (by kernel_rfl)
        have hxx : v2 7 = _ := hd 7 (by kernel_rfl)
        refine ⟨(fun j b h => nomatch h), ?_⟩
        have hM : graph.Lg 3 cL w7 (some ⟨b, 0, none⟩) (W.L.take j) := by simpa using lg_sub cellsL (HRW.out w7 hr) 0 (W.L.take j) (fun i y hy => by rw [List.getElem?_take] at hy; split at hy; (· rw [Nat.zero_add]; exact hy); (· cases hy))
        refine .inl (yields_append_row (T := 36) cellsL (by decide) (.tmp 17) (.tmp 23) 45 rfl w2.heap.size i0 (.agg #[.int .i64 0, .int .i64 0, sV []]) 32 Try.underlying45 hi0 hz0 hz1 hz2 rfl (A := some ⟨b, 0, none⟩) (c := c) (N := []) (M := (W.L.take j)) (by simp only [List.map_toArray, List.map_cons, List.map_nil, ev_ne, ev_eq, ev_const, put_size, hN9, ne_eq, Nat.reduceEqDiff, not_false_eq_true, Nat.reduceLT, e0, e1, hs]) (by simp only [List.map_toArray, List.map_cons, List.map_nil, ev_ne, ev_eq, ev_const, put_size, hN9, ne_eq, Nat.reduceEqDiff, not_false_eq_true, Nat.reduceLT, e0, e1, hxx, HKC.out.2.2.1]) hown hM (by have := HKC.out; unfold maxLen; simp; omega) (by have := HKC.out; simp; omega) hr.size ?_)
        intro B8 cap8 w8 hown8 hgrow hat
        have hne : ∀ k, (Value.slice B0 ([] : List Lt).length d0).ownBlock = some k → w2.heap.size ≤ k := fun k e => OwnG.above hown e
        have hgz : some g ≠ (Value.slice B0 ([] : List Lt).length d0).ownBlock := fun e => by have := hne g e.symm; have := HCL.out.inside; omega
        refine ⟨hr.grown hgrow (fun j e => .inr (hne j e)), ?_, ?_, B8, cap8, rfl, by rw [List.nil_append] at hown8; exact hown8⟩
        · intro k2 v' hk2 hc hu
          exact match k2, hk2, hc, hu with
            | 0, _, _, hu => hu
            | 1, _, hc, _ => absurd hc (by decide)
            | 2, _, _, hu => hu
            | 3, _, _, hu => hu
            | 4, _, _, hu => hu
            | 5, _, _, hu => hu
            | 6, _, _, hu => hu
            | 7, _, _, hu => hu
            | 8, hk2, _, _ => absurd rfl hk2
            | 9, _, _, hu => hu
            | 10, _, _, hu => hu
            | 11, _, _, hu => hu
            | 12, _, _, hu => hu
            | 13, _, _, hu => hu
            | 14, _, _, hu => hu
            | 15, _, _, hu => hu
            | 16, _, hc, _ => absurd hc (by decide)
            | 17, _, _, hu => hu
            | 18, _, _, hu => hu
            | 19, _, hc, _ => absurd hc (by decide)
            | _ + 20, _, _, _ => trivial
        · intro k2 hk2 hn hc2 ⟨h1, u, hu⟩
          exact ⟨fun e => (h1 e).grown hgrow hgz, u, hu.grown hgrow hgz⟩
      · intro v2 w7 hr hd
        refine ⟨(fun j b h => nomatch h), ?_⟩
        refine yields_run (u := .pointer (some ⟨g, 0, none⟩)) (w' := w7) ?_ (Below.refl _ _) rfl
        unfold execOp
        (try simp only [List.map_toArray, List.map_cons, List.map_nil, ev_ne, ev_eq, ev_const, put_size, hN9, ne_eq, Nat.reduceEqDiff, not_false_eq_true, Nat.reduceLT, e0, e1])
        (try simp [go_sem])
      · intro v2 w7 hr hd
        have h9 : v2 9 = .pointer (some ⟨g, 0, none⟩) := hd 9 (by kernel_rfl)
        refine ⟨(fun j b h => nomatch h), ?_⟩
        refine yields_run (u := .pointer (some ⟨g, 0, none⟩)) (w' := w7) ?_ (Below.refl _ _) rfl
        unfold execOp
        (try simp only [List.map_toArray, List.map_cons, List.map_nil, ev_ne, ev_eq, ev_const, put_size, hN9, ne_eq, Nat.reduceEqDiff, not_false_eq_true, Nat.reduceLT, e0, e1, h9])
        (try simp [go_sem])
      · intro v2 w7 hr hd
        have h10 : v2 10 = .pointer (some ⟨g, 0, none⟩) := hd 10 (by kernel_rfl)
        refine ⟨(fun j b h => nomatch h), ?_⟩
        refine yields_run (u := .pointer (some ⟨g, 1, none⟩)) (w' := w7) ?_ (Below.refl _ _) rfl
        unfold execOp
        (try simp only [List.map_toArray, List.map_cons, List.map_nil, ev_ne, ev_eq, ev_const, put_size, hN9, ne_eq, Nat.reduceEqDiff, not_false_eq_true, Nat.reduceLT, e0, e1, h10])
        (try simp [go_sem])
      · intro v2 w7 hr ho hd
        have h11 : v2 11 = .pointer (some ⟨g, 1, none⟩) := hd 11 (by kernel_rfl)
        refine ⟨(fun j b h => nomatch h), ?_⟩
        have hc : w7.cell? ⟨g, 1, none⟩ = some (.slice (some ⟨b, 0, none⟩) W.L.length c) := (ho.1 (by simp)).read 1
        have hf : w7.frozen? ⟨g, 1, none⟩ = false := (ho.1 (by simp)).soft 1
        refine .inl (.inl ⟨.slice (some ⟨b, 0, none⟩) W.L.length c, w7, ?_, hr, fun _ _ _ _ hu => hu, fun _ _ _ _ hu => hu, rfl⟩)
        unfold execOp
        (try simp only [List.map_toArray, List.map_cons, List.map_nil, ev_ne, ev_eq, ev_const, put_size, hN9, ne_eq, Nat.reduceEqDiff, not_false_eq_true, Nat.reduceLT, e0, e1, h11])
        (try simp [go_sem, hc, hf])
      · intro v2 w7 hr hd
        refine ⟨(fun j b h => nomatch h), ?_⟩
        refine yields_run (u := .int .i64 (j : Int)) (w' := w7) ?_ (Below.refl _ _) rfl
        unfold execOp
        (try simp only [List.map_toArray, List.map_cons, List.map_nil, ev_ne, ev_eq, ev_const, put_size, hN9, ne_eq, Nat.reduceEqDiff, not_false_eq_true, Nat.reduceLT, e0, e1])
        (try simp [go_sem])
      · intro v2 w7 hr hd
        have h13 : v2 13 = .int .i64 (j : Int) := hd 13 (by kernel_rfl)
        have hw : IntKind.i64.wrap ((j : Int) + 1) = (j : Int) + 1 := by have := HKC.out; rw [IntKind.wrap_i64]; omega
        refine ⟨(fun j b h => nomatch h), ?_⟩
        refine yields_run (u := .int .i64 ((j + 1 : Nat) : Int)) (w' := w7) ?_ (Below.refl _ _) rfl
        unfold execOp
        (try simp only [List.map_toArray, List.map_cons, List.map_nil, ev_ne, ev_eq, ev_const, put_size, hN9, ne_eq, Nat.reduceEqDiff, not_false_eq_true, Nat.reduceLT, e0, e1, h13])
        (try simp [go_sem, hw])
      · intro v2 w7 hr hd
        have h12 : v2 12 = _ := hd 12 (by kernel_rfl)
        have h14 : v2 14 = _ := hd 14 (by kernel_rfl)
        refine ⟨(fun j b h => nomatch h), ?_⟩
        exact yields_slice (v := .slice (some ⟨b, 0, none⟩) W.L.length c) rfl (by simp only [List.map_toArray, List.map_cons, List.map_nil, ev_ne, ev_eq, ev_const, put_size, hN9, ne_eq, Nat.reduceEqDiff, not_false_eq_true, Nat.reduceLT, e0, e1, h12]) (by simp only [List.map_toArray, List.map_cons, List.map_nil, ev_ne, ev_eq, ev_const, put_size, hN9, ne_eq, Nat.reduceEqDiff, not_false_eq_true, Nat.reduceLT, e0, e1, h14, Option.map_some, Option.map_none]; exact sliceL_from b W.L.length c (j + 1) HKC.out.1 HKC.out.2.2.2.2 w7) rfl
      · intro v2 w7 hr ho hd
        obtain ⟨B0, d0, hs, hown⟩ : OwnPL 36 w2.heap.size (W.L.take j) (v2 8) w7 := hd 8 (by kernel_rfl)
        have hxx : v2 15 = _ := hd 15 (by kernel_rfl)
        refine ⟨(fun j b h => nomatch h), ?_⟩
        have hM : graph.Lg 3 cL w7 (if c = j + 1 then some ⟨b, 0, none⟩ else some ⟨b, (j + 1) * 3, none⟩) (W.L.drop (j + 1)) := by
          split
          · rename_i hc
            have := HKC.out
            rw [List.drop_of_length_le (by omega)]
            exact .inl rfl
          · exact lg_sub cellsL (HRW.out w7 hr) (j + 1) (W.L.drop (j + 1)) (fun i y hy => by rwa [List.getElem?_drop] at hy)
        refine .inl (yields_append_row (T := 36) cellsL (by decide) (.tmp 24) (.tmp 31) 45 rfl w2.heap.size i0 (.agg #[.int .i64 0, .int .i64 0, sV []]) 32 Try.underlying45 hi0 hz0 hz1 hz2 rfl (A := if c = j + 1 then some ⟨b, 0, none⟩ else some ⟨b, (j + 1) * 3, none⟩) (c := c - (j + 1)) (N := (W.L.take j)) (M := (W.L.drop (j + 1))) (by simp only [List.map_toArray, List.map_cons, List.map_nil, ev_ne, ev_eq, ev_const, put_size, hN9, ne_eq, Nat.reduceEqDiff, not_false_eq_true, Nat.reduceLT, e0, e1, hs]) (by simp only [List.map_toArray, List.map_cons, List.map_nil, ev_ne, ev_eq, ev_const, put_size, hN9, ne_eq, Nat.reduceEqDiff, not_false_eq_true, Nat.reduceLT, e0, e1, hxx, List.length_drop]) hown hM (by have := HKC.out; unfold maxLen; simp; omega) (by have := HKC.out; simp; omega) hr.size ?_)
        intro B8 cap8 w8 hown8 hgrow hat
        have hne : ∀ k, (Value.slice B0 ((W.L.take j) : List Lt).length d0).ownBlock = some k → w2.heap.size ≤ k := fun k e => OwnG.above hown e
        have hgz : some g ≠ (Value.slice B0 ((W.L.take j) : List Lt).length d0).ownBlock := fun e => by have := hne g e.symm; have := HCL.out.inside; omega
        refine ⟨hr.grown hgrow (fun j e => .inr (hne j e)), ?_, ?_, B8, cap8, rfl, hown8⟩
        · intro k2 v' hk2 hc hu
          exact match k2, hk2, hc, hu with
            | 0, _, _, hu => hu
            | 1, _, hc, _ => absurd hc (by decide)
            | 2, _, _, hu => hu
            | 3, _, _, hu => hu
            | 4, _, _, hu => hu
            | 5, _, _, hu => hu
            | 6, _, _, hu => hu
            | 7, _, _, hu => hu
            | 8, _, hc, _ => absurd hc (by decide)
            | 9, _, _, hu => hu
            | 10, _, _, hu => hu
            | 11, _, _, hu => hu
            | 12, _, _, hu => hu
            | 13, _, _, hu => hu
            | 14, _, _, hu => hu
            | 15, _, _, hu => hu
            | 16, hk2, _, _ => absurd rfl hk2
            | 17, _, _, hu => hu
            | 18, _, _, hu => hu
            | 19, _, hc, _ => absurd hc (by decide)
            | _ + 20, _, _, _ => trivial
        · intro k2 hk2 hn hc2 ⟨h1, u, hu⟩
          exact ⟨fun e => (h1 e).grown hgrow hgz, u, hu.grown hgrow hgz⟩
      · intro v2 w7 hr hd
        have h0 : v2 0 = .pointer (some ⟨g, 0, none⟩) := hd 0 (by kernel_rfl)
        refine ⟨(fun j b h => nomatch h), ?_⟩
        refine yields_run (u := .pointer (some ⟨g, 0, none⟩)) (w' := w7) ?_ (Below.refl _ _) rfl
        unfold execOp
        (try simp only [List.map_toArray, List.map_cons, List.map_nil, ev_ne, ev_eq, ev_const, put_size, hN9, ne_eq, Nat.reduceEqDiff, not_false_eq_true, Nat.reduceLT, e0, e1, h0])
        (try simp [go_sem])
      · intro v2 w7 hr hd
        have h17 : v2 17 = .pointer (some ⟨g, 0, none⟩) := hd 17 (by kernel_rfl)
        refine ⟨(fun j b h => nomatch h), ?_⟩
        refine yields_run (u := .pointer (some ⟨g, 1, none⟩)) (w' := w7) ?_ (Below.refl _ _) rfl
        unfold execOp
        (try simp only [List.map_toArray, List.map_cons, List.map_nil, ev_ne, ev_eq, ev_const, put_size, hN9, ne_eq, Nat.reduceEqDiff, not_false_eq_true, Nat.reduceLT, e0, e1, h17])
        (try simp [go_sem])
      · intro v2 w7 hr ho hd
        have h18 : v2 18 = .pointer (some ⟨g, 1, none⟩) := hd 18 (by kernel_rfl)
        obtain ⟨B6, d6, h16, hown⟩ : OwnPL 36 w2.heap.size (W.L.take j ++ W.L.drop (j + 1)) (v2 16) w7 := hd 16 (by kernel_rfl)
        refine ⟨(fun j b h => nomatch h), ?_⟩
        obtain ⟨uq, hu0⟩ := ho.2
        have hc : w7.cell? ⟨g, 1, none⟩ = some uq := hu0.read 1
        have hf : w7.frozen? ⟨g, 1, none⟩ = false := hu0.soft 1
        have hg : w7.grownBy (w7.setCell ⟨g, 1, none⟩ (.slice B6 (W.L.take j ++ W.L.drop (j + 1)).length d6)) (some g) := only_store (only_of_below (Below.refl _ w7) (some g)) _
        have hno := rowS_ne hown hu0 (show 36 ≠ 49 by decide)
        have hst := hu0.store 1 (.slice B6 (W.L.take j ++ W.L.drop (j + 1)).length d6)
        rw [wanC_row] at hst
        refine .inr ⟨w7.setCell ⟨g, 1, none⟩ (.slice B6 (W.L.take j ++ W.L.drop (j + 1)).length d6), ?_, hr.grown hg (fun q e => .inl (Option.some.inj e).symm), ?_, ?_, B6, d6, hst, hown.past hg (fun k e => by cases e; exact hno)⟩
        · unfold execOp
          (try simp only [List.map_toArray, List.map_cons, List.map_nil, ev_ne, ev_eq, ev_const, put_size, hN9, ne_eq, Nat.reduceEqDiff, not_false_eq_true, Nat.reduceLT, e0, e1, h18, h16])
          (try simp [go_sem, hc, hf])
        · intro k2 v' hk2 hc2 hu
          exact match k2, hk2, hc2, hu with
            | 0, _, _, hu => hu
            | 1, _, hc2, _ => absurd hc2 (by decide)
            | 2, _, _, hu => hu
            | 3, _, _, hu => hu
            | 4, _, _, hu => hu
            | 5, _, _, hu => hu
            | 6, _, _, hu => hu
            | 7, _, _, hu => hu
            | 8, _, hc2, _ => absurd hc2 (by decide)
            | 9, _, _, hu => hu
            | 10, _, _, hu => hu
            | 11, _, _, hu => hu
            | 12, _, _, hu => hu
            | 13, _, _, hu => hu
            | 14, _, _, hu => hu
            | 15, _, _, hu => hu
            | 16, _, hc2, _ => absurd hc2 (by decide)
            | 17, _, _, hu => hu
            | 18, _, _, hu => hu
            | 19, hk2, _, _ => absurd rfl hk2
            | _ + 20, _, _, _ => trivial
        · intro k2 hk2 hn hc2 ⟨h1, u, hu⟩
          refine ⟨fun e => ?_, _, hst⟩
          rcases e with rfl | rfl
          · exact absurd hc2 (by decide)
          · exact absurd hc2 (by decide)
      · intro v2 w7 hr hv
        obtain ⟨B6, d6, hX, hO⟩ : FinL 49 36 g w2.heap.size W (W.L.take j ++ W.L.drop (j + 1)) (v2 19) w7 := hv 19 (by decide) (by decide)
        have X7 := Lib.hid hX
        have O7 := Lib.hid hO
        have R7 := Lib.hid hr
        have hf := hfin v2
        rw [HA9.out] at hf
        simp [lexPut, Act.put] at hf
        rw [hf]
        clear hf HA9 hN9 e0 e1 hv hfin hr hX hO
        have Z7 : Hid (Whole w7 g0 36 zL) := Lib.hid ((R7.out.block g0 Z2.out.inside HN.out.1).trans Z2.out)
        have L7 : Hid (Whole w7 g2 36 (cL l).toArray) := Lib.hid ((R7.out.block g2 R2.out.inside HN.out.2.1).trans R2.out)
        have W7 := Lib.hid (W2.out.trans (WB.laid H2.out.cell H2.out.row HBZ.out H2.out.low (R7.out.mono fun k _ e => .inl e)))
        go_wp2_with (first
          | (refine get rfl 36 (.tmp 6) rfl rfl L7.out Try.underlying36 rfl infoR3 ?_)
          | (refine put rfl 36 (.tmp 4) _ rfl (g := g0) rfl rfl Z7.out (by kernel_rfl) rfl (by simp [Value.oneCell', cL]) (Below.refl (B := w.heap.size) w7) (by rw [HG0.out]; exact Nat.le_refl _) ?_; intro w9 hR9 hB9 hs9 ho9))
        refine bodyPost_ret (two_letter Try.results12 rfl rfl (e := l) hR9 Try.underlying36 infoR3) rfl ⟨rfl, ⟨B6, d6, ⟨ho9 X7.out HN.out.1.symm, OwnG.low (OwnG.boxed O7.out HN.out.2.2 ho9) HBZ.out, H2.out.low⟩⟩, W7.out.after hB9 HBw.out⟩
  · have hv := HVV.out
    rw [if_pos h0] at hv
    have hv := hv.symm
    subst hv
    have h01 : (ae == 0) = false := by simpa using h0
    clear h0 HVV HIn
    go_wp2_with (first
      | (refine get rfl 36 (.tmp 6) rfl rfl R2.out Try.underlying36 rfl infoR3 ?_)
      | (refine put rfl 36 (.tmp 4) _ rfl (g := g0) rfl rfl Z2.out (by kernel_rfl) rfl (by simp [Value.oneCell', cL]) (Below.refl (B := w.heap.size) w2) (by rw [HG0.out]; exact Nat.le_refl _) ?_; intro w9 hR9 hB9 hs9 ho9))
    refine bodyPost_ret (two_letter Try.results12 rfl rfl (e := l) hR9 Try.underlying36 infoR3) rfl ⟨rfl, ?_, ?_⟩
    · exact ⟨_, _, H2.out.keep (hB9.block _ HGJ.out) fun b e => hB9.block _ (HAI.out b e)⟩
    · exact W2.out.after hB9 HBw.out
end
end Go.Proofs.Ytbomlapmoiamgaa.wan
