/-
  The document's Cut (by gen_xc.py).
-/
import Derived.Test.YtbomlapmoiamgaaXw2
import Derived.LoopTactic
import Derived.Maps.AppendAt
set_option linter.unusedSimpArgs false
set_option linter.unusedVariables false
namespace Go.Proofs.Ytbomlapmoiamgaa.wan
open Go.ChangeShapes Go.WideShapes Go.ChangeAt Go.RowKit
open Go.Proofs.Ytbomlapmoiamgaa.opened Go.Proofs.Ytbomlapmoiamgaa.block Go.Proofs.Ytbomlapmoiamgaa.words Go.Proofs.Ytbomlapmoiamgaa.region
theorem WB.grown {tw tl : TypeId} {B : Nat} {w w1 w2 : World} (h : WB tw tl B w w1) {row : Option Nat} (hg : w1.grownBy w2 row) (hB : B ≤ w.heap.size) (hr : ∀ k, row = some k → w.heap.size ≤ k) : WB tw tl B w w2 :=
  ⟨h.below.grown hg (Nat.le_trans hB h.below.size) (fun k e => Nat.le_trans hB (hr k e)), fun k o ho hn => by
    have hk := (Array.getElem?_eq_some_iff.1 ho).1
    have h1 := h.keep k o ho hn
    rw [hg.block k (Array.getElem?_eq_some_iff.1 h1).1 (fun e => by have := hr k e.symm; omega)]
    exact h1⟩
theorem WanE.aside {tw tl : TypeId} {B g z : Nat} {W : Wn} {A : Option Addr} {c : Nat} {w w' : World} (h : WanE tw tl B w g W A c) {row : Option Nat} (hg : w.grownBy w' row) (hr : ∀ k, row = some k → z ≤ k) (hz : g < z) (hA : ∀ b, A = some ⟨b, 0, none⟩ → b < z) : WanE tw tl B w' g W A c := by
  refine ⟨(hg.block g h.cell.inside fun e => by have := hr g e.symm; omega).trans h.cell, ⟨h.row.1, ?_⟩, h.low⟩
  rcases h.row.2 with hn | ⟨b, cap, cur, hv, hb, hh, rest⟩
  · exact .inl hn
  · refine .inr ⟨b, cap, cur, hv, hb, (hg.block b (Array.getElem?_eq_some_iff.1 hh).1 fun e => ?_).trans hh, rest⟩
    have h1 := hr b e.symm
    have h2 := hA b (by injection hv)
    omega
def notQ (o : Bool) (a b : Int) (L : List Lt) : List Lt := L.filter fun x => !(o && pL a b x)
theorem notQ_all (a b : Int) (L : List Lt) : notQ false a b L = L := by
  unfold notQ
  simp
theorem notQ_cut (a b : Int) (L : List Lt) : notQ true a b L = notP (pL a b) L := by
  unfold notQ notP
  simp
theorem notQ_keep {o : Bool} {a b : Int} {L : List Lt} {k : Nat} (hk : k < L.length) {x : Lt} (hx : L[k]? = some x) (h : (o && pL a b x) = false) : notQ o a b (L.take (k + 1)) = notQ o a b (L.take k) ++ [x] := by
  have e : L[k] = x := by rw [List.getElem?_eq_getElem hk] at hx; exact Option.some.inj hx
  unfold notQ
  rw [List.take_succ_eq_append_getElem hk, List.filter_append, e, List.filter_cons, if_pos (by rw [h]; rfl)]
  rfl
theorem notQ_drop {o : Bool} {a b : Int} {L : List Lt} {k : Nat} (hk : k < L.length) {x : Lt} (hx : L[k]? = some x) (h : (o && pL a b x) = true) : notQ o a b (L.take (k + 1)) = notQ o a b (L.take k) := by
  have e : L[k] = x := by rw [List.getElem?_eq_getElem hk] at hx; exact Option.some.inj hx
  unfold notQ
  rw [List.take_succ_eq_append_getElem hk, List.filter_append, e, List.filter_cons, if_neg (by rw [h]; decide), List.filter_nil, List.append_nil]
theorem notQ_le (o : Bool) (a b : Int) (L : List Lt) (k : Nat) (hk : k ≤ L.length) : (notQ o a b (L.take k)).length ≤ k := by
  have := List.length_filter_le (fun x => !(o && pL a b x)) (L.take k)
  rw [List.length_take] at this
  unfold notQ
  omega
section
variable {B g : Nat} {W : Wn} {A : Option Addr} {c : Nat} {w : World}
/-- What stands between the rounds of Cut. -/
structure Cx (B : Nat) (w : World) (z g : Nat) (W : Wn) (A : Option Addr) (c : Nat) (o : Bool) (a b : Int) (wr : World) (k : Nat) (N : List Lt) (A9 : Option Addr) (c9 : Nat) : Prop where
  e : WanE 49 36 B wr g { W with c := W.c + (k : Int) - N.length } A c
  own : OwnG 36 3 cL wr z (.slice A9 N.length c9) N
  n : N = notQ o a b (W.L.take k)
  wb : WB 49 36 B w wr
  gz : g < z
  az : ∀ b, A = some ⟨b, 0, none⟩ → b < z
  zw : w.heap.size ≤ z
  zr : z ≤ wr.heap.size
set_option maxRecDepth 100000 in
set_option maxHeartbeats 16000000 in
theorem cutR_any (h : WanE 49 36 B w g W A c) (G : GoodW W) (hc : W.c + 96 ≤ 1000000) (a b : Int) (o : Bool) : Calls Try.prog 17 #[.pointer (some ⟨g, 0, none⟩), .int .i64 a, .int .i64 b, .bool o] w fun e w' => e = .returned (.int .i64 (cutE W a b)) ∧ WanP 49 36 B w' g (cutV W a b o) ∧ WB 49 36 B w w' := by
  have hBw : B ≤ w.heap.size := (show WanP 49 36 B w g W from ⟨A, c, h⟩).le
  have HBw := Lib.hid hBw
  have HE := Lib.hid h
  have HG := Lib.hid G
  have HC := Lib.hid hc
  have HL := Lib.hid (linkR_any h a b)
  have HEE : Hid (cutE W a b = if linkB W a b = true then 0 else 1) := Lib.hid rfl
  have HVV : Hid (cutV W a b o = if linkB W a b = true then (if o = true then loseV { W with O := W.O.set (a.toNat * 16 + b.toNat) o } a b else { W with O := W.O.set (a.toNat * 16 + b.toNat) o }) else W) := Lib.hid rfl
  generalize cutE W a b = ce at HEE ⊢
  generalize cutV W a b o = cv at HVV ⊢
  clear h G hBw hc
  cases hl : linkB W a b with
  | false =>
    rw [hl] at HL
    have he := HEE.out
    rw [hl, if_neg (by decide)] at he
    have hv := HVV.out
    rw [hl, if_neg (by decide)] at hv
    subst he hv
    clear hl HEE HVV
    go_enter Try.func17, Try.ntmps17
    go_wp2_with (go_at_call 45; (with_reducible refine HL.out.mono ?_); rintro e w1 ⟨rfl, b1⟩; have B1 := Lib.hid b1; clear b1)
    go_ret
    exact ⟨rfl, ⟨A, c, HE.out.below B1.out⟩, WB.of B1.out HBw.out⟩
  | true =>
    rw [hl] at HL
    have he := HEE.out
    rw [hl, if_pos rfl] at he
    have hv := HVV.out
    rw [hl, if_pos rfl] at hv
    subst he
    obtain ⟨a0, a1, b0, b1, hne⟩ := link_of hl
    have hn := HG.out.n1
    obtain ⟨i, rfl⟩ : ∃ i : Nat, a = i := ⟨a.toNat, by omega⟩
    obtain ⟨j, rfl⟩ : ∃ j : Nat, b = j := ⟨b.toNat, by omega⟩
    have hi : i < 16 := by omega
    have hj : j < 16 := by omega
    have HI := Lib.hid (show i * 16 + j < 256 by omega)
    simp only [Int.toNat_natCast] at hv
    have HK : Hid (∀ w1, Below w.heap.size w w1 → w1.cell? ⟨g, 2 + i * 16 + j, none⟩ = some (.bool ((W.O[i * 16 + j]?).getD false)) ∧ w1.frozen? ⟨g, 2 + i * 16 + j, none⟩ = false) := Lib.hid fun w1 hb => by
      have := wan_o (HE.out.below hb) HG.out (k := i * 16 + j) (by omega)
      rw [← Nat.add_assoc] at this
      exact ⟨this, (HE.out.below hb).cell.soft _⟩
    have HO : Hid (∀ w1, Below w.heap.size w w1 → WanE 49 36 B (w1.setCell ⟨g, 2 + i * 16 + j, none⟩ (.bool o)) g { W with O := W.O.set (i * 16 + j) o } A c ∧ WB 49 36 B w (w1.setCell ⟨g, 2 + i * 16 + j, none⟩ (.bool o))) := Lib.hid fun w1 hb => by
      have := out_put (HE.out.below hb) HG.out (by decide) (i * 16 + j) HI.out o
      rw [← Nat.add_assoc] at this
      exact ⟨this.1, (WB.of hb HBw.out).trans this.2⟩
    have HG2 : Hid (GoodW { W with O := W.O.set (i * 16 + j) o }) := Lib.hid ⟨HG.out.n0, HG.out.n1, by show (W.O.set _ _).length = 256; rw [List.length_set]; exact HG.out.o, HG.out.l, HG.out.c0, HG.out.c1⟩
    generalize (W.O[i * 16 + j]?).getD false = old at HK
    clear hl a0 a1 b0 b1 hne hn HEE HVV
    have hi2 : (i : Int) < 16 := by omega
    have hj2 : (j : Int) < 16 := by omega
    go_enter Try.func17, Try.ntmps17
    go_upto_region 4 with (go_at_call 45; (with_reducible refine HL.out.mono ?_); rintro e w1 ⟨rfl, b1⟩; have B1 := Lib.hid b1; obtain ⟨z, y⟩ := HK.out w1 b1; clear b1)
    change Code.wp _ _ _ _ (w1.setCell ⟨g, 2 + i * 16 + j, none⟩ (.bool o))
    have hx := HO.out _ B1.out
    have X1 := Lib.hid hx.1
    have X2 := Lib.hid hx.2
    clear hx z y HO HK HL
    generalize w1.setCell ⟨g, 2 + i * 16 + j, none⟩ (.bool o) = w2 at X1 X2 ⊢
    obtain ⟨V, hV⟩ : ∃ V : Wn, V = { W with O := W.O.set (i * 16 + j) o } := ⟨_, rfl⟩
    have hVL : V.L = W.L := by rw [hV]
    have hVc : V.c = W.c := by rw [hV]
    rw [← hV] at X1 HG2 hv
    have HCV : Hid (V.c + 96 ≤ 1000000) := Lib.hid (by rw [hVc]; exact HC.out)
    have hv2 : cv = { V with L := notQ o i j V.L, c := V.c + ((V.L.length : Int) - (notQ o i j V.L).length) } := by
      rw [hv]
      cases o with
      | true =>
        rw [if_pos rfl, notQ_cut]
        have hfl : (notP (pL i j) V.L).length ≤ V.L.length := List.length_filter_le _ _
        unfold loseV lostN
        congr 1
        omega
      | false =>
        rw [if_neg (by decide), notQ_all]
        cases V
        simp
    subst hv2
    clear hv hV hVL hVc HE HG HC HI
    obtain ⟨zz, hzz⟩ : ∃ zz, zz = w2.heap.size := ⟨_, rfl⟩
    have CX0 : Hid (Cx B w zz g V A c o i j w2 0 [] none 0) := Lib.hid (by
      subst hzz
      refine ⟨?_, ownG_nil _ _, by simp [notQ], X2.out, X1.out.cell.inside, fun b e => ?_, X2.out.below.size, Nat.le_refl _⟩
      · have : ({ V with c := V.c + ((0 : Nat) : Int) - (([] : List Lt).length : Nat) } : Wn) = V := by cases V; simp
        rw [this]
        exact X1.out
      · subst e
        obtain ⟨cur, hc⟩ := OwnG.shapeT X1.out.row (k := b) rfl
        exact (Array.getElem?_eq_some_iff.1 hc).1)
    clear hzz X1 X2
    have hl96 := HG2.out.l
    have hc0 := HG2.out.c0
    have hc9 := HCV.out
    go_upto_block 0 with fail
    go_wp2_with fail
    go_loopw [9, 10] (fun s9 s10 wr => ∃ (k : Nat) (N : List Lt) (A9 : Option Addr) (c9 : Nat), k ≤ V.L.length ∧ s10 = .int .i64 (k : Int) ∧ s9 = .slice A9 N.length c9 ∧ Hid (Cx B w zz g V A c o i j wr k N A9 c9)) (fun _ s10 _ => V.L.length - (intOf s10).toNat)
    case atStart => exact ⟨0, [], none, 0, Nat.zero_le _, rfl, rfl, CX0⟩
    case round =>
      obtain ⟨k, N, A9, c9, hk, rfl, rfl, HX⟩ := hrel
      clear CX0
      have y0 : wr.cell? ⟨g, 1, none⟩ = some (.slice A V.L.length c) := wan_l (W := { V with c := V.c + (k : Int) - N.length }) HX.out.e
      have y1 : wr.frozen? ⟨g, 1, none⟩ = false := HX.out.e.cell.soft 1
      have hNk : N.length ≤ k := by rw [HX.out.n]; exact notQ_le _ _ _ _ _ hk
      by_cases h1 : k < V.L.length
      · have h1i : (k : Int) < (V.L.length : Int) := by omega
        have hki : (k : Int) ≤ 96 := by omega
        have hli : (V.L.length : Int) ≤ 96 := by omega
        obtain ⟨b, rfl⟩ := own_someL HX.out.e.row (by show 0 < V.L.length; omega)
        obtain ⟨x, hx⟩ : ∃ x, V.L[k]? = some x := ⟨_, List.getElem?_eq_getElem h1⟩
        have hcc : ∀ q, q < 3 → wr.cell? ⟨b, k * 3 + q, none⟩ = (cL x)[q]? ∧ wr.frozen? ⟨b, k * 3 + q, none⟩ = false := by
          have hrw : OwnG 36 3 cL wr B (.slice (some ⟨b, 0, none⟩) V.L.length c) V.L := HX.out.e.row
          rcases hrw.2 with ⟨hv, -⟩ | ⟨b', cap, cur, hv, hb, hg, hc, hcm, hs, ht⟩
          · cases hv
          · injection hv with h1' h2' h3'
            injection h1' with h1'
            injection h1' with h1'
            subst h1'
            intro q hq
            have e := flatG_at cellsL V.L k x q hx hq
            have hlt : k * 3 + q < V.L.length * 3 := by omega
            rw [← ht, List.getElem?_take, if_pos hlt, Array.getElem?_toList] at e
            rw [← e]
            exact ⟨by simp [World.cell?, hg], by simp [World.frozen?, hg]⟩
        have z0 : wr.cell? ⟨b, k * 3, none⟩ = some (.int .i64 x.f) := (hcc 0 (by omega)).1
        have z1 : wr.cell? ⟨b, k * 3 + 1, none⟩ = some (.int .i64 x.t) := (hcc 1 (by omega)).1
        have z2 : wr.cell? ⟨b, k * 3 + 2, none⟩ = some (sV x.s) := (hcc 2 (by omega)).1
        have z3 : wr.frozen? ⟨b, k * 3, none⟩ = false := (hcc 0 (by omega)).2
        have z4 : wr.frozen? ⟨b, k * 3 + 1, none⟩ = false := (hcc 1 (by omega)).2
        have HKK := Lib.hid (show k ≤ 96 ∧ N.length ≤ k ∧ V.L.length ≤ 96 from ⟨by omega, hNk, hl96⟩)
        have m0 : wr.cell? ⟨g, 258, none⟩ = some (.int .i64 (V.c + (k : Int) - N.length)) := wan_c (W := { V with c := V.c + (k : Int) - N.length }) HX.out.e ⟨HG2.out.n0, HG2.out.n1, HG2.out.o, HG2.out.l, by show 0 ≤ V.c + (k : Int) - N.length; omega, by show V.c + (k : Int) - N.length ≤ 1000000; omega⟩
        have m1 : wr.frozen? ⟨g, 258, none⟩ = false := HX.out.e.cell.soft 258
        have HGV : Hid (GoodW { V with c := V.c + (k : Int) - N.length }) := Lib.hid ⟨HG2.out.n0, HG2.out.n1, HG2.out.o, HG2.out.l, by show 0 ≤ V.c + (k : Int) - N.length; omega, by show V.c + (k : Int) - N.length ≤ 1000000; omega⟩
        obtain ⟨cc, hcc2⟩ : ∃ cc, cc = V.c + (k : Int) - N.length := ⟨_, rfl⟩
        have hcc3 : 0 ≤ cc := by omega
        have hcc4 : cc ≤ 1000000 - 1 := by omega
        have HCC := Lib.hid hcc2
        rw [← hcc2] at m0
        have HXX := Lib.hid (show V.L[k]? = some x ∧ k < V.L.length from ⟨hx, h1⟩)
        clear hcc hcc2 hNk hx
        by_cases hp : (o && pL i j x) = true
        · have HN := Lib.hid (notQ_drop HXX.out.2 HXX.out.1 hp)
          have ho : o = true := by revert hp; cases o <;> simp
          have hp2 : pL i j x = true := by revert hp; cases o <;> simp
          have hxf : x.f = i := by unfold pL at hp2; simp at hp2; exact hp2.1
          have hxt : x.t = j := by unfold pL at hp2; simp at hp2; exact hp2.2
          have HP := Lib.hid (lost_put HX.out.e HGV.out (by decide) (cc + 1))
          rw [hxf] at z0
          rw [hxt] at z1
          subst ho
          clear hp hp2 hxf hxt
          go_upto_region 7 with fail
          change Code.wp _ _ _ _ (wr.setCell ⟨g, 258, none⟩ (.int .i64 (cc + 1)))
          have CX9 : Hid (Cx B w zz g V (some ⟨b, 0, none⟩) c true i j (wr.setCell ⟨g, 258, none⟩ (.int .i64 (cc + 1))) (k + 1) N A9 c9) := Lib.hid (by
            have hg2 : wr.grownBy (wr.setCell ⟨g, 258, none⟩ (.int .i64 (cc + 1))) (some g) := only_store (only_of_below (Below.refl _ wr) (some g)) _
            refine ⟨?_, HX.out.own.keptG hg2 HX.out.gz, by rw [HN.out]; exact HX.out.n, HX.out.wb.trans HP.out.2, HX.out.gz, HX.out.az, HX.out.zw, Nat.le_trans HX.out.zr hg2.size⟩
            have := HP.out.1
            have e : ({ V with c := V.c + ((k + 1 : Nat) : Int) - N.length } : Wn) = { { V with c := V.c + (k : Int) - N.length } with c := cc + 1 } := by
              have := HCC.out
              simp
              omega
            rw [e]
            exact this)
          clear HX m0 m1 HP y0 y1 z0 z1 z2 z3 z4
          generalize wr.setCell ⟨g, 258, none⟩ (.int .i64 (cc + 1)) = w5 at CX9 ⊢
          go_wp2_with fail
          go_roundw
          case rel => exact ⟨k + 1, N, A9, c9, by omega, by go_num, rfl, CX9⟩
          case measure => simp [intOf]; omega
        · have hp' : (o && pL i j x) = false := by simpa using hp
          have HN := Lib.hid (notQ_keep HXX.out.2 HXX.out.1 hp')
          obtain ⟨i0, hi0, hz0, hz1, hz2⟩ := infoR
          have HOW : Hid (OwnG 36 3 cL (wr.alloc (.cells (cL x).toArray 36)) zz (.slice A9 N.length c9) N) := Lib.hid (HX.out.own.below (fresh1 wr _))
          have HZW : Hid (zz ≤ (wr.alloc (.cells (cL x).toArray 36)).heap.size) := Lib.hid (Nat.le_trans HX.out.zr (fresh1 wr _).size)
          have HFX : Hid (∀ w9 g9 cap9, OwnG 36 3 cL w9 zz (.slice (some ⟨g9, 0, none⟩) (N.length + 1) cap9) (N ++ [x]) → (wr.alloc (.cells (cL x).toArray 36)).grownBy w9 (Value.slice A9 N.length c9).ownBlock → Cx B w zz g V (some ⟨b, 0, none⟩) c o i j w9 (k + 1) (N ++ [x]) (some ⟨g9, 0, none⟩) cap9) := Lib.hid fun w9 g9 cap9 ho hg => by
            have hE := HX.out.e.below (fresh1 wr (.cells (cL x).toArray 36))
            have hz9 : ∀ k, (Value.slice A9 N.length c9).ownBlock = some k → zz ≤ k := fun k e => OwnG.above HOW.out e
            have hlen : (N ++ [x]).length = N.length + 1 := by simp
            refine ⟨?_, by rw [hlen]; exact ho, by rw [HN.out, ← HX.out.n], (HX.out.wb.trans (WB.of (fresh1 wr _) (show WanP 49 36 B wr g _ from ⟨_, _, HX.out.e⟩).le)).grown hg HBw.out (fun k e => Nat.le_trans HX.out.zw (hz9 k e)), HX.out.gz, HX.out.az, HX.out.zw, Nat.le_trans HZW.out hg.size⟩
            have e : ({ V with c := V.c + ((k + 1 : Nat) : Int) - (N ++ [x]).length } : Wn) = { V with c := V.c + (k : Int) - N.length } := by
              rw [hlen]
              simp
              omega
            rw [e]
            exact hE.aside hg hz9 HX.out.gz HX.out.az
          have hHn : N.length ≤ 96 := by have := HKK.out; omega
          cases o with
          | false =>
            clear hp hp'
            go_wp2_with (at_builtin; refine wpList_append_own_at _ rfl _ _ 45 rfl zz 36 i0 (.agg #[.int .i64 0, .int .i64 0, sV []]) 3 32 Try.underlying45 hi0 hz0 hz1 hz2 rfl (by decide) (.slice A9 N.length c9) N.length (N.flatMap cL) (by first | (rw [ev_ne (by decide)]; rfl) | (rw [ev_ne (by decide), ev_ne (by decide)]; rfl) | rfl | simp [Act.eval]) HOW.out ⟨wr.heap.size, 0, none⟩ 1 1 (cL x) (by first | rfl | exact ev_eq (by show 73 < 79; decide) | simp [Act.eval]) rfl (whole_cells (Whole.fresh wr 36 _)) (cellsL.one _) (by unfold maxLen; omega) (by omega) HZW.out ?_; intro v' w9 hown hgrow _ hblk; obtain ⟨g9, cap9, rfl⟩ := OwnG.succ hown; have C9 := Lib.hid (HFX.out w9 g9 cap9 (by unfold OwnG; simpa using hown) hgrow); clear hown hgrow hblk)
            go_roundw
            case rel => exact ⟨k + 1, N ++ [x], some ⟨g9, 0, none⟩, cap9, by omega, by go_num, by rw [List.length_append]; rfl, C9⟩
            case measure => simp [intOf]; omega
          | true =>
            have hp2 : pL i j x = false := by simpa using hp'
            by_cases hxf : x.f = i
            · have hxt : ¬ x.t = j := fun e => by simp [pL, hxf, e] at hp2
              clear hp hp' hp2
              rcases x with ⟨xf, xt, xs⟩
              have hxf : xf = i := hxf
              have hxt : ¬ xt = (j : Int) := hxt
              subst hxf
              dsimp only at z0 z1 z2
              go_wp2_with (at_builtin; refine wpList_append_own_at _ rfl _ _ 45 rfl zz 36 i0 (.agg #[.int .i64 0, .int .i64 0, sV []]) 3 32 Try.underlying45 hi0 hz0 hz1 hz2 rfl (by decide) (.slice A9 N.length c9) N.length (N.flatMap cL) (by first | (rw [ev_ne (by decide)]; rfl) | (rw [ev_ne (by decide), ev_ne (by decide)]; rfl) | rfl | simp [Act.eval]) HOW.out ⟨wr.heap.size, 0, none⟩ 1 1 (cL ⟨(i : Int), xt, xs⟩) (by first | rfl | exact ev_eq (by show 73 < 79; decide) | simp [Act.eval]) rfl (whole_cells (Whole.fresh wr 36 _)) (cellsL.one _) (by unfold maxLen; omega) (by omega) HZW.out ?_; intro v' w9 hown hgrow _ hblk; obtain ⟨g9, cap9, rfl⟩ := OwnG.succ hown; have C9 := Lib.hid (HFX.out w9 g9 cap9 (by unfold OwnG; simpa using hown) hgrow); clear hown hgrow hblk)
              go_roundw
              case rel => exact ⟨k + 1, N ++ [⟨(i : Int), xt, xs⟩], some ⟨g9, 0, none⟩, cap9, by omega, by go_num, by rw [List.length_append]; rfl, C9⟩
              case measure => simp [intOf]; omega
            · clear hp hp' hp2
              go_wp2_with (at_builtin; refine wpList_append_own_at _ rfl _ _ 45 rfl zz 36 i0 (.agg #[.int .i64 0, .int .i64 0, sV []]) 3 32 Try.underlying45 hi0 hz0 hz1 hz2 rfl (by decide) (.slice A9 N.length c9) N.length (N.flatMap cL) (by first | (rw [ev_ne (by decide)]; rfl) | (rw [ev_ne (by decide), ev_ne (by decide)]; rfl) | rfl | simp [Act.eval]) HOW.out ⟨wr.heap.size, 0, none⟩ 1 1 (cL x) (by first | rfl | exact ev_eq (by show 73 < 79; decide) | simp [Act.eval]) rfl (whole_cells (Whole.fresh wr 36 _)) (cellsL.one _) (by unfold maxLen; omega) (by omega) HZW.out ?_; intro v' w9 hown hgrow _ hblk; obtain ⟨g9, cap9, rfl⟩ := OwnG.succ hown; have C9 := Lib.hid (HFX.out w9 g9 cap9 (by unfold OwnG; simpa using hown) hgrow); clear hown hgrow hblk)
              go_roundw
              case rel => exact ⟨k + 1, N ++ [x], some ⟨g9, 0, none⟩, cap9, by omega, by go_num, by rw [List.length_append]; rfl, C9⟩
              case measure => simp [intOf]; omega
      · obtain rfl : k = V.L.length := by omega
        have h1i : ¬ (V.L.length : Int) < (V.L.length : Int) := by omega
        have hli : (V.L.length : Int) ≤ 96 := by omega
        have hN : N = notQ o i j V.L := by rw [HX.out.n, List.take_length]
        have hcw : Whole wr g 49 _ := HX.out.e.cell
        go_wp2_with fail
        go_ret
        have hst := hcw.store 1 (.slice A9 N.length c9)
        rw [wanC_row] at hst
        have hg : wr.grownBy (wr.setCell ⟨g, 1, none⟩ (.slice A9 N.length c9)) (some g) := only_store (only_of_below (Below.refl _ wr) (some g)) _
        have hBz : B ≤ zz := Nat.le_trans HBw.out HX.out.zw
        have hPB := (show WanP 49 36 B wr g _ from ⟨_, _, HX.out.e⟩).le
        rw [← hN]
        refine ⟨rfl, ⟨A9, c9, ⟨?_, OwnG.low (HX.out.own.keptG hg HX.out.gz) hBz, HX.out.e.low⟩⟩, HX.out.wb.trans (WB.laid HX.out.e.cell HX.out.e.row hPB HX.out.e.low (turnS_grown hg fun k e => .inl (Option.some.inj e).symm))⟩
        show Whole _ _ _ (wanC V.n (.slice A9 N.length c9) V.O (V.c + ((V.L.length : Int) - N.length)))
        rw [show V.c + ((V.L.length : Int) - N.length) = V.c + (V.L.length : Int) - N.length by omega]
        exact hst
end
end Go.Proofs.Ytbomlapmoiamgaa.wan
