/-
  The contract of chain.Read; times within their kinds, read.
-/
import Derived.Test.YtmepiogoofmbbaaGreatDoorEn
import Derived.Test.YtmepiogoofmbbaaGreatDoorGE
namespace Go.Proofs.YtmepiogoofmbbaaGreatDoor.chain
open Go.ChangeShapes Go.WideShapes Go.ChangeAt Go.RowKit Go.Shelf Go.Sort
open Go.Proofs.YtmepiogoofmbbaaGreatDoor.tm Go.Proofs.YtmepiogoofmbbaaGreatDoor.opened Go.Proofs.YtmepiogoofmbbaaGreatDoor.block Go.Proofs.YtmepiogoofmbbaaGreatDoor.stamp Go.Proofs.YtmepiogoofmbbaaGreatDoor.code

theorem stt_in (q : List UInt8 × Int) (k : Nat) : (stt q k).1.In := by
  obtain ⟨a0, a1, -⟩ := nx_bd q (m := 3) (by omega)
  obtain ⟨b0, b1, -⟩ := nx_bd (nx q 3).2 (m := 1048576) (by omega)
  obtain ⟨c0, c1, -⟩ := nx_bd (st0 q).2 (m := 1048576) (by omega)
  obtain ⟨d0, d1, -⟩ := nx_bd (st1 q).2 (m := 1048576) (by omega)
  obtain ⟨e0, e1, -⟩ := nx_bd (st2 q).2 (m := 1048576) (by omega)
  match k with
  | 0 => constructor <;> simp only [stt, st0] <;> omega
  | 1 => constructor <;> simp only [stt, st1, st0] at * <;> omega
  | 2 => constructor <;> simp only [stt, st2, st1, st0] at * <;> omega
  | _ + 3 => constructor <;> simp only [stt, st3, st2, st1, st0] at * <;> omega
theorem rdT_in (q : List UInt8 × Int) : (rdT q).In := by
  unfold rdT
  split
  · exact stt_in q _
  · constructor <;> decide
/-- So many times read. -/
def rdN (q : List UInt8 × Int) : Nat → List Tm × (List UInt8 × Int)
  | 0 => ([], q)
  | n + 1 => ((rdN q n).1 ++ [rdT (rdN q n).2], (rdS (rdN q n).2).2)
theorem rdN_len (q : List UInt8 × Int) : ∀ n, (rdN q n).1.length = n
  | 0 => rfl
  | n + 1 => by simp [rdN, rdN_len q n]
theorem rdN_in (q : List UInt8 × Int) : ∀ n, InL (rdN q n).1
  | 0 => by intro t h; simp [rdN] at h
  | n + 1 => in_snoc (rdN_in q n) (rdT_in _)
theorem rdN_left (q : List UInt8 × Int) : ∀ n, (rdN q n).2.1.length ≤ q.1.length
  | 0 => Nat.le_refl _
  | n + 1 => Nat.le_trans (stt_len _ _) (rdN_left q n)
def chN (q : List UInt8 × Int) : Nat := (nx q 64).1.toNat
def chL (q : List UInt8 × Int) : List Tm := (rdN (nx q 64).2 (chN q)).1
def chQ (q : List UInt8 × Int) : List UInt8 × Int := (rdN (nx q 64).2 (chN q)).2
theorem chL_in (q : List UInt8 × Int) : InL (chL q) := rdN_in _ _
theorem chL_len (q : List UInt8 × Int) : (chL q).length ≤ 64 := by
  have := nx_bd q (m := 64) (by omega)
  unfold chL chN
  rw [rdN_len]
  omega
/-- What is wrong behind chain.Read. -/
def chE (q : List UInt8 × Int) : Int := if (chQ q).2 = 0 then checkE (chL q) (chL_in q) else (chQ q).2
/-- What chain.Read answers. -/
def chV (q : List UInt8 × Int) : List Tm := if chE q = 0 then chL q else []
theorem grown_below {a b : World} {row : Option Nat} (h : Below a.heap.size a b) : a.grownBy b row := ⟨h.os, h.tape, h.output, h.size, fun k hk _ => h.block k hk⟩
theorem grown_own {a b c : World} {g : Nat} {row : Option Nat} (h : a.grownBy b (some g)) (k : b.grownBy c row) (hr : ∀ j, row = some j → a.heap.size ≤ j) : a.grownBy c (some g) :=
  ⟨k.os.trans h.os, k.tape.trans h.tape, k.output.trans h.output, Nat.le_trans h.size k.size, fun j hj hne => (k.block j (Nat.lt_of_lt_of_le hj h.size) (fun e => by have := hr j e.symm; omega)).trans (h.block j hj hne)⟩
theorem OwnT.keptG {w w' : World} {base g : Nat} {v : Value} {N : List Tm} (h : OwnT w base v N) (hg : w.grownBy w' (some g)) (hb : g < base) : OwnT w' base v N := by
  refine ⟨h.1, ?_⟩
  rcases h.2 with hn | ⟨g', cap, cur, hv, hg0, hh, rest⟩
  · exact .inl hn
  · exact .inr ⟨g', cap, cur, hv, hg0, (hg.block g' (Array.getElem?_eq_some_iff.1 hh).1 (fun e => by have := Option.some.inj e; omega)).trans hh, rest⟩
theorem OwnT.ge {w : World} {base : Nat} {v : Value} {N : List Tm} (h : OwnT w base v N) : ∀ j, v.ownBlock = some j → base ≤ j := by
  intro j ej
  rcases h.2 with ⟨rfl, _⟩ | ⟨g, cap, cur, rfl, hb, _, _⟩
  · simp [Value.ownBlock] at ej
  · obtain rfl : g = j := by simpa [Value.ownBlock] using ej
    exact hb
theorem Lt.grownG {w w' : World} {g : Nat} {A : Option Addr} {L : List Tm} (h : Lt w A L) (hg : w.grownBy w' (some g)) (hA : ∀ ad, A = some ad → ad.block ≠ g) : Lt w' A L := by
  rcases h with h | ⟨b, off, hA', hbl, hc⟩
  · exact .inl h
  · have hne := hA _ hA'
    refine .inr ⟨b, off, hA', Nat.lt_of_lt_of_le hbl hg.size, fun i x hx => ⟨(hc i x hx).1, fun j hj => ?_⟩⟩
    have e := World.cell?_of_block (a := (⟨b, off + (i * 5 + j), none⟩ : Addr)) (hg.block b hbl (fun e => hne (Option.some.inj e)))
    exact e.trans ((hc i x hx).2 j hj)
set_option maxRecDepth 100000 in
set_option maxHeartbeats 2000000 in
theorem chRead_any (g : Nat) (q : List UInt8 × Int) (hl : q.1.length ≤ 9223372036854775807) (w : World) (h : QA w g q) :
    Calls Tryz.prog 12 #[.pointer (some ⟨g, 0, none⟩)] w fun e W' => ∃ D c', e = .returned (.slice D (chV q).length c') ∧ Lt W' D (chV q) ∧ QA W' g ((chQ q).1, chE q) ∧ w.grownBy W' (some g) ∧ ∀ ad, D = some ad → w.heap.size ≤ ad.block := by
  obtain ⟨n0, n1, nl⟩ := nx_bd q (m := 64) (by omega)
  have ST := Lib.hid (stepA g q 64 hl (by omega) (by omega) w h)
  have hnn : (nx q 64).1 = (chN q : Int) := by unfold chN; omega
  have hn64 : chN q ≤ 64 := by unfold chN; omega
  have hlq := fun k => Nat.le_trans (rdN_left (nx q 64).2 k) nl
  rw [hnn] at ST
  have hgw := h.inside
  have CC := Lib.hid (fun D c' => check_chain D c' (chL q) (chL_in q) (by have := chL_len q; omega))
  have hLlen : (chL q).length = chN q := rdN_len _ _
  rw [hLlen] at CC
  have EV : Hid ((chQ q).2 = 0 → chE q = checkE (chL q) (chL_in q)) := Lib.hid (fun h => by unfold chE; rw [if_pos h])
  have EN : Hid ((chQ q).2 ≠ 0 → chE q = (chQ q).2) := Lib.hid (fun h => by unfold chE; rw [if_neg h])
  have VV : Hid (chV q = if chE q = 0 then chL q else []) := Lib.hid rfl
  have HLd : Hid ((rdN (nx q 64).2 (chN q)).1 = chL q) := Lib.hid rfl
  have HQd : Hid ((rdN (nx q 64).2 (chN q)).2 = chQ q) := Lib.hid rfl
  generalize (nx q 64).2 = q1 at ST hlq HLd HQd
  generalize chN q = n at ST hn64 HLd HQd CC hLlen hnn
  generalize checkE (chL q) (chL_in q) = ck at CC EV
  generalize chL q = LL at CC VV HLd hLlen
  generalize chQ q = qf at EV EN HQd ⊢
  generalize chV q = V at VV ⊢
  generalize chE q = E at EV EN VV ⊢
  obtain ⟨i0, hi0, hz0, hz1, hz2⟩ := info_parts infoT
  clear hnn n0 n1 nl h
  go_enter Tryz.func12, Tryz.ntmps12
  go_wp2_with fail
  refine ST.out.mono ?_
  rintro e w1 ⟨rfl, h1, b1⟩
  have H1 := Lib.hid h1
  have hg1 : g < w1.heap.size := h1.inside
  clear h1 ST
  go_wp2_with fail
  go_loopw [3, 7] (fun l s wr => ∃ (k : Nat) (D : Option Addr) (c' : Nat), k ≤ n ∧ l = .slice D k c' ∧ s = .int .i64 k ∧ Hid (OwnT wr w1.heap.size (.slice D k c') (rdN q1 k).1) ∧ Hid (QA wr g (rdN q1 k).2) ∧ Hid (w1.grownBy wr (some g))) (fun _ s _ => n - (intOf s).toNat)
  case atStart => exact ⟨0, none, 0, Nat.zero_le _, rfl, rfl, Lib.hid (World.ownsRow_nil _ _ _ _), H1, Lib.hid ⟨rfl, rfl, rfl, Nat.le_refl _, fun _ _ _ => rfl⟩⟩
  case round =>
    obtain ⟨k, D, c', hk, rfl, rfl, HO, HQ, HB⟩ := hrel
    rename World => W1
    by_cases hlt : k < n
    · have RA := Lib.hid (readA g (rdN q1 k).2 (Nat.le_trans (hlq k) hl) W1 HQ.out)
      have EN1 : Hid ((rdN q1 (k + 1)).1 = (rdN q1 k).1 ++ [rdT (rdN q1 k).2]) := Lib.hid rfl
      have EN2 : Hid ((rdN q1 (k + 1)).2 = (rdS (rdN q1 k).2).2) := Lib.hid rfl
      have hlen := rdN_len q1 k
      generalize rdT (rdN q1 k).2 = z at RA EN1
      go_wp2_with fail
      refine RA.out.mono ?_
      rintro e w2 ⟨rfl, h2, b2⟩
      have HQ2 := Lib.hid h2
      have HO2 := Lib.hid (HO.out.keptG b2 hg1)
      have HB2 := Lib.hid (HB.out.trans b2)
      have hs2 := HB2.out.size
      have HO3 : Hid (w2.ownsRow w1.heap.size 49 5 (.slice D k c') k ((rdN q1 k).1.flatMap cT)) := Lib.hid (by have := HO2.out; unfold OwnT at this; rwa [hlen] at this)
      have HGE := Lib.hid HO2.out.ge
      clear RA h2 b2 HO HQ HB HO2
      go_wp2_with (at_builtin; refine wpList_append_own _ rfl _ _ 22 rfl w1.heap.size 49 i0 (.agg #[.int .u32 T0.e, .int .i64 T0.d, .int .u32 T0.a, .int .u32 T0.b, .int .u32 T0.c]) 5 32 Tryz.underlying22 hi0 hz0 hz1 hz2 rfl (by decide) _ _ _ rfl (HO3.out.alloc _) ⟨_, 0, none⟩ 1 1 (cT z) rfl rfl (cells_new _ _ _) (one_cT z) (by simp [maxLen]; omega) (by omega) (by simp; omega) ?_; intro v' w5 hown' hgrow _; have HB5 := Lib.hid (grown_own (HB2.out.trans (grown_below (fresh1 w2 (.cells (#[.int .u32 z.e, .int .i64 z.d, .int .u32 z.a, .int .u32 z.b, .int .u32 z.c]) 49)))) hgrow HGE.out); have HQ5 := Lib.hid ((HQ2.out.alloc (.cells (#[.int .u32 z.e, .int .i64 z.d, .int .u32 z.a, .int .u32 z.b, .int .u32 z.c]) 49)).grown hgrow (fun e => by have := HGE.out g e.symm; omega)); obtain ⟨g', cap', rfl⟩ := ownsRow_succ hown'; have HO5 := Lib.hid hown'; clear hown' hgrow)
      go_roundw
      case rel => exact ⟨k + 1, some ⟨g', 0, none⟩, cap', by omega, rfl, by go_num, Lib.hid (by have := HO5.out; unfold OwnT; rw [EN1.out, List.length_append, List.flatMap_append, hlen]; simpa using this), by rw [EN2.out]; exact HQ5, HB5⟩
      case measure => simp [intOf]; omega
    · have hkk : k = n := by omega
      subst hkk
      rw [HLd.out] at HO
      rw [HQd.out] at HQ
      have ER := Lib.hid (errQA g qf W1 HQ.out)
      by_cases he : qf.2 = 0
      · have hE := EV.out he
        rw [he] at ER
        have HLs := Lib.hid HO.out.lies
        have HGE := Lib.hid HO.out.ge
        subst hE
        by_cases hc : E = 0
        · rw [if_pos hc] at VV
          obtain rfl : V = LL := VV.out
          subst hc
          go_wp2_with fail
          refine ER.out.mono ?_
          rintro e w2 ⟨rfl, rfl⟩
          go_wp2_with fail
          refine (CC.out _ _ _ HLs.out).mono ?_
          rintro e w3 ⟨rfl, b3⟩
          have Q3 := HQ.out.below b3 HQ.out.inside
          have L3 := HLs.out.below b3
          go_wp2_with fail
          go_ret
          exact ⟨D, c', by rw [hLlen]; rfl, L3, by rw [← he]; exact Q3, b1.trans (HB.out.trans (grown_below b3)), fun ad ea => Nat.le_trans b1.size (HGE.out ad.block (by rw [ea]; rfl))⟩
        · rw [if_neg hc] at VV
          obtain rfl : V = [] := VV.out
          go_wp2_with fail
          refine ER.out.mono ?_
          rintro e w2 ⟨rfl, rfl⟩
          go_wp2_with fail
          refine (CC.out _ _ _ HLs.out).mono ?_
          rintro e w3 ⟨rfl, b3⟩
          have Q3 := HQ.out.below b3 HQ.out.inside
          have FA := Lib.hid (failA g qf.1 qf.2 E w3 Q3)
          go_wp2_with fail
          refine FA.out.mono ?_
          rintro e w4 ⟨rfl, Q4, b4⟩
          go_wp2_with fail
          go_ret
          exact ⟨none, 0, rfl, Lt.nil _ _, by rw [he] at Q4; exact Q4, b1.trans (HB.out.trans ((grown_below b3).trans b4)), fun ad ea => by cases ea⟩
      · have hE := EN.out he
        subst hE
        rw [if_neg he] at VV
        obtain rfl : V = [] := VV.out
        go_wp2_with fail
        refine ER.out.mono ?_
        rintro e w2 ⟨rfl, rfl⟩
        go_wp2_with fail
        go_ret
        exact ⟨none, 0, rfl, Lt.nil _ _, HQ.out, b1.trans HB.out, fun ad ea => by cases ea⟩
end Go.Proofs.YtmepiogoofmbbaaGreatDoor.chain
