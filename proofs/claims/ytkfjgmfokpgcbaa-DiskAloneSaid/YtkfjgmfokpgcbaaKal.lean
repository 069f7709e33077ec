/-
  The walk of DiskAlone.
-/
import Derived.Test.YtkfjgmfokpgcbaaKpy
namespace Go.Proofs.Ytkfjgmfokpgcbaa.disk
open Go.ChangeShapes Go.WideShapes Go.ChangeAt Go.RowKit Go.Maps Go.WideMaps
open Go.Proofs.Ytkfjgmfokpgcbaa.words Go.Proofs.Ytkfjgmfokpgcbaa.opened Go.Proofs.Ytkfjgmfokpgcbaa.block

/-- The power is on, nothing is armed, and the file is as it was. -/
structure AloneI (name : Bs) (v : Option Fl) (D : Dk) : Prop where
  off : D.off = false
  left : D.left = -1
  lk : lk D.F name = v
theorem stp_free {D : Dk} (h : D.left = -1) : stpV D = D ∧ stpE D = 0 := by
  unfold stpV stpE
  rw [if_neg (by omega), if_neg (by omega), if_neg (by omega)]
  exact ⟨rfl, rfl⟩
theorem alone_app {name : Bs} {v : Option Fl} {D : Dk} (G : GoodD D) (h : AloneI name v D) (n s : Bs) (hn : n ≠ name) : AloneI name v (appV D n s) := by
  unfold appV
  rw [(stp_free h.left).1]
  split
  · exact ⟨h.off, h.left, by show lk (put _ D.F) name = v; rw [lk_put G.srt, if_neg (fun e => hn e.symm)]; exact h.lk⟩
  · split <;> exact h
theorem alone_on {name : Bs} {v : Option Fl} {D : Dk} (h : AloneI name v D) (n : Bs) : AloneI name v (onV D n) := by
  unfold onV
  rw [(stp_free h.left).1]
  split <;> exact h
theorem alone_syn {name : Bs} {v : Option Fl} {D : Dk} (G : GoodD D) (h : AloneI name v D) (n : Bs) (hn : n ≠ name) : AloneI name v (synV D n) := by
  unfold synV
  rw [(stp_free h.left).1]
  split
  · exact ⟨h.off, h.left, by show lk (put _ D.F) name = v; rw [lk_put G.srt, if_neg (fun e => hn e.symm)]; exact h.lk⟩
  · exact alone_on h n
theorem alone_rem {name : Bs} {v : Option Fl} {D : Dk} (G : GoodD D) (h : AloneI name v D) (n : Bs) (hn : n ≠ name) : AloneI name v (remV D n) := by
  unfold remV
  rw [(stp_free h.left).1]
  split
  · exact ⟨h.off, h.left, by show lk (del n D.F) name = v; rw [lk_del G.srt, if_neg (fun e => hn e.symm)]; exact h.lk⟩
  · exact alone_on h n
theorem alone_step {name : Bs} {v : Option Fl} {D : Dk} {o : Oa} (G : GoodD D) (h : AloneI name v D) (hn : o.n ≠ name) (h3 : o.k ≠ 3) (h4 : o.k ≠ 4) : AloneI name v (stepO D o) := by
  unfold stepO
  split
  · exact alone_app G h _ _ hn
  · split
    · exact alone_syn G h _ hn
    · split
      · exact alone_rem G h _ hn
      · exact h
def moreB : Bs := [109, 111, 114, 101]
/-- What the three acts on the file make of it. -/
theorem alone_start {name s : Bs} (hs : s.length ≤ 1000) :
    (nameB name = true → appE K0 name s = 0 ∧ appE (synV (appV K0 name s) name) name moreB = 0 ∧ AloneI name (some ⟨name, s ++ moreB, s.length⟩) (appV (synV (appV K0 name s) name) name moreB)) ∧
    (nameB name = false → appE K0 name s = 6 ∧ appE (synV (appV K0 name s) name) name moreB = 6 ∧ AloneI name none (appV (synV (appV K0 name s) name) name moreB)) := by
  have h0 : stpE K0 = 0 ∧ stpV K0 = K0 := ⟨(stp_free rfl).2, (stp_free rfl).1⟩
  refine ⟨fun h => ?_, fun h => ?_⟩
  · have c0 : ∀ F, chk ⟨F, false, -1⟩ name = 0 := fun F => by unfold chk; rw [if_neg (by show ¬ (false = true); decide), if_pos h]
    have f0 : ∀ F, stpE ⟨F, false, -1⟩ = 0 ∧ stpV ⟨F, false, -1⟩ = ⟨F, false, -1⟩ := fun F => ⟨(stp_free rfl).2, (stp_free rfl).1⟩
    have e1 : appE K0 name s = 0 := by
      unfold appE
      rw [show chk K0 name = 0 from c0 [], if_neg (by decide), if_neg (by show ¬ 262144 < used [] + s.length; simp [used]; omega)]
      exact (f0 []).1
    have v1 : appV K0 name s = ⟨[⟨name, s, 0⟩], false, -1⟩ := by
      unfold appV
      rw [e1, if_pos rfl, h0.2]
      rfl
    have l1 : lk [(⟨name, s, 0⟩ : Fl)] name = some ⟨name, s, 0⟩ := by simp [lk]
    have e2 : onE ⟨[⟨name, s, 0⟩], false, -1⟩ name = 0 := by
      unfold onE
      rw [c0, if_neg (by decide)]
      show (if lk [(⟨name, s, 0⟩ : Fl)] name = none then 3 else _) = _
      rw [l1, if_neg (by simp)]
      exact (f0 _).1
    have p1 : ∀ (f g : Fl), f.n = g.n → put g [f] = [g] := fun f g e => by
      unfold put del
      rw [List.filter_cons, decide_eq_true e]
      rfl
    have v2 : synV ⟨[⟨name, s, 0⟩], false, -1⟩ name = ⟨[⟨name, s, s.length⟩], false, -1⟩ := by
      unfold synV
      rw [e2, if_pos rfl, (f0 _).2]
      show (⟨put ⟨name, oldB [⟨name, s, 0⟩] name, (oldB [⟨name, s, 0⟩] name).length⟩ [⟨name, s, 0⟩], false, -1⟩ : Dk) = _
      have ob : oldB [(⟨name, s, 0⟩ : Fl)] name = s := by unfold oldB; rw [l1]; rfl
      rw [ob, p1 _ _ (by rfl)]
    have l2 : lk [(⟨name, s, s.length⟩ : Fl)] name = some ⟨name, s, s.length⟩ := by simp [lk]
    rw [v1, v2]
    have e3 : appE ⟨[⟨name, s, s.length⟩], false, -1⟩ name moreB = 0 := by
      unfold appE
      rw [c0, if_neg (by decide), if_neg (by show ¬ 262144 < used [⟨name, s, s.length⟩] + moreB.length; simp [used, moreB]; omega)]
      exact (f0 _).1
    have v3 : appV ⟨[⟨name, s, s.length⟩], false, -1⟩ name moreB = ⟨[⟨name, s ++ moreB, s.length⟩], false, -1⟩ := by
      unfold appV
      rw [e3, if_pos rfl, (f0 _).2]
      show (⟨put ⟨name, oldB [⟨name, s, s.length⟩] name ++ moreB, oldL [⟨name, s, s.length⟩] name⟩ [⟨name, s, s.length⟩], false, -1⟩ : Dk) = _
      have ob : oldB [(⟨name, s, s.length⟩ : Fl)] name = s := by unfold oldB; rw [l2]; rfl
      have ol : oldL [(⟨name, s, s.length⟩ : Fl)] name = s.length := by unfold oldL; rw [l2]; rfl
      rw [ob, ol, p1 _ _ (by rfl)]
    rw [v3]
    exact ⟨e1, e3, rfl, rfl, by simp [lk]⟩
  · have c0 : ∀ F, chk ⟨F, false, -1⟩ name = 6 := fun F => by unfold chk; rw [if_neg (by show ¬ (false = true); decide), h]; rfl
    have e1 : ∀ x, appE K0 name x = 6 := fun x => by unfold appE; rw [show chk K0 name = 6 from c0 [], if_pos (by decide)]
    have v1 : ∀ x, appV K0 name x = K0 := fun x => by unfold appV; rw [e1, if_neg (by decide), show chk K0 name = 6 from c0 [], if_neg (by simp)]
    have e2 : onE K0 name = 6 := by unfold onE; rw [show chk K0 name = 6 from c0 [], if_pos (by decide)]
    have v2 : synV K0 name = K0 := by unfold synV onV; rw [e2, if_neg (by decide), show chk K0 name = 6 from c0 [], if_neg (by simp)]
    rw [v1, v2, v1]
    exact ⟨e1 _, e1 _, rfl, rfl, rfl⟩
/-- What is read at the end. -/
theorem alone_read {name : Bs} {v : Option Fl} {D : Dk} (h : AloneI name v D) : readV D name = (v.map Fl.b).getD [] ∧ readE D name = (if v = none then 3 else 0) ∧ oldL D.F name = (v.map Fl.l).getD 0 := by
  unfold readV readE oldL oldB
  rw [h.off, h.lk]
  simp
theorem alone_len {name s : Bs} : (appV (synV (appV K0 name s) name) name moreB).F.length ≤ 3 := by
  have h1 := app_F (D := K0) name s
  have h2 := syn_F (appV K0 name s) name
  have h3 := app_F (D := synV (appV K0 name s) name) name moreB
  have h0 : K0.F.length = 0 := rfl
  omega
theorem alloc_acts {w0 w : World} {o : Oa} (oi : o.In) (b : Below w0.heap.size w0 w) (h : Lies w0 o.K (o.keep.map (Value.int .i64))) : Acts (w.alloc (.cells #[.int .i64 o.k, sV o.n, sV o.s, .int .i64 o.m, .slice o.K o.keep.length o.kc] 31)) (some ⟨w.heap.size, 0, none⟩) [o] := by
  have hw := Whole.fresh w 31 #[.int .i64 o.k, sV o.n, sV o.s, .int .i64 o.m, .slice o.K o.keep.length o.kc]
  refine ⟨.inr ⟨w.heap.size, 0, rfl, hw.inside, fun i x hx => ?_⟩, fun x hx => ?_⟩
  · cases i with
    | zero =>
      obtain rfl : o.cells = x := by simpa using hx
      refine ⟨rfl, fun j hj => ?_⟩
      simp [Oa.cells]
    | succ i => simp at hx
  · obtain rfl : x = o := by simpa using hx
    exact ⟨oi, Lies.below h (then_below b (fresh1' w _))⟩
theorem add_more (s : Bs) : (({ data := s.toArray } : ByteArray) ++ { data := #[109, 111, 114, 101] }) = ⟨(s ++ moreB).toArray⟩ := ByteArray.ext (by simp [moreB])
set_option maxRecDepth 100000 in
set_option maxHeartbeats 8000000 in
theorem walkAlone (A : Option Addr) (c : Nat) (L : List Oa) (_hLl : L.length ≤ 4611686018427387903) (name : Bs) (hnl : name.length ≤ 140737488351232) (s : Bs) (hsl : s.length ≤ 140737488351232) (w : World) (hL : Acts w A L) :
    Calls Try.prog 6 #[.slice A L.length c, .string ⟨name.toArray⟩, .string ⟨s.toArray⟩] w fun e w' => e = .returned (.bool true) ∧ Below w.heap.size w w' := by
  have HL := Lib.hid hL
  have HW := Lib.hid (works_any w)
  clear hL
  by_cases hn100 : 100 < name.length
  · have h1 : (100 : Int) < name.length := by omega
    clear hn100
    go_enter Try.func6, Try.ntmps6
    go_wp2_with (go_at_call 26; refine HW.out.mono ?_; rintro e w1 ⟨rfl, b1⟩; have B1 := Lib.hid b1; clear b1)
    go_ret
    exact ⟨rfl, B1.out⟩
  · have h1 : ¬ (100 : Int) < name.length := by omega
    by_cases hs1000 : 1000 < s.length
    · have h2 : (1000 : Int) < s.length := by omega
      clear hn100 hs1000
      go_enter Try.func6, Try.ntmps6
      go_wp2_with (go_at_call 26; refine HW.out.mono ?_; rintro e w1 ⟨rfl, b1⟩; have B1 := Lib.hid b1; clear b1)
      go_ret
      exact ⟨rfl, B1.out⟩
    · have h2 : ¬ (1000 : Int) < s.length := by omega
      have hnn : name.length ≤ 100000 := by omega
      have hss : s.length ≤ 100000 := by omega
      have hs5 : s.length ≤ 1000 := by omega
      have ST := alone_start (name := name) hs5
      have GA := good_app g0 name s
      have GB := good_syn GA name
      have GC := good_app GB name moreB
      have hl1 := app_F (D := K0) name s
      have hl2 := syn_F (appV K0 name s) name
      have hl3 := alone_len (name := name) (s := s)
      have hl0 : K0.F.length = 0 := rfl
      have HA1 : Hid (∀ W g, w.heap.size ≤ W.heap.size → DiskB W w.heap.size g K0 → Calls Try.prog 9 #[.pointer (some ⟨g, 0, none⟩), .string ⟨name.toArray⟩, .string ⟨s.toArray⟩] W fun e w' => e = .returned (.int .i64 (appE K0 name s)) ∧ DiskB w' w.heap.size g (appV K0 name s) ∧ Below w.heap.size W w') := Lib.hid (fun W g hW h => appendB g0 (by omega) name s hnn hss hW h)
      have HS1 : Hid (∀ W g, w.heap.size ≤ W.heap.size → DiskB W w.heap.size g (appV K0 name s) → Calls Try.prog 11 #[.pointer (some ⟨g, 0, none⟩), .string ⟨name.toArray⟩] W fun e w' => e = .returned (.int .i64 (onE (appV K0 name s) name)) ∧ DiskB w' w.heap.size g (synV (appV K0 name s) name) ∧ Below w.heap.size W w') := Lib.hid (fun W g hW h => syncB GA (by omega) name hnn hW h)
      have HA2 : Hid (∀ W g, w.heap.size ≤ W.heap.size → DiskB W w.heap.size g (synV (appV K0 name s) name) → Calls Try.prog 9 #[.pointer (some ⟨g, 0, none⟩), .string ⟨name.toArray⟩, .string ⟨#[109, 111, 114, 101]⟩] W fun e w' => e = .returned (.int .i64 (appE (synV (appV K0 name s) name) name moreB)) ∧ DiskB w' w.heap.size g (appV (synV (appV K0 name s) name) name moreB) ∧ Below w.heap.size W w') := Lib.hid (fun W g hW h => appendB GB (by omega) name moreB hnn (by decide) hW h)
      have HST := Lib.hid ST
      have HGC := Lib.hid GC
      clear ST GA GB GC hl1 hl2 hl0 hn100 hs1000
      generalize appE (synV (appV K0 name s) name) name moreB = e2 at HA2 HST
      generalize appV (synV (appV K0 name s) name) name moreB = D3 at HA2 HST HGC hl3
      generalize synV (appV K0 name s) name = D2 at HS1 HA2
      generalize onE (appV K0 name s) name = e3 at HS1
      generalize appV K0 name s = D1 at HA1 HS1
      generalize appE K0 name s = e1 at HA1 HST
      go_enter Try.func6, Try.ntmps6
      go_upto_region 5 with (go_at_call 26; refine HW.out.mono ?_; rintro e w1 ⟨rfl, b1⟩; have B1 := Lib.hid b1; clear b1)
      have HN := Lib.hid (newB w1 w.heap.size B1.out.size)
      go_upto_region 6 with (go_at_call 7; refine HN.out.mono ?_; rintro e w2 ⟨rfl, d2, b2⟩; have P2 := Lib.hid d2; have B2 := Lib.hid (B1.out.trans b2); clear d2 b2)
      generalize w1.heap.size + 1 = gd at P2 ⊢
      clear HN B1 HW
      go_upto_region 9 with (first
        | (go_at_call 9; (with_reducible refine (HA2.out _ _ B4.out.size P4.out).mono ?_); rintro e w5 ⟨rfl, d5, b5⟩; have P5 := Lib.hid d5; have B5 := Lib.hid (B4.out.trans b5); clear d5 b5)
        | (go_at_call 11; (with_reducible refine (HS1.out _ _ B3.out.size P3.out).mono ?_); rintro e w4 ⟨rfl, d4, b4⟩; have P4 := Lib.hid d4; have B4 := Lib.hid (B3.out.trans b4); clear d4 b4)
        | (go_at_call 9; (with_reducible refine (HA1.out _ _ B2.out.size P2.out).mono ?_); rintro e w3 ⟨rfl, d3, b3⟩; have P3 := Lib.hid d3; have B3 := Lib.hid (B2.out.trans b3); clear d3 b3))
      clear HA1 HS1 HA2 P2 B2 P3 B3 P4 B4
      obtain ⟨v, hv⟩ : ∃ v, AloneI name v D3 := by
        cases hb : nameB name with
        | true => exact ⟨_, (HST.out.1 hb).2.2⟩
        | false => exact ⟨_, (HST.out.2 hb).2.2⟩
      have HV := Lib.hid hv
      have HEND : Hid ((e1 = 0 ∧ e2 = 0 ∧ v = some ⟨name, s ++ moreB, s.length⟩) ∨ (e1 = 6 ∧ e2 = 6 ∧ v = none)) := Lib.hid (by
        cases hb : nameB name with
        | true =>
          obtain ⟨q1, q2, q3⟩ := HST.out.1 hb
          exact .inl ⟨q1, q2, hv.lk.symm.trans q3.lk⟩
        | false =>
          obtain ⟨q1, q2, q3⟩ := HST.out.2 hb
          exact .inr ⟨q1, q2, hv.lk.symm.trans q3.lk⟩)
      clear hv HST
      go_wp2_with fail
      go_loopw [10] (fun i wr => ∃ (k : Nat) (D : Dk), k ≤ L.length ∧ k ≤ 60 ∧ i = .int .i64 (k : Int) ∧ Hid (DiskB wr w.heap.size gd D) ∧ Hid (GoodD D) ∧ D.F.length ≤ 3 + k ∧ Hid (AloneI name v D) ∧ Below w.heap.size w wr) (fun i _ => L.length - (intOf i).toNat)
      case atStart => exact ⟨0, D3, Nat.zero_le _, by omega, rfl, P5, HGC, by omega, HV, B5.out⟩
      case round =>
        obtain ⟨k, D, hk, hk60, rfl, HP, HG, hF, HI, HB⟩ := hrel
        by_cases hgo : k < L.length ∧ k < 60
        · obtain ⟨hlt, hlt60⟩ := hgo
          obtain ⟨o, ho⟩ : ∃ o, L[k]? = some o := ⟨_, List.getElem?_eq_getElem hlt⟩
          have HLr := HL.out.below HB
          obtain ⟨b, off, hA, hb, c0, c1, c2, c3, c4⟩ := HLr.at ho
          obtain ⟨oi, okl⟩ := HLr.keep ho
          subst hA
          have HGR := Lib.hid (great_any o oi wr)
          have HOI := Lib.hid oi
          have HKL := Lib.hid (HL.out.keep ho).2
          have hz := HB.size
          have HBB := Lib.hid HB
          have HCL : Hid (∀ W, Below w.heap.size w W → W.cell? ⟨b, off + k * 5, none⟩ = some (.int .i64 o.k) ∧ W.cell? ⟨b, off + k * 5 + 1, none⟩ = some (sV o.n) ∧ W.cell? ⟨b, off + k * 5 + 2, none⟩ = some (sV o.s) ∧ W.cell? ⟨b, off + k * 5 + 3, none⟩ = some (.int .i64 o.m) ∧ W.cell? ⟨b, off + k * 5 + 4, none⟩ = some (.slice o.K o.keep.length o.kc)) := Lib.hid (fun W hW => by
            obtain ⟨b', off', e1, -, e2⟩ := (HL.out.below hW).at ho
            injection e1 with e1
            injection e1 with e1 e3
            subst e1 e3
            exact e2)
          clear HB HLr ho oi okl
          cases hgr : greatB o with
          | true =>
            rw [hgr] at HGR
            clear hgr
            go_wp2_with (go_at_call 8; refine HGR.out.mono ?_; rintro e w6 ⟨rfl, b6⟩; have B6 := Lib.hid (HBB.out.trans (b6.mono hz)); clear b6)
            go_ret
            exact ⟨rfl, B6.out⟩
          | false =>
            rw [hgr] at HGR
            go_upto_region 14 with (go_at_call 8; refine HGR.out.mono ?_; rintro e w6 ⟨rfl, b6⟩; have B6 := Lib.hid (HBB.out.trans (b6.mono hz)); have P6 := Lib.hid (HP.out.below b6); clear b6)
            clear c0 c1 c2 c3 c4 hb HGR HP HBB
            obtain ⟨c0, c1, c2, c3, c4⟩ := HCL.out w6 B6.out
            clear HCL
            by_cases hq : o.n = name
            · rw [hq] at c1
              clear hgr hq
              go_wp2_with fail
              go_roundw
              case rel => exact ⟨k + 1, D, by omega, by omega, by go_num, P6, HG, by omega, HI, B6.out⟩
              case measure => simp [intOf]; omega
            · have hnq : (o.n == name) = false := by simpa using hq
              by_cases h3 : o.k = 3
              · rw [h3] at c0
                clear hgr hq h3
                go_wp2_with fail
                go_roundw
                case rel => exact ⟨k + 1, D, by omega, by omega, by go_num, P6, HG, by omega, HI, B6.out⟩
                case measure => simp [intOf]; omega
              · have h3' : (o.k == 3) = false := by simpa using h3
                by_cases h4 : o.k = 4
                · rw [h4] at c0
                  clear hgr hq h3 h4 h3'
                  go_wp2_with fail
                  go_roundw
                  case rel => exact ⟨k + 1, D, by omega, by omega, by go_num, P6, HG, by omega, HI, B6.out⟩
                  case measure => simp [intOf]; omega
                · have h4' : (o.k == 4) = false := by simpa using h4
                  have GS := Lib.hid (good_step HG.out HOI.out)
                  have IS := Lib.hid (alone_step HG.out HI.out hq h3 h4)
                  have hFS := step_F D o
                  have HPL : Hid (Calls Try.prog 27 #[.pointer (some ⟨gd, 0, none⟩), .slice (some ⟨w6.heap.size, 0, none⟩) 1 1] (w6.alloc (.cells #[.int .i64 o.k, sV o.n, sV o.s, .int .i64 o.m, .slice o.K o.keep.length o.kc] 31)) fun e w' => e = .returned (.tuple #[]) ∧ DiskB w' w.heap.size gd (stepO D o) ∧ Below w.heap.size w w') := Lib.hid (by
                    have hS : DiskP w6 (fun k => w.heap.size ≤ k ∧ k < w6.heap.size) gd D := by
                      obtain ⟨mb, E, q1, q2⟩ := P6.out
                      exact ⟨mb, E, q1, fun k hk => ⟨q2 k hk, q1.inside hk⟩⟩
                    have b7 := fresh1' w6 (.cells #[.int .i64 o.k, sV o.n, sV o.s, .int .i64 o.m, .slice o.K o.keep.length o.kc] 31)
                    have hk7 : ∀ x ∈ [o], x.keep = [] ∨ ∀ a, x.K = some a → ¬ (w.heap.size ≤ a.block ∧ a.block < w6.heap.size) := fun x hx => by
                      obtain rfl : x = o := by simpa using hx
                      rcases lies_low HKL.out with q | q
                      · exact .inl (by simpa using q)
                      · exact .inr fun a ha hh => q a ha hh.1
                    refine (play_any HG.out (by omega) (some ⟨w6.heap.size, 0, none⟩) 1 [o] _ (hS.below b7) (alloc_acts HOI.out B6.out HKL.out) (.inr fun a ha hh => by cases ha; exact Nat.lt_irrefl _ hh.2) hk7 (fun x hx => by
                      obtain rfl : x = o := by simpa using hx
                      exact hgr)).mono fun e w' ⟨q1, q2, q3⟩ => ⟨q1, q2.wide fun k hk => ?_, ?_⟩
                    · rcases hk with hk | hk
                      · exact hk.1
                      · have := B6.out.size
                        have := b7.size
                        show w.heap.size ≤ k
                        omega
                    · exact (then_below B6.out b7).trans (q3.below (by have := B6.out.size; have := b7.size; omega) (fun _ hk => hk.1)))
                  clear hgr hq h3 h4 HKL HOI HG HI P6
                  generalize stepO D o = D' at HPL GS IS hFS
                  go_wp2_with (go_at_call 27; refine HPL.out.mono ?_; rintro e w8 ⟨rfl, d8, b8⟩; have P8 := Lib.hid d8; have B8 := Lib.hid b8; clear d8 b8)
                  go_roundw
                  case rel => exact ⟨k + 1, D', by omega, by omega, by go_num, P8, GS, by omega, IS, B8.out⟩
                  case measure => simp [intOf]; omega
        · have hxx : (k < L.length ∧ ¬ (k : Int) < 60) ∨ ¬ k < L.length := by omega
          obtain ⟨a1, a2, a3⟩ := alone_read HI.out
          have HR := Lib.hid (readB' name hnn HP.out)
          have HLS := Lib.hid (fun W (hW : Below wr.heap.size wr W) => lastsB name hnn (HP.out.below hW))
          rw [a1, a2] at HR
          rw [a3] at HLS
          have hadd := add_more s
          have HBB := Lib.hid HB
          clear hgo HI HP HG HB a1 a2 a3
          rcases HEND.out with ⟨rfl, rfl, rfl⟩ | ⟨rfl, rfl, rfl⟩
          · change Hid (Calls Try.prog 21 #[.pointer (some ⟨gd, 0, none⟩), sV name] wr fun e w' => e = .returned (.tuple #[sV (s ++ moreB), .int .i64 0]) ∧ Below wr.heap.size wr w') at HR
            change Hid (∀ W, Below wr.heap.size wr W → Calls Try.prog 23 #[.pointer (some ⟨gd, 0, none⟩), sV name] W fun e w' => e = .returned (.int .i64 (s.length : Int)) ∧ W = w') at HLS
            generalize s ++ moreB = sm at HR hadd
            clear HEND
            rcases hxx with ⟨hlt, h60⟩ | hlt
            · go_wp2_with (first
                | (go_at_call 23; (with_reducible refine (HLS.out _ C7.out).mono ?_); rintro e w9 ⟨rfl, rfl⟩)
                | (go_at_call 21; (with_reducible refine HR.out.mono ?_); rintro e w7 ⟨rfl, b7⟩; have C7 := Lib.hid b7; clear b7))
              go_ret
              exact ⟨rfl, then_below HBB.out C7.out⟩
            · go_wp2_with (first
                | (go_at_call 23; (with_reducible refine (HLS.out _ C7.out).mono ?_); rintro e w9 ⟨rfl, rfl⟩)
                | (go_at_call 21; (with_reducible refine HR.out.mono ?_); rintro e w7 ⟨rfl, b7⟩; have C7 := Lib.hid b7; clear b7))
              go_ret
              exact ⟨rfl, then_below HBB.out C7.out⟩
          · change Hid (Calls Try.prog 21 #[.pointer (some ⟨gd, 0, none⟩), sV name] wr fun e w' => e = .returned (.tuple #[sV [], .int .i64 3]) ∧ Below wr.heap.size wr w') at HR
            clear HEND HLS hadd
            rcases hxx with ⟨hlt, h60⟩ | hlt
            · go_wp2_with (go_at_call 21; (with_reducible refine HR.out.mono ?_); rintro e w7 ⟨rfl, b7⟩; have C7 := Lib.hid b7; clear b7)
              go_ret
              exact ⟨rfl, then_below HBB.out C7.out⟩
            · go_wp2_with (go_at_call 21; (with_reducible refine HR.out.mono ?_); rintro e w7 ⟨rfl, b7⟩; have C7 := Lib.hid b7; clear b7)
              go_ret
              exact ⟨rfl, then_below HBB.out C7.out⟩
end Go.Proofs.Ytkfjgmfokpgcbaa.disk
