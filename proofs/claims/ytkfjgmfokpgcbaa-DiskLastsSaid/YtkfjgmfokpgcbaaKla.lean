/-
  The walk of DiskLasts.
-/
import Derived.Test.YtkfjgmfokpgcbaaKpy
namespace Go.Proofs.Ytkfjgmfokpgcbaa.disk
open Go.ChangeShapes Go.WideShapes Go.ChangeAt Go.RowKit Go.Maps Go.WideMaps
open Go.Proofs.Ytkfjgmfokpgcbaa.words Go.Proofs.Ytkfjgmfokpgcbaa.opened Go.Proofs.Ytkfjgmfokpgcbaa.block

theorem srt_one {F : List Fl} (h : Srt F) {i j : Nat} {f g : Fl} (hi : F[i]? = some f) (hj : F[j]? = some g) (e : f.n = g.n) : i = j := by
  obtain ⟨i1, i2⟩ := List.getElem?_eq_some_iff.1 hi
  obtain ⟨j1, j2⟩ := List.getElem?_eq_some_iff.1 hj
  unfold Srt at h
  rw [List.pairwise_iff_getElem] at h
  rcases Nat.lt_trichotomy i j with h1 | h1 | h1
  · have := h i j i1 j1 h1
    rw [i2, j2, e] at this
    exact absurd this (lt_irr _)
  · exact h1
  · have := h j i j1 i1 h1
    rw [i2, j2, e] at this
    exact absurd this (lt_irr _)
theorem mem_mend (keep : List Int) : ∀ {F : List Fl} {i j : Nat} {f : Fl}, F[j]? = some f → leftN keep (i + j) f ≠ 0 → mendF keep (i + j) f ∈ mendL keep i F
  | x :: r, i, j, f, h, h0 => by
    unfold mendL
    cases j with
    | zero =>
      obtain rfl : x = f := by simpa using h
      rw [Nat.add_zero] at h0 ⊢
      rw [if_neg h0]
      simp
    | succ j =>
      have h' : r[j]? = some f := by simpa using h
      have ih := mem_mend keep (F := r) (i := i + 1) (j := j) h' (by rw [show i + 1 + j = i + (j + 1) by omega]; exact h0)
      rw [show i + 1 + j = i + (j + 1) by omega] at ih
      split
      · exact ih
      · simp [ih]
theorem mend_lk {F : List Fl} (hs : Srt F) (keep : List Int) {i : Nat} {f : Fl} (h : F[i]? = some f) : lk (mendL keep 0 F) f.n = if leftN keep i f = 0 then none else some (mendF keep i f) := by
  split
  · rename_i h0
    refine lk_none.2 fun x hx e => ?_
    obtain ⟨j, g, h1, h2, rfl⟩ := mend_mem keep hx
    rw [Nat.zero_add] at h2
    have := srt_one hs h1 h e
    subst this
    rw [h] at h1
    cases h1
    exact h2 h0
  · rename_i h0
    have := mem_mend keep (i := 0) h (by rw [Nat.zero_add]; exact h0)
    rw [Nat.zero_add] at this
    exact lk_mem (srt_mend hs keep 0) this
/-- What is read of a file behind Mend. -/
theorem mend_read {D : Dk} (G : GoodD D) (keep : List Int) {i : Nat} {f : Fl} (h : D.F[i]? = some f) :
    readV (mendV D keep) f.n = f.b.take (leftN keep i f) ∧ readE (mendV D keep) f.n = (if leftN keep i f = 0 then 3 else 0) ∧ oldL (mendV D keep).F f.n = leftN keep i f := by
  have hl := mend_lk G.srt keep h
  unfold readV readE oldL oldB
  show (if false = true then _ else ((lk (mendL keep 0 D.F) f.n).map Fl.b).getD []) = _ ∧ (if false = true then _ else if lk (mendL keep 0 D.F) f.n = none then _ else _) = _ ∧ ((lk (mendL keep 0 D.F) f.n).map Fl.l).getD 0 = _
  rw [hl]
  by_cases h0 : leftN keep i f = 0
  · rw [if_pos h0, if_pos h0, h0]
    simp
  · rw [if_neg h0, if_neg h0]
    simp [mendF]
theorem up_read {D : Dk} (G : GoodD D) (ho : D.off = false) {i : Nat} {f : Fl} (h : D.F[i]? = some f) : readV D f.n = f.b ∧ readE D f.n = 0 ∧ oldL D.F f.n = f.l := by
  have hl := lk_mem G.srt (List.mem_of_getElem? h)
  unfold readV readE oldL oldB
  rw [ho, hl]
  simp
theorem extractU (s : Bs) (a b : Nat) : (⟨s.toArray⟩ : ByteArray).extract a b = ⟨((s.drop a).take (b - a)).toArray⟩ := by
  have := Lib.extract_eq (⟨s.toArray⟩ : ByteArray) a b
  simpa using this
theorem slice_text (s : Bs) (b : Nat) (hb : b ≤ s.length) (W : World) : (Instr.slice 9 (.string ⟨s.toArray⟩) none (some (.int .i64 (b : Int))) none).run Try.prog W = .ok (.string ⟨(s.take b).toArray⟩) W := by
  have := extractU s 0 b
  simp only [List.drop_zero, Nat.sub_zero] at this
  rw [← this]
  go_simp
set_option maxRecDepth 100000 in
set_option maxHeartbeats 8000000 in
theorem walkLasts (A : Option Addr) (c : Nat) (L : List Oa) (_hLl : L.length ≤ 4611686018427387903) (KA : Option Addr) (kc : Nat) (keep : List Int) (ik : ∀ x ∈ keep, IntIn x) (lk0 : keep.length ≤ 140737488351232) (w : World) (hL : Acts w A L) (hK : Lies w KA (keep.map (Value.int .i64))) :
    Calls Try.prog 4 #[.slice A L.length c, .slice KA keep.length kc] w fun e w' => e = .returned (.bool true) ∧ Below w.heap.size w w' := by
  have HL := Lib.hid hL
  have HK := Lib.hid hK
  have HIK := Lib.hid ik
  have HW := Lib.hid (works_any w)
  have HLOW := Lib.hid hL.low
  have HIN : Hid (∀ o ∈ L, o.In) := Lib.hid (fun o ho => (hL.2 o ho).1)
  clear hL hK ik
  go_enter Try.func4, Try.ntmps4
  go_wp2_with (go_at_call 26; refine HW.out.mono ?_; rintro e w1 ⟨rfl, b1⟩; have B1 := Lib.hid b1; clear b1)
  clear HW
  go_loopw [5] (fun i wr => ∃ k : Nat, k ≤ L.length ∧ k ≤ 60 ∧ i = .int .i64 (k : Int) ∧ Hid (∀ o ∈ L.take k, greatB o = false) ∧ Below w.heap.size w wr) (fun i _ => L.length - (intOf i).toNat)
  case atStart => exact ⟨0, Nat.zero_le _, by omega, rfl, Lib.hid (fun _ h => by simp at h), B1.out⟩
  case round =>
    obtain ⟨k, hk, hk60, rfl, HG, HB⟩ := hrel
    by_cases hgo : k < L.length ∧ k < 60
    · obtain ⟨hlt, hlt60⟩ := hgo
      obtain ⟨o, ho⟩ : ∃ o, L[k]? = some o := ⟨_, List.getElem?_eq_getElem hlt⟩
      have HLr := HL.out.below HB
      obtain ⟨b, off, hA, hb, c0, c1, c2, c3, c4⟩ := HLr.at ho
      obtain ⟨oi, -⟩ := HLr.keep ho
      subst hA
      have HGR := Lib.hid (great_any o oi wr)
      have HGN : Hid (greatB o = false → ∀ x ∈ L.take (k + 1), greatB x = false) := Lib.hid (fun h x hx => by
        rw [List.take_add_one, ho] at hx
        rcases List.mem_append.1 hx with hx | hx
        · exact HG.out x hx
        · simp at hx
          rw [hx]
          exact h)
      have hz := HB.size
      clear HLr ho oi
      cases hgr : greatB o with
      | true =>
        rw [hgr] at HGR
        clear hgr HGN
        go_wp2_with (go_at_call 8; refine HGR.out.mono ?_; rintro e w3 ⟨rfl, b3⟩; have B3 := Lib.hid (HB.trans (b3.mono hz)); clear b3)
        go_ret
        exact ⟨rfl, B3.out⟩
      | false =>
        rw [hgr] at HGR
        have HGX := Lib.hid (HGN.out hgr)
        clear hgr HGN
        go_wp2_with (go_at_call 8; refine HGR.out.mono ?_; rintro e w3 ⟨rfl, b3⟩; have B3 := Lib.hid (HB.trans (b3.mono hz)); clear b3)
        go_roundw
        case rel => exact ⟨k + 1, by omega, by omega, by go_num, HGX, B3.out⟩
        case measure => simp [intOf]; omega
    · have HSM : Hid (∀ o ∈ L.take 60, greatB o = false) := Lib.hid (by
        have hfin : L.take k = L.take 60 := by
          by_cases hlt : k < L.length
          · have : k = 60 := by omega
            rw [this]
          · rw [List.take_of_length_le (by omega), List.take_of_length_le (by omega)]
        rw [← hfin]
        exact HG.out)
      clear HG B1
      have hxx : (k < L.length ∧ ¬ (k : Int) < 60) ∨ ¬ k < L.length := by omega
      clear hgo
      rcases hxx with ⟨hlt, h60⟩ | hlt
      · by_cases hk100 : 100 < keep.length
        · have hk100' : (100 : Int) < keep.length := by omega
          clear hk100
          go_wp2_with fail
          go_ret
          exact ⟨rfl, HB⟩
        · have hk100' : ¬ (100 : Int) < keep.length := by omega
          have HN := Lib.hid (newB wr w.heap.size HB.size)
          have HBB := Lib.hid HB
          have hlk : keep.length ≤ 100 := by omega
          clear HB hk100
          go_upto_region 11 with (go_at_call 7; refine HN.out.mono ?_; rintro e w2 ⟨rfl, d2, b2⟩; have D2 := Lib.hid d2; have B2 := Lib.hid (HBB.out.trans b2); clear d2 b2)
          generalize wr.heap.size + 1 = gd at D2 ⊢
          clear HN HBB
          have HP := Lib.hid (play_any g0 (by decide) A c L w2 D2.out (HL.out.below B2.out) HLOW.out.1 HLOW.out.2 HSM.out)
          have GR := Lib.hid (good_run g0 (L := L.take 60) (fun x hx => HIN.out x (List.mem_of_mem_take hx)))
          have hFR : (runO (L.take 60) K0).F.length ≤ 60 := by
            have h1 := run_F K0 (L.take 60)
            have h2 : K0.F.length = 0 := rfl
            rw [List.length_take] at h1
            omega
          generalize runO (L.take 60) K0 = D at HP GR hFR
          go_upto_region 12 with (go_at_call 27; refine HP.out.mono ?_; rintro e w3 ⟨rfl, d3, t3⟩; have D3 : Hid (DiskB w3 w.heap.size gd D) := Lib.hid (d3.wide fun k hk => (by rcases hk with hk | hk; (· exact hk); (· exact Nat.le_trans B2.out.size hk))); have B3 := Lib.hid (B2.out.trans (t3.below B2.out.size (fun _ hk => hk))); clear d3 t3)
          clear HP D2 B2 HSM HLOW HL HIN
          have HDW := Lib.hid (downB D3.out)
          have HM : Hid (Calls Try.prog 17 #[.pointer (some ⟨gd, 0, none⟩), .slice none 0 0] w3 fun e w' => e = .returned (.tuple #[]) ∧ DiskB w' w.heap.size gd (mendV D []) ∧ Below w.heap.size w3 w') := Lib.hid (mendB GR.out (by omega) none 0 [] (fun _ h => (nomatch h)) (by decide) B3.out.size D3.out (Below.refl _ _) (.inl rfl) (fun _ h => (nomatch h)))
          -- the disk that is up, whatever it was
          have HUP : Hid (Hid (D.off = true) → (mendV D []).off = false ∧ GoodD (mendV D []) ∧ (mendV D []).F.length ≤ 60) := Lib.hid (fun _ => ⟨rfl, good_mend GR.out _, Nat.le_trans (mendL_len _ _ _) hFR⟩)
          cases hoff : D.off with
          | true =>
            obtain ⟨u1, u2, u3⟩ := HUP.out (Lib.hid hoff)
            rw [hoff] at HDW
            generalize mendV D [] = D1 at HM u1 u2 u3
            clear hoff HUP GR hFR
            go_upto_region 14 with (first
              | (go_at_call 28; refine HDW.out.mono ?_; rintro e w4 ⟨rfl, rfl⟩)
              | (go_at_call 17; (with_reducible refine HM.out.mono ?_); rintro e w5 ⟨rfl, d5, b5⟩; have D5 := Lib.hid d5; have B5 := Lib.hid (B3.out.trans b5); clear d5 b5))
            clear HDW HM D3 B3
            have HC := Lib.hid (copyB u2 (by omega) D5.out)
            go_upto_region 15 with (go_at_call 19; refine HC.out.mono ?_; rintro e w6 ⟨rfl, d6, b6⟩; have C6 := Lib.hid d6; have B56 := Lib.hid b6; clear d6 b6)
            generalize w5.heap.size + 1 = gc at C6 ⊢
            have D6 : Hid (DiskP w6 (fun k => w.heap.size ≤ k ∧ k < w5.heap.size) gd D1) := Lib.hid (by
              obtain ⟨mb, E, h1, h2⟩ := D5.out
              exact DiskP.below ⟨mb, E, h1, fun k hk => ⟨h2 k hk, h1.inside hk⟩⟩ B56.out)
            have B6 := Lib.hid (then_below B5.out B56.out)
            have HB56 : Hid (w5.heap.size ≤ w6.heap.size ∧ w.heap.size ≤ w5.heap.size) := Lib.hid ⟨B56.out.size, B5.out.size⟩
            clear HC D5 B5 B56
            obtain ⟨A', c', w7, hap, hl7, hn7, b7⟩ := own_ints w6 KA kc keep (by omega) (Lies.below HK.out B6.out) 29
            have HM2 := Lib.hid (mendS u2 (by omega) A' c' keep (fun x hx => (HIK.out x hx).2) (by omega) D6.out b7 hl7 hn7)
            clear hl7 hn7 b7
            go_upto_region 16 with (first | (at_builtin; refine wpList_append_run rfl _ _ 29 29 rfl rfl rfl hap ?_) | (go_at_call 17; (with_reducible refine HM2.out.mono ?_); rintro e w8 ⟨rfl, d8, t8⟩; have D8 := Lib.hid d8; have T8 := Lib.hid t8; clear d8 t8))
            have C8 : Hid (DiskB w8 w5.heap.size gc D1) := Lib.hid (DiskP.turn C6.out T8.out (fun k h1 h2 => by omega))
            have D8' : Hid (DiskB w8 w.heap.size gd (mendV D1 keep)) := Lib.hid (D8.out.wide fun k hk => (by
              have h0 := HB56.out
              rcases hk with hk | hk
              · exact hk.1
              · omega))
            have B8 : Hid (Below w.heap.size w w8) := Lib.hid (B6.out.trans (T8.out.below B6.out.size (fun _ hk => hk.1)))
            clear hap HM2 D6 C6 B6 D8 T8 HK
            have HNC := Lib.hid (namesB u2 (by omega) C8.out)
            go_upto_region 17 with (go_at_call 29; refine HNC.out.mono ?_; rintro e w9 ⟨NA, nc, rfl, o9, b9⟩; have O9 := Lib.hid (OwnS.lies o9); have C9 := Lib.hid (C8.out.below b9); have D9 := Lib.hid (D8'.out.below b9); have B9 := Lib.hid (then_below B8.out b9); clear o9 b9)
            clear HNC C8 D8' B8
            obtain ⟨N, hN⟩ : ∃ N, N = D1.F.length := ⟨_, rfl⟩
            rw [← hN]
            have HNN := Lib.hid hN
            have hN60 : N ≤ 60 := by omega
            -- what is read of each file
            have HRD : Hid (∀ (i : Nat) (f : Fl), D1.F[i]? = some f → ∀ W, Below w9.heap.size w9 W → ∃ t : Bs, Hid (t.length ≤ f.b.length ∧ f.l ≤ t.length) ∧ f.b.length ≤ 262144 ∧ (∀ W', (Instr.slice 9 (sV f.b) none (some (.int .i64 (t.length : Int))) none).run Try.prog W' = .ok (sV t) W') ∧
                Hid (∀ W, Below w9.heap.size w9 W → (Calls Try.prog 21 #[.pointer (some ⟨gc, 0, none⟩), sV f.n] W fun e w' => e = .returned (.tuple #[sV f.b, .int .i64 0]) ∧ Below W.heap.size W w') ∧
                  (Calls Try.prog 21 #[.pointer (some ⟨gd, 0, none⟩), sV f.n] W fun e w' => e = .returned (.tuple #[sV t, .int .i64 (if t.length = 0 then 3 else 0)]) ∧ Below W.heap.size W w') ∧
                  (Calls Try.prog 23 #[.pointer (some ⟨gc, 0, none⟩), sV f.n] W fun e w' => e = .returned (.int .i64 (f.l : Int)) ∧ W = w') ∧
                  (Calls Try.prog 23 #[.pointer (some ⟨gd, 0, none⟩), sV f.n] W fun e w' => e = .returned (.int .i64 (t.length : Int)) ∧ W = w'))) := Lib.hid (fun i f hf W hW => by
              obtain ⟨r1, r2, r3⟩ := up_read u2 u1 hf
              obtain ⟨q1, q2, q3⟩ := mend_read u2 keep hf
              have hm := List.mem_of_getElem? hf
              have hfl := u2.lasts f hm
              have h1 := leftN_lo keep i f
              have h2 := leftN_hi keep i hfl
              have hfb := u2.len hm
              have hnn : f.n.length ≤ 100000 := by
                have := u2.names f hm
                unfold nameB at this
                simp at this
                omega
              have ht : (f.b.take (leftN keep i f)).length = leftN keep i f := by rw [List.length_take]; omega
              refine ⟨f.b.take (leftN keep i f), Lib.hid (by omega), hfb, fun W' => ?_, Lib.hid fun W' hW' => ?_⟩
              · rw [ht]
                exact slice_text f.b _ h2 W'
              · rw [ht]
                have e1 := readB' f.n hnn (C9.out.below hW')
                have e2 := readB' f.n hnn (D9.out.below hW')
                have e3 := lastsB f.n hnn (C9.out.below hW')
                have e4 := lastsB f.n hnn (D9.out.below hW')
                rw [r1, r2] at e1
                rw [q1, q2] at e2
                rw [r3] at e3
                rw [q3] at e4
                exact ⟨e1, e2, e3, e4⟩)
            have HND : Hid (∀ W, Below w9.heap.size w9 W → Calls Try.prog 29 #[.pointer (some ⟨gd, 0, none⟩)] W fun e w' => ∃ (A2 : Option Addr) (n2 c2 : Nat), e = .returned (.slice A2 n2 c2) ∧ n2 ≤ N ∧ Below W.heap.size W w') := Lib.hid (fun W hW => by
              have hl2 : (mendV D1 keep).F.length ≤ N := by
                rw [HNN.out]
                exact mendL_len _ _ _
              refine (namesB (good_mend u2 keep) (by omega) (D9.out.below hW)).mono fun e w' ⟨A2, c2, e1, _, e3⟩ => ⟨A2, _, c2, e1, ?_, e3⟩
              rw [List.length_map]
              exact hl2)
            clear u1 u2 u3 C9 D9 hN HIK
            go_wp2_with fail
            go_loopw [9, 10, 11, 12, 13] (fun i _ _ _ _ wx => ∃ k : Nat, k ≤ N ∧ i = .int .i64 (k : Int) ∧ Hid (Below w9.heap.size w9 wx)) (fun i _ _ _ _ _ => N - (intOf i).toNat)
            case atStart => exact ⟨0, Nat.zero_le _, rfl, Lib.hid (Below.refl _ _)⟩
            case round =>
              obtain ⟨q, hq, rfl, HBX⟩ := hrel
              by_cases hqt : q < N
              · obtain ⟨f, hf⟩ : ∃ f, D1.F[q]? = some f := ⟨_, List.getElem?_eq_getElem (by have := HNN.out; omega)⟩
                obtain ⟨nb, no, hNA, hnb, ncell⟩ := lies_at (Lies.below O9.out HBX.out) (k := q) (x := sV f.n) (by rw [List.getElem?_map, List.getElem?_map, hf]; rfl)
                subst hNA
                obtain ⟨t, htl, hfb, hsl, HR⟩ := HRD.out q f hf w9 (Below.refl _ _)
                have HNX : Hid (∀ W, Below w9.heap.size w9 W → W.cell? ⟨nb, no + q, none⟩ = some (sV f.n)) := Lib.hid (fun W hW => by
                  obtain ⟨nb', no', e1, -, e2⟩ := lies_at (Lies.below O9.out hW) (k := q) (x := sV f.n) (by rw [List.getElem?_map, List.getElem?_map, hf]; rfl)
                  injection e1 with e1
                  injection e1 with e1 e3
                  subst e1 e3
                  exact e2)
                obtain ⟨RC, RD, LC, LD⟩ := HR.out _ HBX.out
                have HRC := Lib.hid RC
                clear RC RD LC LD hf hnb
                have ht1 : ¬ (t.length : Int) < f.l := by have := htl.out; omega
                have ht2 : ¬ (t.length : Int) > f.b.length := by have := htl.out; omega
                have ht3 : t.length ≤ 262144 := by have := htl.out; omega
                clear htl
                by_cases ht0 : t.length = 0
                · have hte : t = [] := List.eq_nil_of_length_eq_zero ht0
                  subst hte
                  go_upto_region 22 with (first
                    | (go_at_call 21; (with_reducible refine (HR.out _ B11.out).2.1.mono ?_); rintro e w12 ⟨rfl, b12⟩; have B12 := Lib.hid (then_below B11.out b12); clear b12)
                    | (go_at_call 21; (with_reducible refine HRC.out.mono ?_); rintro e w11 ⟨rfl, b11⟩; have B11 := Lib.hid (then_below HBX.out b11); have n11 := HNX.out _ B11.out; clear b11))
                  have n12 := HNX.out _ B12.out
                  obtain ⟨-, -, LC, LD⟩ := HR.out _ B12.out
                  have HLC := Lib.hid LC
                  have HLD := Lib.hid LD
                  clear LC LD n11
                  go_wp2_with (first
                    | (go_at_call 23; (with_reducible refine HLC.out.mono ?_); rintro e w13 ⟨rfl, rfl⟩)
                    | (go_at_call 23; (with_reducible refine HLD.out.mono ?_); rintro e w13 ⟨rfl, rfl⟩))
                  go_roundw
                  case rel => exact ⟨q + 1, by omega, by go_num, B12⟩
                  case measure => simp [intOf]; omega
                · have hgt : (t.length : Int) > 0 := by omega
                  go_upto_region 22 with (first
                    | (go_at_call 21; (with_reducible refine (HR.out _ B11.out).2.1.mono ?_); rintro e w12 ⟨rfl, b12⟩; have B12 := Lib.hid (then_below B11.out b12); clear b12)
                    | (go_at_call 21; (with_reducible refine HRC.out.mono ?_); rintro e w11 ⟨rfl, b11⟩; have B11 := Lib.hid (then_below HBX.out b11); have n11 := HNX.out _ B11.out; clear b11))
                  have n12 := HNX.out _ B12.out
                  obtain ⟨-, -, LC, LD⟩ := HR.out _ B12.out
                  have HLC := Lib.hid LC
                  have HLD := Lib.hid LD
                  clear LC LD n11
                  go_wp2_with (first
                    | (go_at_call 23; (with_reducible refine HLC.out.mono ?_); rintro e w13 ⟨rfl, rfl⟩)
                    | (go_at_call 23; (with_reducible refine HLD.out.mono ?_); rintro e w13 ⟨rfl, rfl⟩))
                  go_roundw
                  case rel => exact ⟨q + 1, by omega, by go_num, B12⟩
                  case measure => simp [intOf]; omega
              · obtain rfl : q = N := by omega
                go_wp2_with (go_at_call 29; refine (HND.out _ HBX.out).mono ?_; rintro e w12 ⟨A2, n2, c2, rfl, hn2, b12⟩; have B12 := Lib.hid (then_below HBX.out b12); clear b12)
                go_ret
                exact ⟨by first | rfl | (rw [decide_eq_true (by omega)]) | simp [hn2], then_below B9.out B12.out⟩
          | false =>
            have u1 := hoff
            have u2 := GR.out
            have u3 := hFR
            rw [hoff] at HDW
            clear hoff HUP HM GR hFR
            go_upto_region 14 with (go_at_call 28; refine HDW.out.mono ?_; rintro e w4 ⟨rfl, rfl⟩)
            obtain ⟨D1, hD1⟩ : ∃ D1, D1 = D := ⟨_, rfl⟩
            rw [← hD1] at D3 u1 u2 u3
            clear hD1 HDW
            obtain ⟨w5, hw5⟩ : ∃ w5, w5 = w3 := ⟨_, rfl⟩
            have D5 : Hid (DiskB w5 w.heap.size gd D1) := hw5 ▸ D3
            have B5 : Hid (Below w.heap.size w w5) := hw5 ▸ B3
            subst hw5
            clear D3 B3
            have HC := Lib.hid (copyB u2 (by omega) D5.out)
            go_upto_region 15 with (go_at_call 19; refine HC.out.mono ?_; rintro e w6 ⟨rfl, d6, b6⟩; have C6 := Lib.hid d6; have B56 := Lib.hid b6; clear d6 b6)
            generalize w5.heap.size + 1 = gc at C6 ⊢
            have D6 : Hid (DiskP w6 (fun k => w.heap.size ≤ k ∧ k < w5.heap.size) gd D1) := Lib.hid (by
              obtain ⟨mb, E, h1, h2⟩ := D5.out
              exact DiskP.below ⟨mb, E, h1, fun k hk => ⟨h2 k hk, h1.inside hk⟩⟩ B56.out)
            have B6 := Lib.hid (then_below B5.out B56.out)
            have HB56 : Hid (w5.heap.size ≤ w6.heap.size ∧ w.heap.size ≤ w5.heap.size) := Lib.hid ⟨B56.out.size, B5.out.size⟩
            clear HC D5 B5 B56
            obtain ⟨A', c', w7, hap, hl7, hn7, b7⟩ := own_ints w6 KA kc keep (by omega) (Lies.below HK.out B6.out) 29
            have HM2 := Lib.hid (mendS u2 (by omega) A' c' keep (fun x hx => (HIK.out x hx).2) (by omega) D6.out b7 hl7 hn7)
            clear hl7 hn7 b7
            go_upto_region 16 with (first | (at_builtin; refine wpList_append_run rfl _ _ 29 29 rfl rfl rfl hap ?_) | (go_at_call 17; (with_reducible refine HM2.out.mono ?_); rintro e w8 ⟨rfl, d8, t8⟩; have D8 := Lib.hid d8; have T8 := Lib.hid t8; clear d8 t8))
            have C8 : Hid (DiskB w8 w5.heap.size gc D1) := Lib.hid (DiskP.turn C6.out T8.out (fun k h1 h2 => by omega))
            have D8' : Hid (DiskB w8 w.heap.size gd (mendV D1 keep)) := Lib.hid (D8.out.wide fun k hk => (by
              have h0 := HB56.out
              rcases hk with hk | hk
              · exact hk.1
              · omega))
            have B8 : Hid (Below w.heap.size w w8) := Lib.hid (B6.out.trans (T8.out.below B6.out.size (fun _ hk => hk.1)))
            clear hap HM2 D6 C6 B6 D8 T8 HK
            have HNC := Lib.hid (namesB u2 (by omega) C8.out)
            go_upto_region 17 with (go_at_call 29; refine HNC.out.mono ?_; rintro e w9 ⟨NA, nc, rfl, o9, b9⟩; have O9 := Lib.hid (OwnS.lies o9); have C9 := Lib.hid (C8.out.below b9); have D9 := Lib.hid (D8'.out.below b9); have B9 := Lib.hid (then_below B8.out b9); clear o9 b9)
            clear HNC C8 D8' B8
            obtain ⟨N, hN⟩ : ∃ N, N = D1.F.length := ⟨_, rfl⟩
            rw [← hN]
            have HNN := Lib.hid hN
            have hN60 : N ≤ 60 := by omega
            -- what is read of each file
            have HRD : Hid (∀ (i : Nat) (f : Fl), D1.F[i]? = some f → ∀ W, Below w9.heap.size w9 W → ∃ t : Bs, Hid (t.length ≤ f.b.length ∧ f.l ≤ t.length) ∧ f.b.length ≤ 262144 ∧ (∀ W', (Instr.slice 9 (sV f.b) none (some (.int .i64 (t.length : Int))) none).run Try.prog W' = .ok (sV t) W') ∧
                Hid (∀ W, Below w9.heap.size w9 W → (Calls Try.prog 21 #[.pointer (some ⟨gc, 0, none⟩), sV f.n] W fun e w' => e = .returned (.tuple #[sV f.b, .int .i64 0]) ∧ Below W.heap.size W w') ∧
                  (Calls Try.prog 21 #[.pointer (some ⟨gd, 0, none⟩), sV f.n] W fun e w' => e = .returned (.tuple #[sV t, .int .i64 (if t.length = 0 then 3 else 0)]) ∧ Below W.heap.size W w') ∧
                  (Calls Try.prog 23 #[.pointer (some ⟨gc, 0, none⟩), sV f.n] W fun e w' => e = .returned (.int .i64 (f.l : Int)) ∧ W = w') ∧
                  (Calls Try.prog 23 #[.pointer (some ⟨gd, 0, none⟩), sV f.n] W fun e w' => e = .returned (.int .i64 (t.length : Int)) ∧ W = w'))) := Lib.hid (fun i f hf W hW => by
              obtain ⟨r1, r2, r3⟩ := up_read u2 u1 hf
              obtain ⟨q1, q2, q3⟩ := mend_read u2 keep hf
              have hm := List.mem_of_getElem? hf
              have hfl := u2.lasts f hm
              have h1 := leftN_lo keep i f
              have h2 := leftN_hi keep i hfl
              have hfb := u2.len hm
              have hnn : f.n.length ≤ 100000 := by
                have := u2.names f hm
                unfold nameB at this
                simp at this
                omega
              have ht : (f.b.take (leftN keep i f)).length = leftN keep i f := by rw [List.length_take]; omega
              refine ⟨f.b.take (leftN keep i f), Lib.hid (by omega), hfb, fun W' => ?_, Lib.hid fun W' hW' => ?_⟩
              · rw [ht]
                exact slice_text f.b _ h2 W'
              · rw [ht]
                have e1 := readB' f.n hnn (C9.out.below hW')
                have e2 := readB' f.n hnn (D9.out.below hW')
                have e3 := lastsB f.n hnn (C9.out.below hW')
                have e4 := lastsB f.n hnn (D9.out.below hW')
                rw [r1, r2] at e1
                rw [q1, q2] at e2
                rw [r3] at e3
                rw [q3] at e4
                exact ⟨e1, e2, e3, e4⟩)
            have HND : Hid (∀ W, Below w9.heap.size w9 W → Calls Try.prog 29 #[.pointer (some ⟨gd, 0, none⟩)] W fun e w' => ∃ (A2 : Option Addr) (n2 c2 : Nat), e = .returned (.slice A2 n2 c2) ∧ n2 ≤ N ∧ Below W.heap.size W w') := Lib.hid (fun W hW => by
              have hl2 : (mendV D1 keep).F.length ≤ N := by
                rw [HNN.out]
                exact mendL_len _ _ _
              refine (namesB (good_mend u2 keep) (by omega) (D9.out.below hW)).mono fun e w' ⟨A2, c2, e1, _, e3⟩ => ⟨A2, _, c2, e1, ?_, e3⟩
              rw [List.length_map]
              exact hl2)
            clear u1 u2 u3 C9 D9 hN HIK
            go_wp2_with fail
            go_loopw [9, 10, 11, 12, 13] (fun i _ _ _ _ wx => ∃ k : Nat, k ≤ N ∧ i = .int .i64 (k : Int) ∧ Hid (Below w9.heap.size w9 wx)) (fun i _ _ _ _ _ => N - (intOf i).toNat)
            case atStart => exact ⟨0, Nat.zero_le _, rfl, Lib.hid (Below.refl _ _)⟩
            case round =>
              obtain ⟨q, hq, rfl, HBX⟩ := hrel
              by_cases hqt : q < N
              · obtain ⟨f, hf⟩ : ∃ f, D1.F[q]? = some f := ⟨_, List.getElem?_eq_getElem (by have := HNN.out; omega)⟩
                obtain ⟨nb, no, hNA, hnb, ncell⟩ := lies_at (Lies.below O9.out HBX.out) (k := q) (x := sV f.n) (by rw [List.getElem?_map, List.getElem?_map, hf]; rfl)
                subst hNA
                obtain ⟨t, htl, hfb, hsl, HR⟩ := HRD.out q f hf w9 (Below.refl _ _)
                have HNX : Hid (∀ W, Below w9.heap.size w9 W → W.cell? ⟨nb, no + q, none⟩ = some (sV f.n)) := Lib.hid (fun W hW => by
                  obtain ⟨nb', no', e1, -, e2⟩ := lies_at (Lies.below O9.out hW) (k := q) (x := sV f.n) (by rw [List.getElem?_map, List.getElem?_map, hf]; rfl)
                  injection e1 with e1
                  injection e1 with e1 e3
                  subst e1 e3
                  exact e2)
                obtain ⟨RC, RD, LC, LD⟩ := HR.out _ HBX.out
                have HRC := Lib.hid RC
                clear RC RD LC LD hf hnb
                have ht1 : ¬ (t.length : Int) < f.l := by have := htl.out; omega
                have ht2 : ¬ (t.length : Int) > f.b.length := by have := htl.out; omega
                have ht3 : t.length ≤ 262144 := by have := htl.out; omega
                clear htl
                by_cases ht0 : t.length = 0
                · have hte : t = [] := List.eq_nil_of_length_eq_zero ht0
                  subst hte
                  go_upto_region 22 with (first
                    | (go_at_call 21; (with_reducible refine (HR.out _ B11.out).2.1.mono ?_); rintro e w12 ⟨rfl, b12⟩; have B12 := Lib.hid (then_below B11.out b12); clear b12)
                    | (go_at_call 21; (with_reducible refine HRC.out.mono ?_); rintro e w11 ⟨rfl, b11⟩; have B11 := Lib.hid (then_below HBX.out b11); have n11 := HNX.out _ B11.out; clear b11))
                  have n12 := HNX.out _ B12.out
                  obtain ⟨-, -, LC, LD⟩ := HR.out _ B12.out
                  have HLC := Lib.hid LC
                  have HLD := Lib.hid LD
                  clear LC LD n11
                  go_wp2_with (first
                    | (go_at_call 23; (with_reducible refine HLC.out.mono ?_); rintro e w13 ⟨rfl, rfl⟩)
                    | (go_at_call 23; (with_reducible refine HLD.out.mono ?_); rintro e w13 ⟨rfl, rfl⟩))
                  go_roundw
                  case rel => exact ⟨q + 1, by omega, by go_num, B12⟩
                  case measure => simp [intOf]; omega
                · have hgt : (t.length : Int) > 0 := by omega
                  go_upto_region 22 with (first
                    | (go_at_call 21; (with_reducible refine (HR.out _ B11.out).2.1.mono ?_); rintro e w12 ⟨rfl, b12⟩; have B12 := Lib.hid (then_below B11.out b12); clear b12)
                    | (go_at_call 21; (with_reducible refine HRC.out.mono ?_); rintro e w11 ⟨rfl, b11⟩; have B11 := Lib.hid (then_below HBX.out b11); have n11 := HNX.out _ B11.out; clear b11))
                  have n12 := HNX.out _ B12.out
                  obtain ⟨-, -, LC, LD⟩ := HR.out _ B12.out
                  have HLC := Lib.hid LC
                  have HLD := Lib.hid LD
                  clear LC LD n11
                  go_wp2_with (first
                    | (go_at_call 23; (with_reducible refine HLC.out.mono ?_); rintro e w13 ⟨rfl, rfl⟩)
                    | (go_at_call 23; (with_reducible refine HLD.out.mono ?_); rintro e w13 ⟨rfl, rfl⟩))
                  go_roundw
                  case rel => exact ⟨q + 1, by omega, by go_num, B12⟩
                  case measure => simp [intOf]; omega
              · obtain rfl : q = N := by omega
                go_wp2_with (go_at_call 29; refine (HND.out _ HBX.out).mono ?_; rintro e w12 ⟨A2, n2, c2, rfl, hn2, b12⟩; have B12 := Lib.hid (then_below HBX.out b12); clear b12)
                go_ret
                exact ⟨by first | rfl | (rw [decide_eq_true (by omega)]) | simp [hn2], then_below B9.out B12.out⟩
      · by_cases hk100 : 100 < keep.length
        · have hk100' : (100 : Int) < keep.length := by omega
          clear hk100
          go_wp2_with fail
          go_ret
          exact ⟨rfl, HB⟩
        · have hk100' : ¬ (100 : Int) < keep.length := by omega
          have HN := Lib.hid (newB wr w.heap.size HB.size)
          have HBB := Lib.hid HB
          have hlk : keep.length ≤ 100 := by omega
          clear HB hk100
          go_upto_region 11 with (go_at_call 7; refine HN.out.mono ?_; rintro e w2 ⟨rfl, d2, b2⟩; have D2 := Lib.hid d2; have B2 := Lib.hid (HBB.out.trans b2); clear d2 b2)
          generalize wr.heap.size + 1 = gd at D2 ⊢
          clear HN HBB
          have HP := Lib.hid (play_any g0 (by decide) A c L w2 D2.out (HL.out.below B2.out) HLOW.out.1 HLOW.out.2 HSM.out)
          have GR := Lib.hid (good_run g0 (L := L.take 60) (fun x hx => HIN.out x (List.mem_of_mem_take hx)))
          have hFR : (runO (L.take 60) K0).F.length ≤ 60 := by
            have h1 := run_F K0 (L.take 60)
            have h2 : K0.F.length = 0 := rfl
            rw [List.length_take] at h1
            omega
          generalize runO (L.take 60) K0 = D at HP GR hFR
          go_upto_region 12 with (go_at_call 27; refine HP.out.mono ?_; rintro e w3 ⟨rfl, d3, t3⟩; have D3 : Hid (DiskB w3 w.heap.size gd D) := Lib.hid (d3.wide fun k hk => (by rcases hk with hk | hk; (· exact hk); (· exact Nat.le_trans B2.out.size hk))); have B3 := Lib.hid (B2.out.trans (t3.below B2.out.size (fun _ hk => hk))); clear d3 t3)
          clear HP D2 B2 HSM HLOW HL HIN
          have HDW := Lib.hid (downB D3.out)
          have HM : Hid (Calls Try.prog 17 #[.pointer (some ⟨gd, 0, none⟩), .slice none 0 0] w3 fun e w' => e = .returned (.tuple #[]) ∧ DiskB w' w.heap.size gd (mendV D []) ∧ Below w.heap.size w3 w') := Lib.hid (mendB GR.out (by omega) none 0 [] (fun _ h => (nomatch h)) (by decide) B3.out.size D3.out (Below.refl _ _) (.inl rfl) (fun _ h => (nomatch h)))
          -- the disk that is up, whatever it was
          have HUP : Hid (Hid (D.off = true) → (mendV D []).off = false ∧ GoodD (mendV D []) ∧ (mendV D []).F.length ≤ 60) := Lib.hid (fun _ => ⟨rfl, good_mend GR.out _, Nat.le_trans (mendL_len _ _ _) hFR⟩)
          cases hoff : D.off with
          | true =>
            obtain ⟨u1, u2, u3⟩ := HUP.out (Lib.hid hoff)
            rw [hoff] at HDW
            generalize mendV D [] = D1 at HM u1 u2 u3
            clear hoff HUP GR hFR
            go_upto_region 14 with (first
              | (go_at_call 28; refine HDW.out.mono ?_; rintro e w4 ⟨rfl, rfl⟩)
              | (go_at_call 17; (with_reducible refine HM.out.mono ?_); rintro e w5 ⟨rfl, d5, b5⟩; have D5 := Lib.hid d5; have B5 := Lib.hid (B3.out.trans b5); clear d5 b5))
            clear HDW HM D3 B3
            have HC := Lib.hid (copyB u2 (by omega) D5.out)
            go_upto_region 15 with (go_at_call 19; refine HC.out.mono ?_; rintro e w6 ⟨rfl, d6, b6⟩; have C6 := Lib.hid d6; have B56 := Lib.hid b6; clear d6 b6)
            generalize w5.heap.size + 1 = gc at C6 ⊢
            have D6 : Hid (DiskP w6 (fun k => w.heap.size ≤ k ∧ k < w5.heap.size) gd D1) := Lib.hid (by
              obtain ⟨mb, E, h1, h2⟩ := D5.out
              exact DiskP.below ⟨mb, E, h1, fun k hk => ⟨h2 k hk, h1.inside hk⟩⟩ B56.out)
            have B6 := Lib.hid (then_below B5.out B56.out)
            have HB56 : Hid (w5.heap.size ≤ w6.heap.size ∧ w.heap.size ≤ w5.heap.size) := Lib.hid ⟨B56.out.size, B5.out.size⟩
            clear HC D5 B5 B56
            obtain ⟨A', c', w7, hap, hl7, hn7, b7⟩ := own_ints w6 KA kc keep (by omega) (Lies.below HK.out B6.out) 29
            have HM2 := Lib.hid (mendS u2 (by omega) A' c' keep (fun x hx => (HIK.out x hx).2) (by omega) D6.out b7 hl7 hn7)
            clear hl7 hn7 b7
            go_upto_region 16 with (first | (at_builtin; refine wpList_append_run rfl _ _ 29 29 rfl rfl rfl hap ?_) | (go_at_call 17; (with_reducible refine HM2.out.mono ?_); rintro e w8 ⟨rfl, d8, t8⟩; have D8 := Lib.hid d8; have T8 := Lib.hid t8; clear d8 t8))
            have C8 : Hid (DiskB w8 w5.heap.size gc D1) := Lib.hid (DiskP.turn C6.out T8.out (fun k h1 h2 => by omega))
            have D8' : Hid (DiskB w8 w.heap.size gd (mendV D1 keep)) := Lib.hid (D8.out.wide fun k hk => (by
              have h0 := HB56.out
              rcases hk with hk | hk
              · exact hk.1
              · omega))
            have B8 : Hid (Below w.heap.size w w8) := Lib.hid (B6.out.trans (T8.out.below B6.out.size (fun _ hk => hk.1)))
            clear hap HM2 D6 C6 B6 D8 T8 HK
            have HNC := Lib.hid (namesB u2 (by omega) C8.out)
            go_upto_region 17 with (go_at_call 29; refine HNC.out.mono ?_; rintro e w9 ⟨NA, nc, rfl, o9, b9⟩; have O9 := Lib.hid (OwnS.lies o9); have C9 := Lib.hid (C8.out.below b9); have D9 := Lib.hid (D8'.out.below b9); have B9 := Lib.hid (then_below B8.out b9); clear o9 b9)
            clear HNC C8 D8' B8
            obtain ⟨N, hN⟩ : ∃ N, N = D1.F.length := ⟨_, rfl⟩
            rw [← hN]
            have HNN := Lib.hid hN
            have hN60 : N ≤ 60 := by omega
            -- what is read of each file
            have HRD : Hid (∀ (i : Nat) (f : Fl), D1.F[i]? = some f → ∀ W, Below w9.heap.size w9 W → ∃ t : Bs, Hid (t.length ≤ f.b.length ∧ f.l ≤ t.length) ∧ f.b.length ≤ 262144 ∧ (∀ W', (Instr.slice 9 (sV f.b) none (some (.int .i64 (t.length : Int))) none).run Try.prog W' = .ok (sV t) W') ∧
                Hid (∀ W, Below w9.heap.size w9 W → (Calls Try.prog 21 #[.pointer (some ⟨gc, 0, none⟩), sV f.n] W fun e w' => e = .returned (.tuple #[sV f.b, .int .i64 0]) ∧ Below W.heap.size W w') ∧
                  (Calls Try.prog 21 #[.pointer (some ⟨gd, 0, none⟩), sV f.n] W fun e w' => e = .returned (.tuple #[sV t, .int .i64 (if t.length = 0 then 3 else 0)]) ∧ Below W.heap.size W w') ∧
                  (Calls Try.prog 23 #[.pointer (some ⟨gc, 0, none⟩), sV f.n] W fun e w' => e = .returned (.int .i64 (f.l : Int)) ∧ W = w') ∧
                  (Calls Try.prog 23 #[.pointer (some ⟨gd, 0, none⟩), sV f.n] W fun e w' => e = .returned (.int .i64 (t.length : Int)) ∧ W = w'))) := Lib.hid (fun i f hf W hW => by
              obtain ⟨r1, r2, r3⟩ := up_read u2 u1 hf
              obtain ⟨q1, q2, q3⟩ := mend_read u2 keep hf
              have hm := List.mem_of_getElem? hf
              have hfl := u2.lasts f hm
              have h1 := leftN_lo keep i f
              have h2 := leftN_hi keep i hfl
              have hfb := u2.len hm
              have hnn : f.n.length ≤ 100000 := by
                have := u2.names f hm
                unfold nameB at this
                simp at this
                omega
              have ht : (f.b.take (leftN keep i f)).length = leftN keep i f := by rw [List.length_take]; omega
              refine ⟨f.b.take (leftN keep i f), Lib.hid (by omega), hfb, fun W' => ?_, Lib.hid fun W' hW' => ?_⟩
              · rw [ht]
                exact slice_text f.b _ h2 W'
              · rw [ht]
                have e1 := readB' f.n hnn (C9.out.below hW')
                have e2 := readB' f.n hnn (D9.out.below hW')
                have e3 := lastsB f.n hnn (C9.out.below hW')
                have e4 := lastsB f.n hnn (D9.out.below hW')
                rw [r1, r2] at e1
                rw [q1, q2] at e2
                rw [r3] at e3
                rw [q3] at e4
                exact ⟨e1, e2, e3, e4⟩)
            have HND : Hid (∀ W, Below w9.heap.size w9 W → Calls Try.prog 29 #[.pointer (some ⟨gd, 0, none⟩)] W fun e w' => ∃ (A2 : Option Addr) (n2 c2 : Nat), e = .returned (.slice A2 n2 c2) ∧ n2 ≤ N ∧ Below W.heap.size W w') := Lib.hid (fun W hW => by
              have hl2 : (mendV D1 keep).F.length ≤ N := by
                rw [HNN.out]
                exact mendL_len _ _ _
              refine (namesB (good_mend u2 keep) (by omega) (D9.out.below hW)).mono fun e w' ⟨A2, c2, e1, _, e3⟩ => ⟨A2, _, c2, e1, ?_, e3⟩
              rw [List.length_map]
              exact hl2)
            clear u1 u2 u3 C9 D9 hN HIK
            go_wp2_with fail
            go_loopw [9, 10, 11, 12, 13] (fun i _ _ _ _ wx => ∃ k : Nat, k ≤ N ∧ i = .int .i64 (k : Int) ∧ Hid (Below w9.heap.size w9 wx)) (fun i _ _ _ _ _ => N - (intOf i).toNat)
            case atStart => exact ⟨0, Nat.zero_le _, rfl, Lib.hid (Below.refl _ _)⟩
            case round =>
              obtain ⟨q, hq, rfl, HBX⟩ := hrel
              by_cases hqt : q < N
              · obtain ⟨f, hf⟩ : ∃ f, D1.F[q]? = some f := ⟨_, List.getElem?_eq_getElem (by have := HNN.out; omega)⟩
                obtain ⟨nb, no, hNA, hnb, ncell⟩ := lies_at (Lies.below O9.out HBX.out) (k := q) (x := sV f.n) (by rw [List.getElem?_map, List.getElem?_map, hf]; rfl)
                subst hNA
                obtain ⟨t, htl, hfb, hsl, HR⟩ := HRD.out q f hf w9 (Below.refl _ _)
                have HNX : Hid (∀ W, Below w9.heap.size w9 W → W.cell? ⟨nb, no + q, none⟩ = some (sV f.n)) := Lib.hid (fun W hW => by
                  obtain ⟨nb', no', e1, -, e2⟩ := lies_at (Lies.below O9.out hW) (k := q) (x := sV f.n) (by rw [List.getElem?_map, List.getElem?_map, hf]; rfl)
                  injection e1 with e1
                  injection e1 with e1 e3
                  subst e1 e3
                  exact e2)
                obtain ⟨RC, RD, LC, LD⟩ := HR.out _ HBX.out
                have HRC := Lib.hid RC
                clear RC RD LC LD hf hnb
                have ht1 : ¬ (t.length : Int) < f.l := by have := htl.out; omega
                have ht2 : ¬ (t.length : Int) > f.b.length := by have := htl.out; omega
                have ht3 : t.length ≤ 262144 := by have := htl.out; omega
                clear htl
                by_cases ht0 : t.length = 0
                · have hte : t = [] := List.eq_nil_of_length_eq_zero ht0
                  subst hte
                  go_upto_region 22 with (first
                    | (go_at_call 21; (with_reducible refine (HR.out _ B11.out).2.1.mono ?_); rintro e w12 ⟨rfl, b12⟩; have B12 := Lib.hid (then_below B11.out b12); clear b12)
                    | (go_at_call 21; (with_reducible refine HRC.out.mono ?_); rintro e w11 ⟨rfl, b11⟩; have B11 := Lib.hid (then_below HBX.out b11); have n11 := HNX.out _ B11.out; clear b11))
                  have n12 := HNX.out _ B12.out
                  obtain ⟨-, -, LC, LD⟩ := HR.out _ B12.out
                  have HLC := Lib.hid LC
                  have HLD := Lib.hid LD
                  clear LC LD n11
                  go_wp2_with (first
                    | (go_at_call 23; (with_reducible refine HLC.out.mono ?_); rintro e w13 ⟨rfl, rfl⟩)
                    | (go_at_call 23; (with_reducible refine HLD.out.mono ?_); rintro e w13 ⟨rfl, rfl⟩))
                  go_roundw
                  case rel => exact ⟨q + 1, by omega, by go_num, B12⟩
                  case measure => simp [intOf]; omega
                · have hgt : (t.length : Int) > 0 := by omega
                  go_upto_region 22 with (first
                    | (go_at_call 21; (with_reducible refine (HR.out _ B11.out).2.1.mono ?_); rintro e w12 ⟨rfl, b12⟩; have B12 := Lib.hid (then_below B11.out b12); clear b12)
                    | (go_at_call 21; (with_reducible refine HRC.out.mono ?_); rintro e w11 ⟨rfl, b11⟩; have B11 := Lib.hid (then_below HBX.out b11); have n11 := HNX.out _ B11.out; clear b11))
                  have n12 := HNX.out _ B12.out
                  obtain ⟨-, -, LC, LD⟩ := HR.out _ B12.out
                  have HLC := Lib.hid LC
                  have HLD := Lib.hid LD
                  clear LC LD n11
                  go_wp2_with (first
                    | (go_at_call 23; (with_reducible refine HLC.out.mono ?_); rintro e w13 ⟨rfl, rfl⟩)
                    | (go_at_call 23; (with_reducible refine HLD.out.mono ?_); rintro e w13 ⟨rfl, rfl⟩))
                  go_roundw
                  case rel => exact ⟨q + 1, by omega, by go_num, B12⟩
                  case measure => simp [intOf]; omega
              · obtain rfl : q = N := by omega
                go_wp2_with (go_at_call 29; refine (HND.out _ HBX.out).mono ?_; rintro e w12 ⟨A2, n2, c2, rfl, hn2, b12⟩; have B12 := Lib.hid (then_below HBX.out b12); clear b12)
                go_ret
                exact ⟨by first | rfl | (rw [decide_eq_true (by omega)]) | simp [hn2], then_below B9.out B12.out⟩
          | false =>
            have u1 := hoff
            have u2 := GR.out
            have u3 := hFR
            rw [hoff] at HDW
            clear hoff HUP HM GR hFR
            go_upto_region 14 with (go_at_call 28; refine HDW.out.mono ?_; rintro e w4 ⟨rfl, rfl⟩)
            obtain ⟨D1, hD1⟩ : ∃ D1, D1 = D := ⟨_, rfl⟩
            rw [← hD1] at D3 u1 u2 u3
            clear hD1 HDW
            obtain ⟨w5, hw5⟩ : ∃ w5, w5 = w3 := ⟨_, rfl⟩
            have D5 : Hid (DiskB w5 w.heap.size gd D1) := hw5 ▸ D3
            have B5 : Hid (Below w.heap.size w w5) := hw5 ▸ B3
            subst hw5
            clear D3 B3
            have HC := Lib.hid (copyB u2 (by omega) D5.out)
            go_upto_region 15 with (go_at_call 19; refine HC.out.mono ?_; rintro e w6 ⟨rfl, d6, b6⟩; have C6 := Lib.hid d6; have B56 := Lib.hid b6; clear d6 b6)
            generalize w5.heap.size + 1 = gc at C6 ⊢
            have D6 : Hid (DiskP w6 (fun k => w.heap.size ≤ k ∧ k < w5.heap.size) gd D1) := Lib.hid (by
              obtain ⟨mb, E, h1, h2⟩ := D5.out
              exact DiskP.below ⟨mb, E, h1, fun k hk => ⟨h2 k hk, h1.inside hk⟩⟩ B56.out)
            have B6 := Lib.hid (then_below B5.out B56.out)
            have HB56 : Hid (w5.heap.size ≤ w6.heap.size ∧ w.heap.size ≤ w5.heap.size) := Lib.hid ⟨B56.out.size, B5.out.size⟩
            clear HC D5 B5 B56
            obtain ⟨A', c', w7, hap, hl7, hn7, b7⟩ := own_ints w6 KA kc keep (by omega) (Lies.below HK.out B6.out) 29
            have HM2 := Lib.hid (mendS u2 (by omega) A' c' keep (fun x hx => (HIK.out x hx).2) (by omega) D6.out b7 hl7 hn7)
            clear hl7 hn7 b7
            go_upto_region 16 with (first | (at_builtin; refine wpList_append_run rfl _ _ 29 29 rfl rfl rfl hap ?_) | (go_at_call 17; (with_reducible refine HM2.out.mono ?_); rintro e w8 ⟨rfl, d8, t8⟩; have D8 := Lib.hid d8; have T8 := Lib.hid t8; clear d8 t8))
            have C8 : Hid (DiskB w8 w5.heap.size gc D1) := Lib.hid (DiskP.turn C6.out T8.out (fun k h1 h2 => by omega))
            have D8' : Hid (DiskB w8 w.heap.size gd (mendV D1 keep)) := Lib.hid (D8.out.wide fun k hk => (by
              have h0 := HB56.out
              rcases hk with hk | hk
              · exact hk.1
              · omega))
            have B8 : Hid (Below w.heap.size w w8) := Lib.hid (B6.out.trans (T8.out.below B6.out.size (fun _ hk => hk.1)))
            clear hap HM2 D6 C6 B6 D8 T8 HK
            have HNC := Lib.hid (namesB u2 (by omega) C8.out)
            go_upto_region 17 with (go_at_call 29; refine HNC.out.mono ?_; rintro e w9 ⟨NA, nc, rfl, o9, b9⟩; have O9 := Lib.hid (OwnS.lies o9); have C9 := Lib.hid (C8.out.below b9); have D9 := Lib.hid (D8'.out.below b9); have B9 := Lib.hid (then_below B8.out b9); clear o9 b9)
            clear HNC C8 D8' B8
            obtain ⟨N, hN⟩ : ∃ N, N = D1.F.length := ⟨_, rfl⟩
            rw [← hN]
            have HNN := Lib.hid hN
            have hN60 : N ≤ 60 := by omega
            -- what is read of each file
            have HRD : Hid (∀ (i : Nat) (f : Fl), D1.F[i]? = some f → ∀ W, Below w9.heap.size w9 W → ∃ t : Bs, Hid (t.length ≤ f.b.length ∧ f.l ≤ t.length) ∧ f.b.length ≤ 262144 ∧ (∀ W', (Instr.slice 9 (sV f.b) none (some (.int .i64 (t.length : Int))) none).run Try.prog W' = .ok (sV t) W') ∧
                Hid (∀ W, Below w9.heap.size w9 W → (Calls Try.prog 21 #[.pointer (some ⟨gc, 0, none⟩), sV f.n] W fun e w' => e = .returned (.tuple #[sV f.b, .int .i64 0]) ∧ Below W.heap.size W w') ∧
                  (Calls Try.prog 21 #[.pointer (some ⟨gd, 0, none⟩), sV f.n] W fun e w' => e = .returned (.tuple #[sV t, .int .i64 (if t.length = 0 then 3 else 0)]) ∧ Below W.heap.size W w') ∧
                  (Calls Try.prog 23 #[.pointer (some ⟨gc, 0, none⟩), sV f.n] W fun e w' => e = .returned (.int .i64 (f.l : Int)) ∧ W = w') ∧
                  (Calls Try.prog 23 #[.pointer (some ⟨gd, 0, none⟩), sV f.n] W fun e w' => e = .returned (.int .i64 (t.length : Int)) ∧ W = w'))) := Lib.hid (fun i f hf W hW => by
              obtain ⟨r1, r2, r3⟩ := up_read u2 u1 hf
              obtain ⟨q1, q2, q3⟩ := mend_read u2 keep hf
              have hm := List.mem_of_getElem? hf
              have hfl := u2.lasts f hm
              have h1 := leftN_lo keep i f
              have h2 := leftN_hi keep i hfl
              have hfb := u2.len hm
              have hnn : f.n.length ≤ 100000 := by
                have := u2.names f hm
                unfold nameB at this
                simp at this
                omega
              have ht : (f.b.take (leftN keep i f)).length = leftN keep i f := by rw [List.length_take]; omega
              refine ⟨f.b.take (leftN keep i f), Lib.hid (by omega), hfb, fun W' => ?_, Lib.hid fun W' hW' => ?_⟩
              · rw [ht]
                exact slice_text f.b _ h2 W'
              · rw [ht]
                have e1 := readB' f.n hnn (C9.out.below hW')
                have e2 := readB' f.n hnn (D9.out.below hW')
                have e3 := lastsB f.n hnn (C9.out.below hW')
                have e4 := lastsB f.n hnn (D9.out.below hW')
                rw [r1, r2] at e1
                rw [q1, q2] at e2
                rw [r3] at e3
                rw [q3] at e4
                exact ⟨e1, e2, e3, e4⟩)
            have HND : Hid (∀ W, Below w9.heap.size w9 W → Calls Try.prog 29 #[.pointer (some ⟨gd, 0, none⟩)] W fun e w' => ∃ (A2 : Option Addr) (n2 c2 : Nat), e = .returned (.slice A2 n2 c2) ∧ n2 ≤ N ∧ Below W.heap.size W w') := Lib.hid (fun W hW => by
              have hl2 : (mendV D1 keep).F.length ≤ N := by
                rw [HNN.out]
                exact mendL_len _ _ _
              refine (namesB (good_mend u2 keep) (by omega) (D9.out.below hW)).mono fun e w' ⟨A2, c2, e1, _, e3⟩ => ⟨A2, _, c2, e1, ?_, e3⟩
              rw [List.length_map]
              exact hl2)
            clear u1 u2 u3 C9 D9 hN HIK
            go_wp2_with fail
            go_loopw [9, 10, 11, 12, 13] (fun i _ _ _ _ wx => ∃ k : Nat, k ≤ N ∧ i = .int .i64 (k : Int) ∧ Hid (Below w9.heap.size w9 wx)) (fun i _ _ _ _ _ => N - (intOf i).toNat)
            case atStart => exact ⟨0, Nat.zero_le _, rfl, Lib.hid (Below.refl _ _)⟩
            case round =>
              obtain ⟨q, hq, rfl, HBX⟩ := hrel
              by_cases hqt : q < N
              · obtain ⟨f, hf⟩ : ∃ f, D1.F[q]? = some f := ⟨_, List.getElem?_eq_getElem (by have := HNN.out; omega)⟩
                obtain ⟨nb, no, hNA, hnb, ncell⟩ := lies_at (Lies.below O9.out HBX.out) (k := q) (x := sV f.n) (by rw [List.getElem?_map, List.getElem?_map, hf]; rfl)
                subst hNA
                obtain ⟨t, htl, hfb, hsl, HR⟩ := HRD.out q f hf w9 (Below.refl _ _)
                have HNX : Hid (∀ W, Below w9.heap.size w9 W → W.cell? ⟨nb, no + q, none⟩ = some (sV f.n)) := Lib.hid (fun W hW => by
                  obtain ⟨nb', no', e1, -, e2⟩ := lies_at (Lies.below O9.out hW) (k := q) (x := sV f.n) (by rw [List.getElem?_map, List.getElem?_map, hf]; rfl)
                  injection e1 with e1
                  injection e1 with e1 e3
                  subst e1 e3
                  exact e2)
                obtain ⟨RC, RD, LC, LD⟩ := HR.out _ HBX.out
                have HRC := Lib.hid RC
                clear RC RD LC LD hf hnb
                have ht1 : ¬ (t.length : Int) < f.l := by have := htl.out; omega
                have ht2 : ¬ (t.length : Int) > f.b.length := by have := htl.out; omega
                have ht3 : t.length ≤ 262144 := by have := htl.out; omega
                clear htl
                by_cases ht0 : t.length = 0
                · have hte : t = [] := List.eq_nil_of_length_eq_zero ht0
                  subst hte
                  go_upto_region 22 with (first
                    | (go_at_call 21; (with_reducible refine (HR.out _ B11.out).2.1.mono ?_); rintro e w12 ⟨rfl, b12⟩; have B12 := Lib.hid (then_below B11.out b12); clear b12)
                    | (go_at_call 21; (with_reducible refine HRC.out.mono ?_); rintro e w11 ⟨rfl, b11⟩; have B11 := Lib.hid (then_below HBX.out b11); have n11 := HNX.out _ B11.out; clear b11))
                  have n12 := HNX.out _ B12.out
                  obtain ⟨-, -, LC, LD⟩ := HR.out _ B12.out
                  have HLC := Lib.hid LC
                  have HLD := Lib.hid LD
                  clear LC LD n11
                  go_wp2_with (first
                    | (go_at_call 23; (with_reducible refine HLC.out.mono ?_); rintro e w13 ⟨rfl, rfl⟩)
                    | (go_at_call 23; (with_reducible refine HLD.out.mono ?_); rintro e w13 ⟨rfl, rfl⟩))
                  go_roundw
                  case rel => exact ⟨q + 1, by omega, by go_num, B12⟩
                  case measure => simp [intOf]; omega
                · have hgt : (t.length : Int) > 0 := by omega
                  go_upto_region 22 with (first
                    | (go_at_call 21; (with_reducible refine (HR.out _ B11.out).2.1.mono ?_); rintro e w12 ⟨rfl, b12⟩; have B12 := Lib.hid (then_below B11.out b12); clear b12)
                    | (go_at_call 21; (with_reducible refine HRC.out.mono ?_); rintro e w11 ⟨rfl, b11⟩; have B11 := Lib.hid (then_below HBX.out b11); have n11 := HNX.out _ B11.out; clear b11))
                  have n12 := HNX.out _ B12.out
                  obtain ⟨-, -, LC, LD⟩ := HR.out _ B12.out
                  have HLC := Lib.hid LC
                  have HLD := Lib.hid LD
                  clear LC LD n11
                  go_wp2_with (first
                    | (go_at_call 23; (with_reducible refine HLC.out.mono ?_); rintro e w13 ⟨rfl, rfl⟩)
                    | (go_at_call 23; (with_reducible refine HLD.out.mono ?_); rintro e w13 ⟨rfl, rfl⟩))
                  go_roundw
                  case rel => exact ⟨q + 1, by omega, by go_num, B12⟩
                  case measure => simp [intOf]; omega
              · obtain rfl : q = N := by omega
                go_wp2_with (go_at_call 29; refine (HND.out _ HBX.out).mono ?_; rintro e w12 ⟨A2, n2, c2, rfl, hn2, b12⟩; have B12 := Lib.hid (then_below HBX.out b12); clear b12)
                go_ret
                exact ⟨by first | rfl | (rw [decide_eq_true (by omega)]) | simp [hn2], then_below B9.out B12.out⟩
end Go.Proofs.Ytkfjgmfokpgcbaa.disk
