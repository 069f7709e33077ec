/-
  The contract of the document's Append.
-/
import Derived.Test.YtkfjgmfokpgcbaaJRk5
set_option linter.unusedSimpArgs false
set_option linter.unusedVariables false
namespace Go.Proofs.Ytkfjgmfokpgcbaa.disk
open Go.ChangeShapes Go.WideShapes Go.ChangeAt Go.RowKit
open Go.Proofs.Ytkfjgmfokpgcbaa.words Go.Proofs.Ytkfjgmfokpgcbaa.opened Go.Proofs.Ytkfjgmfokpgcbaa.block Go.Proofs.Ytkfjgmfokpgcbaa.data Go.Proofs.Ytkfjgmfokpgcbaa.region

set_option maxRecDepth 100000 in
set_option maxHeartbeats 4000000 in
theorem appendR_any {S : Nat → Prop} {g : Nat} {D : Dk} (G : GoodD D) (hF : D.F.length ≤ 100000) (n s : Bs) (_hs : s.length ≤ 100000) (w : World) (h : RefP w S g D) :
    Calls Try.prog 10 #[.pointer (some ⟨g, 0, none⟩), sV n, sV s] w fun e w' => e = .returned (.int .i64 (appE D n s)) ∧ RefP w' (More w S) g (appV D n s) ∧ Turn w w' S := by
  obtain ⟨V, n0, h, hSg, hS⟩ := h
  have AH := Lib.hid (ahead_any n w h)
  have ST := Lib.hid (fun W (b : Below w.heap.size w W) => stepR_any G.hi W (h.below b))
  have HB := Lib.hid (fun W (b : Below w.heap.size w W) => h.below b)
  have PL := Lib.hid (fun W n1 (k : RefE W g (stpV D) V n1) => place_any (by rw [stpV_F]; exact hF) n W k)
  clear h
  have hroom := G.room
  have HM : Hid (∀ k, S k → More w S k) := Lib.hid (fun k hk => .inl hk)
  have hsub : IntKind.i64.wrap (262144 - ((used D.F : Nat) : Int)) = 262144 - ((used D.F : Nat) : Int) := by rw [IntKind.wrap_i64]; omega
  by_cases hc : chk D n = 0
  rotate_left
  · obtain ⟨e1, e2⟩ := app_bad (s := s) hc
    rw [e1, e2]
    have hne : (chk D n == 0) = false := by rw [beq_eq_false_iff_ne]; exact hc
    clear e1 e2 hc
    generalize chk D n = x at AH hne ⊢
    go_enter Try.func10, Try.ntmps10
    go_wp2_with (go_at_call 33; refine AH.out.mono ?_; rintro e w1 ⟨rfl, b1⟩; have B1 := Lib.hid b1; clear b1)
    go_ret
    exact ⟨rfl, ⟨V, n0, HB.out _ B1.out, .inl hSg, fun k e => .inl (hS k e)⟩, turn_below B1.out _⟩
  rw [hc] at AH
  by_cases hbig : 262144 < used D.F + s.length
  · obtain ⟨e1, e2⟩ := app_big hc hbig
    rw [e1, e2]
    have hb2 : 262144 - ((used D.F : Nat) : Int) < (s.length : Int) := by omega
    clear e1 e2 hc
    go_enter Try.func10, Try.ntmps10
    go_wp2_with (go_at_call 33; refine AH.out.mono ?_; rintro e w1 ⟨rfl, b1⟩; have B1 := Lib.hid b1; clear b1)
    have K1 := Lib.hid (HB.out _ B1.out)
    obtain ⟨A, c, hV, -, -⟩ := K1.out.own.shape
    have k0 : w1.cell? ⟨g, 0, none⟩ = some (.slice A D.F.length c) := by have := K1.out.cells.read 0; rw [hV] at this; exact this
    have HLf : Hid (Lf w1 A D.F) := Lib.hid (by have := K1.out.own; rw [hV] at this; exact OwnG.lg cellsF this)
    go_loopw [8, 9] (fun v8 s wr => ∃ k : Nat, k ≤ D.F.length ∧ s = .int .i64 k ∧ v8 = .int .i64 ((used (D.F.take k) : Nat) : Int) ∧ wr = w1) (fun _ s _ => D.F.length - (intOf s).toNat)
    case atStart => exact ⟨0, Nat.zero_le _, rfl, rfl, rfl⟩
    case round =>
      rename World => wy
      obtain ⟨k, hk, rfl, rfl, rfl⟩ := hrel
      by_cases hlt : k < D.F.length
      · obtain ⟨f, hf⟩ : ∃ f, D.F[k]? = some f := ⟨_, List.getElem?_eq_getElem hlt⟩
        obtain ⟨b, off, rfl, hb, -, c1, -⟩ := at_f HLf.out hf
        have hu := used_take hf
        have hle := Nat.le_trans (used_le D.F (k + 1)) G.room
        have hw : IntKind.i64.wrap (((used (D.F.take k) : Nat) : Int) + (f.b.length : Int)) = ((used (D.F.take (k + 1)) : Nat) : Int) := by rw [IntKind.wrap_i64]; omega
        clear hf hu
        generalize hq : used (D.F.take (k + 1)) = u2 at hw hle
        have HU := Lib.hid hq
        clear hq
        go_wp2_with fail
        go_roundw
        case rel => exact ⟨k + 1, by omega, by go_num, by rw [HU.out], by trivial⟩
        case measure => simp [intOf]; omega
      · obtain rfl : k = D.F.length := by omega
        rw [List.take_length]
        have BX := B1
        go_wp2_with fail
        go_ret
        exact ⟨rfl, ⟨V, n0, HB.out _ B1.out, .inl hSg, fun k e => .inl (hS k e)⟩, turn_below B1.out _⟩
  have hb2 : ¬ 262144 - ((used D.F : Nat) : Int) < (s.length : Int) := by omega
  rcases stp_two D with hz | hz
  rotate_left
  · obtain ⟨e1, e2⟩ := app_stop (s := s) hc hbig hz
    rw [e1, e2]
    rw [hz] at ST
    clear e1 e2 hc hz
    go_enter Try.func10, Try.ntmps10
    go_wp2_with (go_at_call 33; refine AH.out.mono ?_; rintro e w1 ⟨rfl, b1⟩; have B1 := Lib.hid b1; clear b1)
    have K1 := Lib.hid (HB.out _ B1.out)
    obtain ⟨A, c, hV, -, -⟩ := K1.out.own.shape
    have k0 : w1.cell? ⟨g, 0, none⟩ = some (.slice A D.F.length c) := by have := K1.out.cells.read 0; rw [hV] at this; exact this
    have HLf : Hid (Lf w1 A D.F) := Lib.hid (by have := K1.out.own; rw [hV] at this; exact OwnG.lg cellsF this)
    go_loopw [8, 9] (fun v8 s wr => ∃ k : Nat, k ≤ D.F.length ∧ s = .int .i64 k ∧ v8 = .int .i64 ((used (D.F.take k) : Nat) : Int) ∧ wr = w1) (fun _ s _ => D.F.length - (intOf s).toNat)
    case atStart => exact ⟨0, Nat.zero_le _, rfl, rfl, rfl⟩
    case round =>
      rename World => wy
      obtain ⟨k, hk, rfl, rfl, rfl⟩ := hrel
      by_cases hlt : k < D.F.length
      · obtain ⟨f, hf⟩ : ∃ f, D.F[k]? = some f := ⟨_, List.getElem?_eq_getElem hlt⟩
        obtain ⟨b, off, rfl, hb, -, c1, -⟩ := at_f HLf.out hf
        have hu := used_take hf
        have hle := Nat.le_trans (used_le D.F (k + 1)) G.room
        have hw : IntKind.i64.wrap (((used (D.F.take k) : Nat) : Int) + (f.b.length : Int)) = ((used (D.F.take (k + 1)) : Nat) : Int) := by rw [IntKind.wrap_i64]; omega
        clear hf hu
        generalize hq : used (D.F.take (k + 1)) = u2 at hw hle
        have HU := Lib.hid hq
        clear hq
        go_wp2_with fail
        go_roundw
        case rel => exact ⟨k + 1, by omega, by go_num, by rw [HU.out], by trivial⟩
        case measure => simp [intOf]; omega
      · obtain rfl : k = D.F.length := by omega
        rw [List.take_length]
        have BX := B1
        go_wp2_with (go_at_call 34; refine (ST.out _ BX.out).mono ?_; rintro e w3 ⟨rfl, ⟨n1, h1⟩, g1, s1⟩; have H1 := Lib.hid h1; have G1 := Lib.hid g1; clear h1 g1 s1)
        go_ret
        exact ⟨rfl, ⟨V, _, H1.out, .inl hSg, fun k e => .inl (hS k e)⟩, (turn_below B1.out S).trans (turn_grown G1.out (fun k e => by cases e; exact hSg) : Turn _ _ S) (fun j hj => .inl hj)⟩
  obtain ⟨e1, e2⟩ := app_go (s := s) hc hbig hz
  rw [hz] at ST
  rw [e1, e2]
  clear e1 e2 hz
  cases hk0 : lk D.F n with
  | some f =>
    obtain ⟨P, R, hsp, hfn, -, hp⟩ := lk_split hk0
    rw [stpV_F, hp] at PL
    have hlt0 : P.length < D.F.length := by rw [hsp]; simp
    have hnn : (0 : Int) ≤ ((P.length : Nat) : Int) := by omega
    have e3 : put ⟨n, oldB D.F n ++ s, oldL D.F n⟩ D.F = P ++ ⟨f.n, f.b ++ s, f.l⟩ :: R := by
      have ho : oldB D.F n = f.b := by unfold oldB; rw [hk0]; rfl
      have ho2 : oldL D.F n = f.l := by unfold oldL; rw [hk0]; rfl
      rw [ho, ho2, ← hfn, hsp, put_mid (A := P) (R := R) (f := f) (g := ⟨f.n, f.b ++ s, f.l⟩) (hsp ▸ G.srt) rfl]
    rw [e3]
    have HSV : Hid ((stpV D).F = P ++ f :: R) := Lib.hid (by rw [stpV_F]; exact hsp)
    have HFL : Hid ((stpV D).F.length = D.F.length) := Lib.hid (by rw [stpV_F])
    have hln := G.len (f := f) (by rw [hsp]; simp)
    have hlen : ¬ 9223372036854775807 < f.b.length + s.length := by omega
    have hcat : ({ data := f.b.toArray } : ByteArray) ++ { data := s.toArray } = ⟨(f.b ++ s).toArray⟩ := ByteArray.ext (by simp)
    clear e3 hc hk0 hp hsp hln
    go_enter Try.func10, Try.ntmps10
    go_wp2_with (go_at_call 33; refine AH.out.mono ?_; rintro e w1 ⟨rfl, b1⟩; have B1 := Lib.hid b1; clear b1)
    have K1 := Lib.hid (HB.out _ B1.out)
    obtain ⟨A, c, hV, -, -⟩ := K1.out.own.shape
    have k0 : w1.cell? ⟨g, 0, none⟩ = some (.slice A D.F.length c) := by have := K1.out.cells.read 0; rw [hV] at this; exact this
    have HLf : Hid (Lf w1 A D.F) := Lib.hid (by have := K1.out.own; rw [hV] at this; exact OwnG.lg cellsF this)
    go_loopw [8, 9] (fun v8 s wr => ∃ k : Nat, k ≤ D.F.length ∧ s = .int .i64 k ∧ v8 = .int .i64 ((used (D.F.take k) : Nat) : Int) ∧ wr = w1) (fun _ s _ => D.F.length - (intOf s).toNat)
    case atStart => exact ⟨0, Nat.zero_le _, rfl, rfl, rfl⟩
    case round =>
      rename World => wy
      obtain ⟨k, hk, rfl, rfl, rfl⟩ := hrel
      by_cases hlt : k < D.F.length
      · obtain ⟨f, hf⟩ : ∃ f, D.F[k]? = some f := ⟨_, List.getElem?_eq_getElem hlt⟩
        obtain ⟨b, off, rfl, hb, -, c1, -⟩ := at_f HLf.out hf
        have hu := used_take hf
        have hle := Nat.le_trans (used_le D.F (k + 1)) G.room
        have hw : IntKind.i64.wrap (((used (D.F.take k) : Nat) : Int) + (f.b.length : Int)) = ((used (D.F.take (k + 1)) : Nat) : Int) := by rw [IntKind.wrap_i64]; omega
        clear hf hu
        generalize hq : used (D.F.take (k + 1)) = u2 at hw hle
        have HU := Lib.hid hq
        clear hq
        go_wp2_with fail
        go_roundw
        case rel => exact ⟨k + 1, by omega, by go_num, by rw [HU.out], by trivial⟩
        case measure => simp [intOf]; omega
      · obtain rfl : k = D.F.length := by omega
        rw [List.take_length]
        have BX := B1
        go_upto_region 16 with (first
          | (go_at_call 35; refine (PL.out _ _ H1.out).mono ?_; rintro e w4 ⟨rfl, rfl⟩)
          | (go_at_call 34; refine (ST.out _ BX.out).mono ?_; rintro e w3 ⟨rfl, ⟨n1, h1⟩, g1, s1⟩; have H1 := Lib.hid h1; have G1 := Lib.hid g1; clear h1 g1 s1))
        obtain ⟨b, c', sp⟩ := H1.out.drew.spot HSV.out
        have hV := sp.val
        rw [HFL.out] at hV
        have k0 : w3.cell? ⟨g, 0, none⟩ = some (.slice (some ⟨b, 0, none⟩) D.F.length c') := by have := H1.out.cells.read 0; rw [hV] at this; exact this
        have cb : w3.cell? ⟨b, P.length * 3 + 1, none⟩ = some (sV f.b) := sp.cb
        have hbl : b < w3.heap.size := sp.lt
        have cb' : w3.drew.cell? ⟨b, P.length * 3 + 1, none⟩ = some (sV f.b) := sp.cb
        have fb' : w3.drew.frozen? ⟨b, P.length * 3 + 1, none⟩ = false := sp.fb
        obtain ⟨q1, q2⟩ := sp.set ⟨f.n, f.b ++ s, f.l⟩ 1 (sV (f.b ++ s)) (by decide) rfl
        have HQ := Lib.hid q1
        have TQ := Lib.hid ((turn_below B1.out S).trans ((turn_grown G1.out (fun k e => by cases e; exact hSg) : Turn _ _ S).trans ((turn_below (Below.refl _ _).drew S).trans (turn_grown q2 (fun k e => by cases e; exact hS _ sp.own) : Turn _ _ S) (fun j hj => .inl hj)) (fun j hj => .inl hj)) (fun j hj => .inl hj))
        clear q1 q2 sp hV H1 G1
        go_still_tail 17, (by kernel_rfl)
        change wpList _ _ _ _ _ w3.drew
        go_wp2_with fail
        go_ret
        exact ⟨rfl, ⟨V, _, HQ.out, .inl hSg, fun k e => .inl (hS k e)⟩, TQ.out⟩
  | none =>
    rw [stpV_F, pl_none hk0] at PL
    generalize hFP : put ⟨n, oldB D.F n ++ s, oldL D.F n⟩ D.F = FP
    have HFP := Lib.hid hFP
    clear hFP
    obtain ⟨i0, hi0, hz0, hz1, hz2⟩ := infoF_parts
    have HFL : Hid ((stpV D).F = D.F) := Lib.hid (stpV_F D)
    clear hc
    go_enter Try.func10, Try.ntmps10
    go_wp2_with (go_at_call 33; refine AH.out.mono ?_; rintro e w1 ⟨rfl, b1⟩; have B1 := Lib.hid b1; clear b1)
    have K1 := Lib.hid (HB.out _ B1.out)
    obtain ⟨A, c, hV, -, -⟩ := K1.out.own.shape
    have k0 : w1.cell? ⟨g, 0, none⟩ = some (.slice A D.F.length c) := by have := K1.out.cells.read 0; rw [hV] at this; exact this
    have HLf : Hid (Lf w1 A D.F) := Lib.hid (by have := K1.out.own; rw [hV] at this; exact OwnG.lg cellsF this)
    go_loopw [8, 9] (fun v8 s wr => ∃ k : Nat, k ≤ D.F.length ∧ s = .int .i64 k ∧ v8 = .int .i64 ((used (D.F.take k) : Nat) : Int) ∧ wr = w1) (fun _ s _ => D.F.length - (intOf s).toNat)
    case atStart => exact ⟨0, Nat.zero_le _, rfl, rfl, rfl⟩
    case round =>
      rename World => wy
      obtain ⟨k, hk, rfl, rfl, rfl⟩ := hrel
      by_cases hlt : k < D.F.length
      · obtain ⟨f, hf⟩ : ∃ f, D.F[k]? = some f := ⟨_, List.getElem?_eq_getElem hlt⟩
        obtain ⟨b, off, rfl, hb, -, c1, -⟩ := at_f HLf.out hf
        have hu := used_take hf
        have hle := Nat.le_trans (used_le D.F (k + 1)) G.room
        have hw : IntKind.i64.wrap (((used (D.F.take k) : Nat) : Int) + (f.b.length : Int)) = ((used (D.F.take (k + 1)) : Nat) : Int) := by rw [IntKind.wrap_i64]; omega
        clear hf hu
        generalize hq : used (D.F.take (k + 1)) = u2 at hw hle
        have HU := Lib.hid hq
        clear hq
        go_wp2_with fail
        go_roundw
        case rel => exact ⟨k + 1, by omega, by go_num, by rw [HU.out], by trivial⟩
        case measure => simp [intOf]; omega
      · obtain rfl : k = D.F.length := by omega
        rw [List.take_length]
        have BX := B1
        go_wp2_with (first
          | (go_at_call 35; refine (PL.out _ _ H1.out).mono ?_; rintro e w4 ⟨rfl, rfl⟩)
          | (go_at_call 34; refine (ST.out _ BX.out).mono ?_; rintro e w3 ⟨rfl, ⟨n1, h1⟩, g1, s1⟩; have H1 := Lib.hid h1; have G1 := Lib.hid g1; clear h1 g1 s1))
        obtain ⟨A, c, hV, -, -⟩ := H1.out.own.shape
        rw [HFL.out] at hV
        have K0 : Hid (∀ W, Below w3.heap.size w3 W → W.cell? ⟨g, 0, none⟩ = some (.slice A D.F.length c)) := Lib.hid (fun W b => by have := (H1.out.below b).cells.read 0; rw [hV] at this; exact this)
        have KF : Hid (∀ W, Below w3.heap.size w3 W → W.frozen? ⟨g, 0, none⟩ = false) := Lib.hid (fun W b => (H1.out.below b).cells.soft 0)
        have HLf : Hid (Lf w3 A D.F) := Lib.hid (by have := H1.out.own; rw [hV, HFL.out] at this; exact OwnG.lg cellsF this)
        have k0 := K0.out w3 (Below.refl _ _)
        go_loopw [11] (fun s wr => ∃ i : Nat, i ≤ D.F.length ∧ s = .int .i64 i ∧ Hid (∀ x ∈ D.F.take i, x.n < n) ∧ wr = w3) (fun s _ => D.F.length - (intOf s).toNat)
        case atStart => exact ⟨0, Nat.zero_le _, rfl, Lib.hid (by simp), rfl⟩
        case round =>
          rename World => w3
          obtain ⟨i, hi, rfl, HN, rfl⟩ := hrel
          by_cases hlt : i < D.F.length
          · obtain ⟨f, hf⟩ : ∃ f, D.F[i]? = some f := ⟨_, List.getElem?_eq_getElem hlt⟩
            obtain ⟨b, off, rfl, hb, c0, -, -⟩ := at_f HLf.out hf
            by_cases e : f.n < n
            · have HN2 : Hid (∀ x ∈ D.F.take (i + 1), x.n < n) := Lib.hid (fun x hx => by
                rw [List.take_add_one, hf] at hx
                rcases List.mem_append.1 hx with hx | hx
                · exact HN.out x hx
                · simp at hx
                  rw [hx]; exact e)
              have hq : Op.bytesLess f.n n = true := by rw [bytesLess_eq]; exact decide_eq_true e
              clear hf e
              go_wp2_with fail
              go_roundw
              case rel => exact ⟨i + 1, by omega, by go_num, HN2, by trivial⟩
              case measure => simp [intOf]; omega
            · have HNX : Hid (∀ y, D.F[i]? = some y → ¬ y.n < n) := Lib.hid (fun y hy => by rw [hf] at hy; cases hy; exact e)
              have hq : Op.bytesLess f.n n = false := by rw [bytesLess_eq]; exact decide_eq_false e
              clear hf
              obtain ⟨U, R, hUR, hUl⟩ : ∃ U R, D.F = U ++ R ∧ U.length = i := ⟨D.F.take i, D.F.drop i, (List.take_append_drop i D.F).symm, by rw [List.length_take]; omega⟩
              have hUn : ∀ x ∈ U, x.n < n := by have := HN.out; rw [hUR, ← hUl, List.take_left] at this; exact this
              have hRn : ∀ y, R[0]? = some y → ¬ y.n < n := fun y hy => HNX.out y (by rw [hUR, ← hUl, List.getElem?_append_right (Nat.le_refl _), Nat.sub_self]; exact hy)
              have hFP2 := HFP.out
              rw [put_new G.srt hk0 hUR hUn hRn] at hFP2
              have HFP2 := Lib.hid hFP2
              subst hUl
              have hFlen : D.F.length = U.length + R.length := by rw [hUR, List.length_append]
              have HLE : Hid (U.length + R.length ≤ 100000) := Lib.hid (by omega)
              have hcl : D.F.length ≤ c := by have := H1.out.own; rw [hV, HFL.out] at this; exact this.room
              have hpre := fun W => run_pre (some ⟨b, off, none⟩) D.F.length c U.length (by omega) W
              have hsuf := fun W => run_suf (some ⟨b, off, none⟩) D.F.length c U.length R.length (by omega) hFlen W
              have hLf1 : Lf w3 (some ⟨b, off, none⟩) (U ++ R) := by rw [← hUR]; exact HLf.out
              have HLS : Hid (∀ W, Below w3.heap.size w3 W → Lf W (suf (some ⟨b, off, none⟩) U.length c) R) := Lib.hid (fun W b => lf_suf (hLf1.below b) (by rw [← hUR]; exact hcl))
              have HB4 := Lib.hid (fresh0 w3 (.cells #[] 61))
              have HL4 := Lib.hid (lf_pre (hLf1.below HB4.out))
              have HO4 := Lib.hid (ownF0 w3 w3.heap.size (Nat.le_refl _))
              have HSZ4 := Lib.hid HB4.out.size
              have k4 := K0.out _ HB4.out
              obtain ⟨U2, hU2⟩ : ∃ U2, U ++ [(⟨n, s, 0⟩ : Fl)] = U2 := ⟨_, rfl⟩
              obtain ⟨F2, hF2⟩ : ∃ F2, U2 ++ R = F2 := ⟨_, rfl⟩
              have HU2 := Lib.hid hU2
              have HF2 := Lib.hid hF2
              have HLE : Hid (U.length + R.length ≤ 100000 ∧ U2.length = U.length + 1) := Lib.hid ⟨HLE.out, by rw [← hU2]; simp⟩
              have HFX : Hid (FP = F2) := Lib.hid (by rw [← hF2, ← hU2, ← hFP2]; simp)
              clear hU2 hF2 hFP2 hUn hRn hLf1 hUR hFlen
              go_wp2_with (first
                | (at_builtin; refine wpList_append_row (T := 61) (f := cF) cellsF (by decide) rfl _ _ 26 rfl w3.heap.size i0 (.agg #[.string ByteArray.empty, .string ByteArray.empty, .int .i64 0]) 40 Try.underlying26 hi0 hz0 hz1 hz2 rfl (N := U2) (M := R) rfl rfl HO7.out HL7.out (by have := HLE.out; unfold maxLen; simp; omega) (by have := HLE.out; simp; omega) HSZ7.out ?_; intro B8 cap8 w8 hown8 hgrow hat; have hx8 : U2 ++ R = F2 := HF2.out; rw [hx8] at hown8 ⊢; have HO8 := Lib.hid hown8; have HB8 := Lib.hid (HB7.out.grown hgrow HSZ7.out (fun j e => (HO7.out.lt j e).1)); have k8 := K0.out w8 HB8.out; have f8 := KF.out w8 HB8.out; clear hown8 hgrow hat hx8)
                | (at_builtin; refine wpList_append_row (T := 61) (f := cF) cellsF (by decide) rfl _ _ 26 rfl w3.heap.size i0 (.agg #[.string ByteArray.empty, .string ByteArray.empty, .int .i64 0]) 40 Try.underlying26 hi0 hz0 hz1 hz2 rfl (N := U) (M := [⟨n, s, 0⟩]) rfl rfl HO6.out HL6.out (by have := HLE.out; unfold maxLen; simp; omega) (by have := HLE.out; simp; omega) HSZ6.out ?_; intro B7 cap7 w7 hown7 hgrow hat; have hx7 : U ++ [(⟨n, s, 0⟩ : Fl)] = U2 := HU2.out; rw [hx7] at hown7 ⊢; have HO7 := Lib.hid hown7; have HB7 := Lib.hid (HB6.out.grown hgrow HSZ6.out (fun j e => (HO6.out.lt j e).1)); have HSZ7 := Lib.hid HB7.out.size; have HL7 := Lib.hid (HLS.out w7 HB7.out); have k7 := K0.out w7 HB7.out; clear hown7 hgrow hat hx7)
                | (at_builtin; refine wpList_append_row (T := 61) (f := cF) cellsF (by decide) rfl _ _ 26 rfl w3.heap.size i0 (.agg #[.string ByteArray.empty, .string ByteArray.empty, .int .i64 0]) 40 Try.underlying26 hi0 hz0 hz1 hz2 rfl (N := []) (M := U) rfl rfl HO4.out HL4.out (by have := HLE.out; unfold maxLen; simp; omega) (by have := HLE.out; simp; omega) HSZ4.out ?_; intro B5 cap5 w5 hown5 hgrow hat; rw [List.nil_append] at hown5 ⊢; have HO6 := Lib.hid (OwnG.below hown5 (fresh0 w5 (.cells #[sV n, sV s, .int .i64 0] 61))); have b5 := HB4.out.grown hgrow HSZ4.out (fun j e => (HO4.out.lt j e).1); have HB6 := Lib.hid (b5.trans ((fresh0 w5 (.cells #[sV n, sV s, .int .i64 0] 61)).mono b5.size)); have HL6 := Lib.hid (lg_loneF w5 ⟨n, s, 0⟩); have HSZ6 : Hid (w3.heap.size ≤ (w5.alloc (.cells #[sV n, sV s, .int .i64 0] 61)).heap.size) := Lib.hid HB6.out.size; clear hown5 hgrow hat b5))
              go_ret
              have HQ : RefE (w8.setCell ⟨g, 0, none⟩ (.slice B8 F2.length cap8)) g { stpV D with F := FP } (.slice B8 F2.length cap8) n1 := by
                rw [HFX.out]
                have h8 := H1.out.below HB8.out
                have hz8 : ∀ k, (Value.slice B8 F2.length cap8).ownBlock = some k → w3.heap.size ≤ k := fun k e => OwnG.above HO8.out e
                have hgl := H1.out.cells.inside
                have hfar : (Value.slice B8 F2.length cap8).ownBlock ≠ some g := fun e => by have := hz8 g e; omega
                refine ⟨?_, H1.out.left, (OwnG.low HO8.out (Nat.zero_le _)).past (only_store (grown0 w8 g) _) (fun k e he => hfar (by rw [← he, ← e])), hfar⟩
                have := h8.cells.store 0 (.slice B8 F2.length cap8)
                simpa using this
              refine ⟨rfl, ⟨_, n1, HQ, .inl hSg, fun k e => .inr ?_⟩, ?_⟩
              · have h1 := OwnG.above HO8.out e
                have h2 := B1.out.size
                have h3 := G1.out.size
                omega
              · exact (turn_below B1.out S).trans ((turn_grown G1.out (fun k e => by cases e; exact hSg) : Turn _ _ S).trans ((turn_below HB8.out S).trans (turn_grown (only_store (grown0 w8 g) _) (fun k e => by cases e; exact hSg) : Turn _ _ S) (fun j hj => .inl hj)) (fun j hj => .inl hj)) (fun j hj => .inl hj)
          · have HNX : Hid (∀ y, D.F[i]? = some y → ¬ y.n < n) := Lib.hid (fun y hy => absurd (List.getElem?_eq_some_iff.1 hy).1 hlt)
            obtain ⟨U, R, hUR, hUl⟩ : ∃ U R, D.F = U ++ R ∧ U.length = i := ⟨D.F.take i, D.F.drop i, (List.take_append_drop i D.F).symm, by rw [List.length_take]; omega⟩
            have hUn : ∀ x ∈ U, x.n < n := by have := HN.out; rw [hUR, ← hUl, List.take_left] at this; exact this
            have hRn : ∀ y, R[0]? = some y → ¬ y.n < n := fun y hy => HNX.out y (by rw [hUR, ← hUl, List.getElem?_append_right (Nat.le_refl _), Nat.sub_self]; exact hy)
            have hFP2 := HFP.out
            rw [put_new G.srt hk0 hUR hUn hRn] at hFP2
            have HFP2 := Lib.hid hFP2
            subst hUl
            have hFlen : D.F.length = U.length + R.length := by rw [hUR, List.length_append]
            have HLE : Hid (U.length + R.length ≤ 100000) := Lib.hid (by omega)
            have hcl : D.F.length ≤ c := by have := H1.out.own; rw [hV, HFL.out] at this; exact this.room
            have hpre := fun W => run_pre A D.F.length c U.length (by omega) W
            have hsuf := fun W => run_suf A D.F.length c U.length R.length (by omega) hFlen W
            have hLf1 : Lf w3 A (U ++ R) := by rw [← hUR]; exact HLf.out
            have HLS : Hid (∀ W, Below w3.heap.size w3 W → Lf W (suf A U.length c) R) := Lib.hid (fun W b => lf_suf (hLf1.below b) (by rw [← hUR]; exact hcl))
            have HB4 := Lib.hid (fresh0 w3 (.cells #[] 61))
            have HL4 := Lib.hid (lf_pre (hLf1.below HB4.out))
            have HO4 := Lib.hid (ownF0 w3 w3.heap.size (Nat.le_refl _))
            have HSZ4 := Lib.hid HB4.out.size
            have k4 := K0.out _ HB4.out
            obtain ⟨U2, hU2⟩ : ∃ U2, U ++ [(⟨n, s, 0⟩ : Fl)] = U2 := ⟨_, rfl⟩
            obtain ⟨F2, hF2⟩ : ∃ F2, U2 ++ R = F2 := ⟨_, rfl⟩
            have HU2 := Lib.hid hU2
            have HF2 := Lib.hid hF2
            have HLE : Hid (U.length + R.length ≤ 100000 ∧ U2.length = U.length + 1) := Lib.hid ⟨HLE.out, by rw [← hU2]; simp⟩
            have HFX : Hid (FP = F2) := Lib.hid (by rw [← hF2, ← hU2, ← hFP2]; simp)
            clear hU2 hF2 hFP2 hUn hRn hLf1 hUR hFlen
            go_wp2_with (first
              | (at_builtin; refine wpList_append_row (T := 61) (f := cF) cellsF (by decide) rfl _ _ 26 rfl w3.heap.size i0 (.agg #[.string ByteArray.empty, .string ByteArray.empty, .int .i64 0]) 40 Try.underlying26 hi0 hz0 hz1 hz2 rfl (N := U2) (M := R) rfl rfl HO7.out HL7.out (by have := HLE.out; unfold maxLen; simp; omega) (by have := HLE.out; simp; omega) HSZ7.out ?_; intro B8 cap8 w8 hown8 hgrow hat; have hx8 : U2 ++ R = F2 := HF2.out; rw [hx8] at hown8 ⊢; have HO8 := Lib.hid hown8; have HB8 := Lib.hid (HB7.out.grown hgrow HSZ7.out (fun j e => (HO7.out.lt j e).1)); have k8 := K0.out w8 HB8.out; have f8 := KF.out w8 HB8.out; clear hown8 hgrow hat hx8)
              | (at_builtin; refine wpList_append_row (T := 61) (f := cF) cellsF (by decide) rfl _ _ 26 rfl w3.heap.size i0 (.agg #[.string ByteArray.empty, .string ByteArray.empty, .int .i64 0]) 40 Try.underlying26 hi0 hz0 hz1 hz2 rfl (N := U) (M := [⟨n, s, 0⟩]) rfl rfl HO6.out HL6.out (by have := HLE.out; unfold maxLen; simp; omega) (by have := HLE.out; simp; omega) HSZ6.out ?_; intro B7 cap7 w7 hown7 hgrow hat; have hx7 : U ++ [(⟨n, s, 0⟩ : Fl)] = U2 := HU2.out; rw [hx7] at hown7 ⊢; have HO7 := Lib.hid hown7; have HB7 := Lib.hid (HB6.out.grown hgrow HSZ6.out (fun j e => (HO6.out.lt j e).1)); have HSZ7 := Lib.hid HB7.out.size; have HL7 := Lib.hid (HLS.out w7 HB7.out); have k7 := K0.out w7 HB7.out; clear hown7 hgrow hat hx7)
              | (at_builtin; refine wpList_append_row (T := 61) (f := cF) cellsF (by decide) rfl _ _ 26 rfl w3.heap.size i0 (.agg #[.string ByteArray.empty, .string ByteArray.empty, .int .i64 0]) 40 Try.underlying26 hi0 hz0 hz1 hz2 rfl (N := []) (M := U) rfl rfl HO4.out HL4.out (by have := HLE.out; unfold maxLen; simp; omega) (by have := HLE.out; simp; omega) HSZ4.out ?_; intro B5 cap5 w5 hown5 hgrow hat; rw [List.nil_append] at hown5 ⊢; have HO6 := Lib.hid (OwnG.below hown5 (fresh0 w5 (.cells #[sV n, sV s, .int .i64 0] 61))); have b5 := HB4.out.grown hgrow HSZ4.out (fun j e => (HO4.out.lt j e).1); have HB6 := Lib.hid (b5.trans ((fresh0 w5 (.cells #[sV n, sV s, .int .i64 0] 61)).mono b5.size)); have HL6 := Lib.hid (lg_loneF w5 ⟨n, s, 0⟩); have HSZ6 : Hid (w3.heap.size ≤ (w5.alloc (.cells #[sV n, sV s, .int .i64 0] 61)).heap.size) := Lib.hid HB6.out.size; clear hown5 hgrow hat b5))
            go_ret
            have HQ : RefE (w8.setCell ⟨g, 0, none⟩ (.slice B8 F2.length cap8)) g { stpV D with F := FP } (.slice B8 F2.length cap8) n1 := by
              rw [HFX.out]
              have h8 := H1.out.below HB8.out
              have hz8 : ∀ k, (Value.slice B8 F2.length cap8).ownBlock = some k → w3.heap.size ≤ k := fun k e => OwnG.above HO8.out e
              have hgl := H1.out.cells.inside
              have hfar : (Value.slice B8 F2.length cap8).ownBlock ≠ some g := fun e => by have := hz8 g e; omega
              refine ⟨?_, H1.out.left, (OwnG.low HO8.out (Nat.zero_le _)).past (only_store (grown0 w8 g) _) (fun k e he => hfar (by rw [← he, ← e])), hfar⟩
              have := h8.cells.store 0 (.slice B8 F2.length cap8)
              simpa using this
            refine ⟨rfl, ⟨_, n1, HQ, .inl hSg, fun k e => .inr ?_⟩, ?_⟩
            · have h1 := OwnG.above HO8.out e
              have h2 := B1.out.size
              have h3 := G1.out.size
              omega
            · exact (turn_below B1.out S).trans ((turn_grown G1.out (fun k e => by cases e; exact hSg) : Turn _ _ S).trans ((turn_below HB8.out S).trans (turn_grown (only_store (grown0 w8 g) _) (fun k e => by cases e; exact hSg) : Turn _ _ S) (fun j hj => .inl hj)) (fun j hj => .inl hj)) (fun j hj => .inl hj)
end Go.Proofs.Ytkfjgmfokpgcbaa.disk
