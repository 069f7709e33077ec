/-
  What an operator's line is (by gen_gr4o.py).
  What a line adds to the document's graph: operators (by gen_gr4.py).
-/
import Derived.Test.YtpblpjopinllcaaGreatDoorJGr4d
import Derived.Test.YtpblpjopinllcaaGreatDoorJGp3b
import Derived.StillTailTactics
import Derived.BigQuiet
set_option linter.unusedSimpArgs false
set_option linter.unusedVariables false
namespace Go.Proofs.YtpblpjopinllcaaGreatDoor.graph
open Go.ChangeShapes Go.WideShapes Go.ChangeAt Go.RowKit
open Go.Proofs.YtpblpjopinllcaaGreatDoor.opened Go.Proofs.YtpblpjopinllcaaGreatDoor.block Go.Proofs.YtpblpjopinllcaaGreatDoor.words Go.Proofs.YtpblpjopinllcaaGreatDoor.region
theorem own_put {w W : World} {gp i : Nat} {t : TypeId} {cs : Array Value} {u : Value} (hw : Whole W gp t cs) (hB : Below w.heap.size w W) (hg : w.heap.size ≤ gp) : Whole (W.setCell ⟨gp, i, none⟩ u) gp t (cs.setIfInBounds i u) ∧ Below w.heap.size w (W.setCell ⟨gp, i, none⟩ u) := by
  have g1 := only_store (i := i) (only_of_below hB (some gp)) u
  exact ⟨hw.store i u, ⟨g1.os, g1.tape, g1.output, g1.size, fun k hk => g1.block k hk (by intro e; cases e; omega)⟩⟩
theorem kindFrom_word {x : Bs} : ∀ (f k : Nat), kindFrom x f k ≠ 0 → wordB (kindFrom x f k : Nat) = x
  | 0, k, h => absurd rfl h
  | f + 1, k, h => by
    unfold kindFrom at h ⊢
    by_cases e : wordB (k : Nat) = x
    · rw [if_pos e]
      exact e
    · rw [if_neg e] at h ⊢
      exact kindFrom_word f (k + 1) h
theorem kindN_iff {x : Bs} {k : Nat} (h1 : 1 ≤ k) (h2 : k ≤ 14) : wordB (k : Nat) = x ↔ kindN x = k := by
  constructor
  · intro e
    have := kind_word (k : Nat) (by omega) (by omega)
    rw [e] at this
    omega
  · intro e
    have := kindFrom_word (x := x) 14 1 (by change kindN x ≠ 0; omega)
    change wordB (kindN x : Nat) = x at this
    rwa [e] at this
/-- The kind that is found among the first words. -/
def kAt (x : Bs) (k : Nat) : Nat := if kindN x < k then kindN x else 0
theorem kAt_one (x : Bs) : kAt x 1 = 0 := by
  unfold kAt
  split <;> omega
theorem kAt_end (x : Bs) : kAt x 15 = kindN x := by
  have := kind_le x
  unfold kAt
  rw [if_pos (by omega)]
theorem kAt_yes {x : Bs} {k : Nat} (h1 : 1 ≤ k) (h2 : k ≤ 14) (h : wordB (k : Nat) = x) : kAt x (k + 1) = k := by
  have := (kindN_iff h1 h2).1 h
  unfold kAt
  rw [if_pos (by omega), this]
theorem kAt_no {x : Bs} {k : Nat} (h1 : 1 ≤ k) (h2 : k ≤ 14) (h : wordB (k : Nat) ≠ x) : kAt x (k + 1) = kAt x k := by
  have : kindN x ≠ k := fun e => h ((kindN_iff h1 h2).2 e)
  unfold kAt
  by_cases h' : kindN x < k
  · rw [if_pos h', if_pos (by omega)]
  · rw [if_neg h', if_neg (by omega)]
theorem opF_parts {g : Gr} {x0 n kw x y : Bs} {l : List Bs} : (kindN kw = 0 ∨ l.length ≠ moreK (kindN kw) → opF firstIx g (x0 :: n :: kw :: x :: y :: l) = (6, g)) ∧ (¬ (kindN kw = 0 ∨ l.length ≠ moreK (kindN kw)) →
    (lpE firstIx g.ln x ≠ 0 → opF firstIx g (x0 :: n :: kw :: x :: y :: l) = (lpE firstIx g.ln x, g)) ∧ (lpE firstIx g.ln x = 0 → (Lib.hasPrefix y kwAt = false → opF firstIx g (x0 :: n :: kw :: x :: y :: l) = (6, g)) ∧ (Lib.hasPrefix y kwAt = true →
      (findV g.cn (aftV y kwAt) < 0 → opF firstIx g (x0 :: n :: kw :: x :: y :: l) = (3, g)) ∧ (¬ findV g.cn (aftV y kwAt) < 0 → (abE l ≠ 0 → opF firstIx g (x0 :: n :: kw :: x :: y :: l) = (abE l, g)) ∧
        (abE l = 0 → opF firstIx g (x0 :: n :: kw :: x :: y :: l) = (0, { g with o := g.o ++ [⟨n, (kindN kw : Nat), lpV firstIx g.ln x, findV g.cn (aftV y kwAt), aV l, bV l⟩] })))))) := by
  have hy : Lib.hasPrefix y kwAt = true → (plE firstIx kwAt g.cn y = plE firstIx [] g.cn (aftV y kwAt) ∧ plV firstIx kwAt g.cn y = plV firstIx [] g.cn (aftV y kwAt)) := by
    intro h
    unfold plE plV aftV
    have hp : Lib.hasPrefix (y.drop kwAt.length) [] = true := by unfold Lib.hasPrefix; simp
    rw [if_pos h, if_pos h, if_pos h, if_pos hp, if_pos hp]
    exact ⟨rfl, rfl⟩
  have hn : Lib.hasPrefix y kwAt = false → plE firstIx kwAt g.cn y = 6 := by
    intro h
    unfold plE
    rw [h, if_neg (by simp)]
  have pp := find_pl' (N := g.cn) (n := aftV y kwAt)
  unfold opF
  dsimp only
  refine ⟨fun h => by rw [if_pos h], fun h => ⟨fun h1 => by rw [if_neg h, if_pos h1], fun h1 => ⟨fun h2 => ?_, fun h2 => ⟨fun h3 => ?_, fun h3 => ⟨fun h4 => ?_, fun h4 => ?_⟩⟩⟩⟩⟩
  · rw [if_neg h, if_neg (by simpa using h1), hn h2, if_pos (by decide)]
  · rw [if_neg h, if_neg (by simpa using h1), (hy h2).1, pp.1 h3, if_pos (by decide)]
  · rw [if_neg h, if_neg (by simpa using h1), (hy h2).1, (pp.2 h3).1, if_neg (by simp), if_pos h4]
  · rw [if_neg h, if_neg (by simpa using h1), (hy h2).1, (pp.2 h3).1, if_neg (by simp), if_neg (by simpa using h4), (hy h2).2, (pp.2 h3).2]
theorem more9_any (k : Int) (w : World) : Calls Tryz.prog 229 #[.int .i64 k] w fun e w' => e = .returned (.int .i64 (moreK k : Nat)) ∧ w = w' := by
  unfold moreK
  by_cases a3 : k = 3
  · subst a3
    go_enter Tryz.func229, Tryz.ntmps229
    go_wp2
    go_ret
    exact ⟨rfl, rfl⟩
  by_cases a4 : k = 4
  · subst a4
    go_enter Tryz.func229, Tryz.ntmps229
    go_wp2
    go_ret
    exact ⟨rfl, rfl⟩
  by_cases a6 : k = 6
  · subst a6
    go_enter Tryz.func229, Tryz.ntmps229
    go_wp2
    go_ret
    exact ⟨rfl, rfl⟩
  by_cases a10 : k = 10
  · subst a10
    go_enter Tryz.func229, Tryz.ntmps229
    go_wp2
    go_ret
    exact ⟨rfl, rfl⟩
  rw [if_neg (by omega), if_neg (by omega)]
  have n3 : (k == 3) = false := by rw [beq_eq_false_iff_ne]; exact a3
  have n4 : (k == 4) = false := by rw [beq_eq_false_iff_ne]; exact a4
  have n6 : (k == 6) = false := by rw [beq_eq_false_iff_ne]; exact a6
  have n10 : (k == 10) = false := by rw [beq_eq_false_iff_ne]; exact a10
  go_enter Tryz.func229, Tryz.ntmps229
  go_wp2
  go_ret
  exact ⟨rfl, rfl⟩
end Go.Proofs.YtpblpjopinllcaaGreatDoor.graph
set_option linter.unusedSimpArgs false
set_option linter.unusedVariables false
namespace Go.Proofs.YtpblpjopinllcaaGreatDoor.graph
open Go.ChangeShapes Go.WideShapes Go.ChangeAt Go.RowKit
open Go.Proofs.YtpblpjopinllcaaGreatDoor.opened Go.Proofs.YtpblpjopinllcaaGreatDoor.block Go.Proofs.YtpblpjopinllcaaGreatDoor.words Go.Proofs.YtpblpjopinllcaaGreatDoor.region
set_option maxRecDepth 100000 in
set_option maxHeartbeats 4000000 in
theorem opLine_any {B gd : Nat} {v : Gv} {g : Gr} (A : Option Addr) (c : Nat) (ws : List Bs) (hk : ws[0]? = some kwOp) (hw : ws.length ≤ 100000) (hx : ∀ x ∈ ws, x.length ≤ 100000) (hlc : g.c.length ≤ 50000) (hll : g.l.length ≤ 50000) (hlo : g.o.length ≤ 50000) (hlh : g.h.length ≤ 50000) (w : World) (hD : DrR w B gd v g) (hO : OwnS w B (.slice A ws.length c) ws) :
    Calls Tryz.prog 150 #[.pointer (some ⟨gd, 0, none⟩), .slice A ws.length c] w fun e w' => AddR B gd (opF firstIx g ws) e w' ∧ Kept B w w' := by
  have HB := Lib.hid hD.size
  by_cases h5 : ws.length < 5
  · rw [opF_notX h5]
    clear hD hO hk
    go_enter Tryz.func150, Tryz.ntmps150
    go_wp2_with fail
    go_ret
    exact ⟨addR_bad (by decide), kept_refl _ _⟩
  obtain ⟨x0, n, kw', x, y, l, rfl⟩ := len5 h5
  obtain ⟨b1, rfl, hb1, CW⟩ := own_words hO (by simp)
  have H0 := Lib.hid hD
  have O0 := Lib.hid hO
  have CWh := Lib.hid CW
  have LW := fun W (hW : Lies4 W v g) => within9_any v g (by omega) x W hW
  have LC := fun W (hW : Lies4 W v g) => clustersR_any v g (by omega) W hW
  unfold gV at LW LC
  replace LC := Lib.hid LC
  replace LW := Lib.hid LW
  have FI := fun (A : Option Addr) (c : Nat) W (hW : Ls W A g.cn) => find9_below A c g.c (·.n) (aftV y kwAt) (by omega) W hW
  change ∀ (A : Option Addr) (c : Nat) (W : World), Ls W A g.cn → Calls Tryz.prog 148 #[.slice A g.c.length c, .string ⟨(aftV y kwAt).toArray⟩] W (fun e w' => e = .returned (.int .i64 (findV g.cn (aftV y kwAt))) ∧ Below W.heap.size W w') at FI
  have AF := fun W => after9_any y kwAt W
  have hgd := hD.cells.inside
  have hlen : (x0 :: n :: kw' :: x :: y :: l).length = l.length + 5 := rfl
  have hxl : Hid (∀ z ∈ l, z.length ≤ 100000) := Lib.hid fun z hz => hx z (by simp [hz])
  have HLo : Hid (g.o.length ≤ 50000) := Lib.hid hlo
  have OPP := opF_parts (g := g) (x0 := x0) (n := n) (kw := kw') (x := x) (y := y) (l := l)
  have hka := kAt_end kw'
  generalize opF firstIx g (x0 :: n :: kw' :: x :: y :: l) = R at OPP ⊢
  have OH := Lib.hid OPP
  have hrow : Hid (∀ k, RowS gd (.slice v.d g.o.length v.k) k → k < w.heap.size) := Lib.hid (by
    rintro k (e | e)
    · omega
    · obtain ⟨cur, hc⟩ := OwnG.shape hD.oo e
      exact (Array.getElem?_eq_some_iff.1 hc).1)
  rw [hlen] at hw ⊢
  have kx1 : w.cell? ⟨b1, 1, none⟩ = some (sV n) := CW w rfl 1 n rfl
  have hi1 : (1 : Int) < (l.length : Int) + 5 := by omega
  have hi2 : (2 : Int) < (l.length : Int) + 5 := by omega
  have hi3 : (3 : Int) < (l.length : Int) + 5 := by omega
  have hi4 : (4 : Int) < (l.length : Int) + 5 := by omega
  have h5n : ¬ ((l.length : Int) + 5 < 5) := by omega
  clear hD hO h5 CW hk hlen OPP hx
  go_enter Tryz.func150, Tryz.ntmps150
  go_upto_region 4 with fail
  clear kx1 h5n
  have OX0 := Whole.fresh w 141 #[sV n, .int .i64 0, .int .i64 0, .int .i64 0, .int .i64 0, .int .i64 0]
  have f0 := fresh1 w (.cells #[sV n, .int .i64 0, .int .i64 0, .int .i64 0, .int .i64 0, .int .i64 0] 141)
  change Code.wp _ _ _ _ (w.alloc (.cells #[sV n, .int .i64 0, .int .i64 0, .int .i64 0, .int .i64 0, .int .i64 0] 141))
  generalize w.alloc (.cells #[sV n, .int .i64 0, .int .i64 0, .int .i64 0, .int .i64 0, .int .i64 0] 141) = w1 at OX0 f0 ⊢
  obtain ⟨gp, hgp⟩ : ∃ gp, w.heap.size = gp := ⟨_, rfl⟩
  rw [hgp] at OX0 ⊢
  have HGP : Hid (w.heap.size ≤ gp) := Lib.hid (by omega)
  have OX1 := Lib.hid OX0
  have B1 := Lib.hid f0
  clear OX0 f0 hgp
  go_wp2_with fail
  go_loopw [6] (fun a wr => ∃ k : Nat, Hid (1 ≤ k) ∧ k ≤ 15 ∧ a = .int .i64 k ∧ Hid (Whole wr gp 141 #[sV n, .int .i64 (kAt kw' k : Nat), .int .i64 0, .int .i64 0, .int .i64 0, .int .i64 0]) ∧ Hid (Below w.heap.size w wr)) (fun a _ => (15 - intOf a).toNat)
  case atStart => exact ⟨1, Lib.hid (by omega), by omega, rfl, by rw [kAt_one]; exact OX1, B1⟩
  case round =>
    obtain ⟨k, hk1, hk15, rfl, OR, BR⟩ := hrel
    by_cases hlt : k ≤ 14
    · have s2 : ∀ q : Since wr, q.1.cell? ⟨b1, 2, none⟩ = some (sV kw') := fun q => CWh.out q.1 ((q.2.block b1 (Nat.lt_of_lt_of_le hb1 BR.out.size)).trans (BR.out.block b1 hb1)) 2 kw' rfl
      have hlt' : (k : Int) ≤ 14 := by omega
      have WD := Lib.hid fun (q : Since wr) => since_same (fun w9 => (word_any (k : Int) w9).mono fun _ _ ⟨he, hw⟩ => ⟨he, hw.symm⟩) q
      by_cases he : wordB (k : Nat) = kw'
      · have HK2 := Lib.hid (kAt_yes hk1.out hlt he)
        rw [he] at WD
        clear he
        go_upto_region 7 with fail
        refine region_since wr (by kernel_rfl) (by kernel_rfl) (Below.refl _ _) ?_
        repeat (go_big_quiet_step ((go_at_call 228; with_reducible exact WD.out _)))
        refine wpQuiet_nil ?_
        rintro w7 ⟨q, hq4⟩
        have b7 : Below wr.heap.size wr w7 := hq4 ▸ q.2
        have O7 := OR.out.below b7 OR.out.inside
        have p1 : w7.cell? ⟨gp, 1, none⟩ = some (.int .i64 (kAt kw' k : Nat)) := O7.read 1
        have f1 : w7.frozen? ⟨gp, 1, none⟩ = false := O7.soft 1
        have B7 := then_below BR.out b7
        have P8 := Lib.hid (own_put (i := 1) (u := .int .i64 (k : Nat)) O7 B7 HGP.out)
        clear s2 hq4 WD b7 O7 B7
        go_wp2_with fail
        go_roundw
        case rel => exact ⟨k + 1, Lib.hid (by omega), by omega, by go_num, Lib.hid (by rw [HK2.out]; have := P8.out.1; simpa using this), Lib.hid P8.out.2⟩
        case measure => simp [intOf]; omega
      · have HK2 := Lib.hid (kAt_no hk1.out hlt he)
        have hne : (wordB (k : Nat) == kw') = false := by rw [beq_eq_false_iff_ne]; exact he
        generalize wordB (k : Nat) = wd at WD hne
        clear he
        go_upto_region 7 with fail
        refine region_since wr (by kernel_rfl) (by kernel_rfl) (Below.refl _ _) ?_
        repeat (go_big_quiet_step ((go_at_call 228; with_reducible exact WD.out _)))
        refine wpQuiet_nil ?_
        rintro w7 ⟨q, hq4⟩
        have b7 : Below wr.heap.size wr w7 := hq4 ▸ q.2
        have O7 := Lib.hid (OR.out.below b7 OR.out.inside)
        have B7 := Lib.hid (then_below BR.out b7)
        clear s2 hq4 WD b7
        go_wp2_with fail
        go_roundw
        case rel => exact ⟨k + 1, Lib.hid (by omega), by omega, by go_num, by rw [HK2.out]; exact O7, B7⟩
        case measure => simp [intOf]; omega
    obtain rfl : k = 15 := by omega
    rw [hka] at OR
    have KB := Lib.hid (kept_of BR.out HB.out)
    clear hlt hk15 hk1 hka B1 OX1
    have hml : moreK (kindN kw' : Nat) ≤ 2 := by unfold moreK; split <;> (try split) <;> omega
    have MO := fun W => more9_any (kindN kw' : Nat) W
    generalize kindN kw' = k at OR OH MO hml
    have p1 : wr.cell? ⟨gp, 1, none⟩ = some (.int .i64 (k : Nat)) := OR.out.read 1
    by_cases hk0 : k = 0
    · subst hk0
      obtain rfl := (OH.out.1 (.inl rfl)).symm
      clear MO
      go_wp2_with fail
      go_ret
      exact ⟨addR_bad (by decide), KB.out⟩
    have hkz : ((k : Int) == 0) = false := by rw [beq_eq_false_iff_ne]; omega
    have HQ0 : Hid ((l.length ≠ moreK (k : Nat)) → R = (6, g)) := Lib.hid fun h => OH.out.1 (.inr h)
    have HQ1 : Hid (l.length = moreK (k : Nat) → _) := Lib.hid fun h => OH.out.2 (by rintro (e | e); exact hk0 e; exact e h)
    clear OH
    generalize moreK (k : Nat) = mk at MO hml HQ0 HQ1
    replace MO := Lib.hid MO
    by_cases hq : l.length = mk
    case neg =>
      obtain rfl := (HQ0.out hq).symm
      have hne : ((l.length : Int) + 5 == 5 + (mk : Int)) = false := by rw [beq_eq_false_iff_ne]; omega
      go_wp2_with (go_at_call 229; refine (MO.out _).mono ?_; rintro e w8 ⟨rfl, rfl⟩)
      go_ret
      exact ⟨addR_bad (by decide), KB.out⟩
    have hqe : ((l.length : Int) + 5 == 5 + (mk : Int)) = true := by rw [beq_iff_eq]; omega
    have HQ := Lib.hid (HQ1.out hq)
    have HLL : Hid (l.length ≤ 2) := Lib.hid (by omega)
    clear hq HQ0 HQ1
    go_upto_region 11 with (go_at_call 229; refine (MO.out _).mono ?_; rintro e w8 ⟨rfl, rfl⟩)
    clear hqe hkz p1 MO hml
    have D9 := Lib.hid (H0.out.below BR.out)
    have s3 : ∀ q : Since wr, q.1.cell? ⟨b1, 3, none⟩ = some (sV x) := fun q => CWh.out q.1 ((q.2.block b1 (Nat.lt_of_lt_of_le hb1 BR.out.size)).trans (BR.out.block b1 hb1)) 3 x rfl
    have hgr : gd < wr.heap.size := D9.out.cells.inside
    have t0 : ∀ q : Since wr, q.1.cell? ⟨gd, 0, none⟩ = some (.slice v.a g.c.length v.i) := fun q => (D9.out.below q.2).cells.read 0
    have t1 : ∀ q : Since wr, q.1.cell? ⟨gd, 1, none⟩ = some (.slice v.b g.l.length v.j) := fun q => (D9.out.below q.2).cells.read 1
    have t2 : ∀ q : Since wr, q.1.cell? ⟨gd, 2, none⟩ = some (.slice v.d g.o.length v.k) := fun q => (D9.out.below q.2).cells.read 2
    have t3 : ∀ q : Since wr, q.1.cell? ⟨gd, 3, none⟩ = some (.slice v.e g.h.length v.m) := fun q => (D9.out.below q.2).cells.read 3
    generalize lpV firstIx g.ln x = u at LW HQ
    generalize lpE firstIx g.ln x = z at LW HQ
    have L1 := Lib.hid fun (q : Since wr) => since_at q (LW.out q.1 (D9.out.below q.2).lies)
    clear LW
    refine region_since wr (by kernel_rfl) (by kernel_rfl) (Below.refl _ _) ?_
    repeat (go_big_quiet_step ((go_at_call 147; with_reducible exact L1.out _)))
    refine wpQuiet_nil ?_
    rintro w11 ⟨q, hq4⟩
    have b11 : Below wr.heap.size wr w11 := hq4 ▸ q.2
    have B11 := Lib.hid (then_below BR.out b11)
    have O11 := Lib.hid (OR.out.below b11 OR.out.inside)
    have K11 := Lib.hid (kept_of B11.out HB.out)
    clear s3 t0 t1 t2 t3 hq4 L1 b11 OR BR D9 KB hgr
    by_cases hz : z = 0
    case neg =>
      obtain rfl := (HQ.out.1 hz).symm
      have hzh := Lib.hid hz
      have hne : (z == 0) = false := by rw [beq_eq_false_iff_ne]; exact hz
      clear hz
      go_wp2_with fail
      go_ret
      exact ⟨addR_bad hzh.out, K11.out⟩
    replace HQ := Lib.hid (HQ.out.2 hz)
    subst hz
    have p2 : w11.cell? ⟨gp, 2, none⟩ = some (.int .i64 0) := O11.out.read 2
    have f2 : w11.frozen? ⟨gp, 2, none⟩ = false := O11.out.soft 2
    have P14 := Lib.hid (own_put (i := 2) (u := .int .i64 u) O11.out B11.out HGP.out)
    go_upto_region 15 with fail
    clear p2 f2 O11 B11 K11
    generalize w11.setCell ⟨gp, 2, none⟩ (.int .i64 u) = w14 at P14 ⊢
    have O14 : Hid (Whole w14 gp 141 #[sV n, .int .i64 (k : Nat), .int .i64 u, .int .i64 0, .int .i64 0, .int .i64 0]) := Lib.hid (by have := P14.out.1; simpa using this)
    have B14 := Lib.hid P14.out.2
    have K14 := Lib.hid (kept_of B14.out HB.out)
    have kx4 : w14.cell? ⟨b1, 4, none⟩ = some (sV y) := CWh.out w14 (B14.out.block b1 hb1) 4 y rfl
    have hb14 : b1 < w14.heap.size := Nat.lt_of_lt_of_le hb1 B14.out.size
    clear P14
    generalize aftV y kwAt = ya at AF FI HQ
    generalize findV g.cn ya = ai at FI HQ
    replace FI := Lib.hid FI
    cases hf : Lib.hasPrefix y kwAt
    · rw [hf] at AF
      obtain rfl := (HQ.out.1 hf).symm
      replace AF := Lib.hid AF
      clear hf
      go_wp2_with (go_at_call 225; refine (AF.out _).mono ?_; rintro e w8 ⟨rfl, rfl⟩)
      go_ret
      exact ⟨addR_bad (by decide), K14.out⟩
    rw [hf] at AF
    replace AF := Lib.hid AF
    replace HQ := Lib.hid (HQ.out.2 hf)
    clear hf
    have D14 := Lib.hid (H0.out.below B14.out)
    have hg14 : gd < w14.heap.size := D14.out.cells.inside
    have g0 : w14.cell? ⟨gd, 0, none⟩ = some (.slice v.a g.c.length v.i) := D14.out.cells.read 0
    have g1 : w14.cell? ⟨gd, 1, none⟩ = some (.slice v.b g.l.length v.j) := D14.out.cells.read 1
    have g2 : w14.cell? ⟨gd, 2, none⟩ = some (.slice v.d g.o.length v.k) := D14.out.cells.read 2
    have g3 : w14.cell? ⟨gd, 3, none⟩ = some (.slice v.e g.h.length v.m) := D14.out.cells.read 3
    go_upto_region 19 with (first
      | (go_at_call 225; refine (AF.out _).mono ?_; rintro e w8 ⟨rfl, rfl⟩)
      | (go_at_call 230; refine (LC.out _ D14.out.lies).mono ?_; rintro e w15 ⟨⟨A9, c9, rfl, hLs⟩, b15⟩; have LS := Lib.hid hLs; have O15 := Lib.hid (O14.out.below b15 O14.out.inside); have B15 := Lib.hid (then_below B14.out b15); clear hLs b15)
      | (go_at_call 148; refine (FI.out _ _ _ LS.out).mono ?_; rintro e w16 ⟨rfl, b16⟩; have O16 := Lib.hid (O15.out.below b16 O15.out.inside); have B16 := Lib.hid (then_below B15.out b16); have p3 : w16.cell? ⟨gp, 3, none⟩ = some (.int .i64 0) := O16.out.read 3; have f3 : w16.frozen? ⟨gp, 3, none⟩ = false := O16.out.soft 3; clear b16))
    have P16 := Lib.hid (own_put (i := 3) (u := .int .i64 ai) O16.out B16.out HGP.out)
    clear p3 f3 O16 B16 O15 B15 LS g0 g1 g2 g3 kx4 hb14 D14 hg14 O14 B14 K14 AF FI LC
    generalize w16.setCell ⟨gp, 3, none⟩ (.int .i64 ai) = w18 at P16 ⊢
    have O18 : Hid (Whole w18 gp 141 #[sV n, .int .i64 (k : Nat), .int .i64 u, .int .i64 ai, .int .i64 0, .int .i64 0]) := Lib.hid (by have := P16.out.1; simpa using this)
    have B18 := Lib.hid P16.out.2
    have K18 := Lib.hid (kept_of B18.out HB.out)
    clear P16
    have p3 : w18.cell? ⟨gp, 3, none⟩ = some (.int .i64 ai) := O18.out.read 3
    by_cases hai : ai < 0
    · obtain rfl := (HQ.out.1 hai).symm
      go_wp2_with fail
      go_ret
      exact ⟨addR_bad (by decide), K18.out⟩
    replace HQ := Lib.hid (HQ.out.2 (by omega))
    match l, hw, HQ, HLL, hxl, hi1, hi2, hi3, hi4 with
    | [], hw, HQ, HLL, hxl, hi1, hi2, hi3, hi4 => 
      obtain rfl := (HQ.out.2 rfl).symm
      clear HQ
      go_upto_region 25 with fail
      clear p3
      have OW := O18
      have BW := B18
      have D3 := Lib.hid (H0.out.below BW.out)
      have O3 := Lib.hid (O0.out.below BW.out)
      have KB3 := Lib.hid (kept_of BW.out HB.out)
      have hlo : g.o.length ≤ 50000 := HLo.out
      obtain ⟨i0, hi0, hz0, hz1, hz2⟩ := infoD_ref09_Oq
      have OX := Lib.hid D3.out.cells
      have OR := Lib.hid D3.out.oo
      have GN := Lib.hid (rowS_ne D3.out.oo D3.out.cells (by decide))
      have GI := Lib.hid D3.out.cells.inside
      have HL : Hid (g.o.length ≤ 50000) := HLo
      have HB0 := Lib.hid D3.out.size
      have CP : ∀ w7, TurnS w18 w7 (RowS gd (.slice v.d g.o.length v.k)) → Whole w7 gp 141 #[sV n, .int .i64 (k : Nat), .int .i64 u, .int .i64 ai, .int .i64 0, .int .i64 0] := fun w7 h7 => (h7.block gp OW.out.inside (fun e => absurd (hrow.out gp e) (by have := HGP.out; omega))).trans OW.out
      refine region_full 113 [(7, 10)] [(7, 4), (10, 4), (10, 7)] (fun k => k == 4 || k == 7 || k == 10) (fun w7 => TurnS w18 w7 (RowS gd (.slice v.d g.o.length v.k))) ?hR ?r0 [pdOne 0 (Is (.pointer (some ⟨gd, 0, none⟩))), pdOne 1 (Is (.pointer (some ⟨gd, 0, none⟩))), pdOne 2 (Is (.pointer (some ⟨gd, 0, none⟩))), pdOne 3 (Is (.pointer (some ⟨gd, 2, none⟩))), pdOne 4 (Is (.slice v.d g.o.length v.k)), pdOne 5 (Is (.agg (cOq (⟨n, (k : Nat), u, ai, 0, 0⟩ : Oq)).toArray)), pdOne 6 (LoneG 141 cOq w18.heap.size (⟨n, (k : Nat), u, ai, 0, 0⟩ : Oq)), pdOne 7 (NewG 141 6 cOq B (g.o ++ [(⟨n, (k : Nat), u, ai, 0, 0⟩ : Oq)])), pdOne 8 (Is (.pointer (some ⟨gd, 0, none⟩))), pdOne 9 (Is (.pointer (some ⟨gd, 2, none⟩))), pdOne 10 (LaidG 141 6 cOq gd 36 (fun uq => #[.slice v.a g.c.length v.i, .slice v.b g.l.length v.j, uq, .slice v.e g.h.length v.m]) B (g.o ++ [(⟨n, (k : Nat), u, ai, 0, 0⟩ : Oq)]))] (fun k w7 => (k = 4 → Whole w7 gd 36 ((fun uq => #[.slice v.a g.c.length v.i, .slice v.b g.l.length v.j, uq, .slice v.e g.h.length v.m]) (.slice v.d g.o.length v.k))) ∧ (k = 7 → OwnG 141 6 cOq w7 B (.slice v.d g.o.length v.k) g.o) ∧ (k = 10 → ∃ u, Whole w7 gd 36 ((fun uq => #[.slice v.a g.c.length v.i, .slice v.b g.l.length v.j, uq, .slice v.e g.h.length v.m]) u))) (by kernel_rfl) rfl (by kernel_rfl) (by kernel_rfl) (by kernel_rfl) (by kernel_rfl) ?keep ?hO ?h0 ?tell
      case hR => exact fun w7 w8 hb h1 => h1.later hb
      case r0 => exact TurnS.refl _ _
      case keep => exact ⟨keep_one (keeps_is _), keep_one (keeps_is _), keep_one (keeps_is _), keep_one (keeps_is _), keep_one (keeps_is _), keep_one (keeps_is _), keep_one (keeps_loneG _ _), keep_one (keeps_newG _ _), keep_one (keeps_is _), keep_one (keeps_is _), keep_one (keeps_laidG _ _ _ _ _), trivial⟩
      case hO => exact fun k w7 w8 hb ⟨h1, h2, h3⟩ => ⟨fun e => (h1 e).below hb (h1 e).inside, fun e => (h2 e).below hb, fun e => (h3 e).imp fun u hx => hx.below hb hx.inside⟩
      case h0 => exact fun k _ => ⟨fun _ => OX.out, fun _ => OR.out, fun _ => ⟨_, OX.out⟩⟩
      case tell =>
        intro fin hfin
        simp [lexPut, Act.put] at hfin
        simp only [TellF]
        refine ⟨⟨?_, ?_, ?_, ?_, ?_, ?_, ?_, ?_, ?_, ?_, ?_, trivial⟩, ?_⟩
        · intro v2 w7 hr hd
          refine yields_run (u := .pointer (some ⟨gd, 0, none⟩)) (w' := w7) ?_ (Below.refl _ _) rfl
          unfold execOp
          simp [go_sem, Act.eval]
        · intro v2 w7 hr hd
          refine yields_run (u := .pointer (some ⟨gd, 0, none⟩)) (w' := w7) ?_ (Below.refl _ _) rfl
          unfold execOp
          simp [go_sem, Act.eval, Act.put]
        · intro v2 w7 hr hd
          have h1 : v2 1 = .pointer (some ⟨gd, 0, none⟩) := hd 1 (by kernel_rfl)
          refine yields_run (u := .pointer (some ⟨gd, 0, none⟩)) (w' := w7) ?_ (Below.refl _ _) rfl
          unfold execOp
          simp [go_sem, Act.eval, Act.put, h1]
        · intro v2 w7 hr hd
          have h2 : v2 2 = .pointer (some ⟨gd, 0, none⟩) := hd 2 (by kernel_rfl)
          refine yields_run (u := .pointer (some ⟨gd, 2, none⟩)) (w' := w7) ?_ (Below.refl _ _) rfl
          unfold execOp
          simp [go_sem, Act.eval, Act.put, h2]
        · intro v2 w7 hr ho hd
          have h3 : v2 3 = .pointer (some ⟨gd, 2, none⟩) := hd 3 (by kernel_rfl)
          have hc : w7.cell? ⟨gd, 2, none⟩ = some (.slice v.d g.o.length v.k) := (ho.1 trivial).read 2
          refine .inl (.inl ⟨.slice v.d g.o.length v.k, w7, ?_, hr, fun _ _ _ _ hu => hu, fun _ _ _ _ hu => hu, rfl⟩)
          unfold execOp
          simp [go_sem, Act.eval, Act.put, h3, hc]
        · intro v2 w7 hr hd
          have CPW := CP w7 hr
          have j0 : w7.cell? ⟨gp, 0, none⟩ = some (sV n) := CPW.read 0
          have j1 : w7.cell? ⟨gp, 1, none⟩ = some (.int .i64 (k : Nat)) := CPW.read 1
          have j2 : w7.cell? ⟨gp, 2, none⟩ = some (.int .i64 u) := CPW.read 2
          have j3 : w7.cell? ⟨gp, 3, none⟩ = some (.int .i64 ai) := CPW.read 3
          have j4 : w7.cell? ⟨gp, 4, none⟩ = some (.int .i64 0) := CPW.read 4
          have j5 : w7.cell? ⟨gp, 5, none⟩ = some (.int .i64 0) := CPW.read 5
          refine yields_run (u := .agg (cOq (⟨n, (k : Nat), u, ai, 0, 0⟩ : Oq)).toArray) (w' := w7) ?_ (Below.refl _ _) rfl
          unfold execOp
          simp [go_sem, Act.eval, Act.put, j0, j1, j2, j3, j4, j5, cOq]
        · intro v2 w7 hr hd
          have h5 : v2 5 = .agg (cOq (⟨n, (k : Nat), u, ai, 0, 0⟩ : Oq)).toArray := hd 5 (by kernel_rfl)
          refine yields_run (u := .slice (some ⟨w7.heap.size, 0, none⟩) 1 1) (w' := w7.alloc (.cells (cOq (⟨n, (k : Nat), u, ai, 0, 0⟩ : Oq)).toArray 141)) ?_ (fresh1 w7 _) ⟨w7.heap.size, rfl, hr.size, Whole.fresh w7 _ _⟩
          unfold execOp
          simp [go_sem, Act.eval, Act.put, h5, cOq]
        · intro v2 w7 hr ho hd
          have h4 : v2 4 = .slice v.d g.o.length v.k := hd 4 (by kernel_rfl)
          obtain ⟨gy, hz, hyl, hw⟩ : LoneG 141 cOq w18.heap.size (⟨n, (k : Nat), u, ai, 0, 0⟩ : Oq) (v2 6) w7 := hd 6 (by kernel_rfl)
          have ho7 := ho.2.1 trivial
          refine .inl (yields_append (.tmp 106) (.tmp 108) 33 rfl B 141 i0 (.agg #[sV [], .int .i64 0, .int .i64 0, .int .i64 0, .int .i64 0, .int .i64 0]) 6 56 Tryz.underlying33 hi0 hz0 hz1 hz2 rfl (by decide) (.slice v.d g.o.length v.k) g.o.length (g.o.flatMap cOq) (by simp [Act.eval, Act.put, h4]) ho7 ⟨gy, 0, none⟩ 1 1 (cOq (⟨n, (k : Nat), u, ai, 0, 0⟩ : Oq)) (by simp [Act.eval, Act.put, hz]) rfl (whole_cells hw) (CELLS_cOq.one (⟨n, (k : Nat), u, ai, 0, 0⟩ : Oq)) (by decide) (by have := HL.out; unfold maxLen; omega) (by have := HL.out; omega) (Nat.le_trans HB0.out hr.size) ?_)
          intro g8 cap8 w8 hown hgrow
          have hxn : some gd ≠ (Value.slice v.d g.o.length v.k).ownBlock := GN.out
          refine ⟨hr.grown hgrow (fun j e => .inl (.inr e)), ?_, ?_, (show NewG 141 6 cOq B (g.o ++ [(⟨n, (k : Nat), u, ai, 0, 0⟩ : Oq)]) (.slice (some ⟨g8, 0, none⟩) (g.o.length + 1) cap8) w8 from ⟨g8, cap8, by simp, by unfold OwnG; simpa using hown⟩)⟩
          · intro k2 v' hk2 hc hu
            exact match k2, hk2, hc, hu with
              | 0, _, _, hu => hu
              | 1, _, _, hu => hu
              | 2, _, _, hu => hu
              | 3, _, _, hu => hu
              | 4, _, _, hu => hu
              | 5, _, _, hu => hu
              | 6, _, _, ⟨gy, h1, h2, h3⟩ => ⟨gy, h1, h2, h3.grown hgrow (OR.out.away h2)⟩
              | 7, hk2, _, _ => absurd rfl hk2
              | 8, _, _, hu => hu
              | 9, _, _, hu => hu
              | 10, _, hc, _ => absurd hc (by decide)
              | _ + 11, _, _, _ => trivial
          · intro k2 hk2 hn hc2 ⟨h1, h2, h3⟩
            exact ⟨fun e => by subst e; exact absurd hc2 (by decide), fun e => absurd e hk2, fun e => (h3 e).imp fun u hx => hx.grown hgrow hxn⟩
        · intro v2 w7 hr hd
          have h0 : v2 0 = .pointer (some ⟨gd, 0, none⟩) := hd 0 (by kernel_rfl)
          refine yields_run (u := .pointer (some ⟨gd, 0, none⟩)) (w' := w7) ?_ (Below.refl _ _) rfl
          unfold execOp
          simp [go_sem, Act.eval, Act.put, h0]
        · intro v2 w7 hr hd
          have h8 : v2 8 = .pointer (some ⟨gd, 0, none⟩) := hd 8 (by kernel_rfl)
          refine yields_run (u := .pointer (some ⟨gd, 2, none⟩)) (w' := w7) ?_ (Below.refl _ _) rfl
          unfold execOp
          simp [go_sem, Act.eval, Act.put, h8]
        · intro v2 w7 hr ho hd
          have h9 : v2 9 = .pointer (some ⟨gd, 2, none⟩) := hd 9 (by kernel_rfl)
          obtain ⟨g', c2, h7, hn7⟩ : NewG 141 6 cOq B (g.o ++ [(⟨n, (k : Nat), u, ai, 0, 0⟩ : Oq)]) (v2 7) w7 := hd 7 (by kernel_rfl)
          obtain ⟨uq, hu0⟩ := ho.2.2 trivial
          rw [h7] at hn7
          have hc : w7.cell? ⟨gd, 2, none⟩ = some uq := hu0.read 2
          have hf : w7.frozen? ⟨gd, 2, none⟩ = false := hu0.soft 2
          have hg : w7.grownBy (w7.setCell ⟨gd, 2, none⟩ (.slice (some ⟨g', 0, none⟩) (g.o ++ [(⟨n, (k : Nat), u, ai, 0, 0⟩ : Oq)]).length c2)) (some gd) := only_store (only_of_below (Below.refl _ w7) (some gd)) _
          refine .inr ⟨w7.setCell ⟨gd, 2, none⟩ (.slice (some ⟨g', 0, none⟩) (g.o ++ [(⟨n, (k : Nat), u, ai, 0, 0⟩ : Oq)]).length c2), ?_, hr.grown hg (fun j e => .inl (.inl (by cases e; rfl))), ?_, ?_, some ⟨g', 0, none⟩, c2, hu0.store 2 _, hn7.past hg (fun k e => by cases e; exact rowS_ne hn7 hu0 (by decide))⟩
          · unfold execOp
            simp [go_sem, Act.eval, Act.put, h9, h7, hc, hf]
          · intro k2 v' hk2 hc hu
            exact match k2, hk2, hc, hu with
              | 0, _, _, hu => hu
              | 1, _, _, hu => hu
              | 2, _, _, hu => hu
              | 3, _, _, hu => hu
              | 4, _, _, hu => hu
              | 5, _, _, hu => hu
              | 6, _, _, ⟨gy, h1, h2, h3⟩ => ⟨gy, h1, h2, h3.grown hg (by have := GI.out; intro e; cases e; omega)⟩
              | 7, _, _, ⟨g', c', h1, h2⟩ => ⟨g', c', h1, h2.past hg (fun k e => by cases e; exact rowS_ne h2 hu0 (by decide))⟩
              | 8, _, _, hu => hu
              | 9, _, _, hu => hu
              | 10, hk2, _, _ => absurd rfl hk2
              | _ + 11, _, _, _ => trivial
          · intro k2 hk2 hn hc2 ⟨h1, h2, h3⟩
            exact ⟨fun e => by subst e; exact absurd hc2 (by decide), fun e => by subst e; exact absurd hc2 (by decide), fun e => absurd e hk2⟩
        · intro v2 w7 hr hv
          obtain ⟨D, c2, hl1, hl2⟩ : LaidG 141 6 cOq gd 36 (fun uq => #[.slice v.a g.c.length v.i, .slice v.b g.l.length v.j, uq, .slice v.e g.h.length v.m]) B (g.o ++ [(⟨n, (k : Nat), u, ai, 0, 0⟩ : Oq)]) (v2 10) w7 := hv 10 (by decide)
          have X10 := Lib.hid hl1
          have O10 := Lib.hid hl2
          have R10 := Lib.hid hr
          rw [hfin]
          clear hfin hv hl1 hl2 hr
          generalize v2 7 = v7
          generalize v2 6 = v6
          have hap := Lib.hid (rowS_above D3.out.oo D3.out.bd)
          have BE := Lib.hid (KB3.out.row D3.out.oo D3.out.cells R10.out HB0.out hap.out (by decide) (by decide))
          have DE : Hid (DrR w7 B gd ⟨v.a, v.b, D, v.e, v.i, v.j, c2, v.m⟩ { g with o := g.o ++ [⟨n, (k : Nat), u, ai, 0, 0⟩] }) := Lib.hid ⟨X10.out, D3.out.oc.turn R10.out (row_apart D3.out.oo D3.out.oc D3.out.cells (by decide) (by decide)), D3.out.ol.turn R10.out (row_apart D3.out.oo D3.out.ol D3.out.cells (by decide) (by decide)), O10.out, D3.out.oh.turn R10.out (row_apart D3.out.oo D3.out.oh D3.out.cells (by decide) (by decide)), D3.out.bd⟩
          clear hap X10 O10 R10 OX OR GN GI HL HB0 D3 O3 KB3 CP
          go_wp2_with fail
          go_ret
          exact ⟨⟨rfl, fun _ => ⟨_, DE.out⟩⟩, BE.out⟩

    | [p], hw, HQ, HLL, hxl, hi1, hi2, hi3, hi4 => 
      have kx5 : w18.cell? ⟨b1, 5, none⟩ = some (sV p) := CWh.out w18 (B18.out.block b1 hb1) 5 p rfl
      have hb18 : b1 < w18.heap.size := Nat.lt_of_lt_of_le hb1 B18.out.size
      have VA := Lib.hid fun W => value9_any p kwA (hxl.out p (by simp)) W
      have HR0 : (numE kwA p ≠ 0 → R = (numE kwA p, g)) ∧ (numE kwA p = 0 → R = (0, { g with o := g.o ++ [⟨n, (k : Nat), u, ai, numV kwA p, 0⟩] })) := ⟨fun h => HQ.out.1 h, fun h => HQ.out.2 h⟩
      generalize numV kwA p = va at VA HR0
      generalize numE kwA p = z at VA HR0
      have HRR := Lib.hid HR0
      clear HR0 HQ
      go_upto_region 23 with (go_at_call 146; refine (VA.out _).mono ?_; rintro e w20 ⟨rfl, b20⟩; have O20 := Lib.hid (O18.out.below b20 O18.out.inside); have B20 := Lib.hid (then_below B18.out b20); have p4 : w20.cell? ⟨gp, 4, none⟩ = some (.int .i64 0) := O20.out.read 4; have f4 : w20.frozen? ⟨gp, 4, none⟩ = false := O20.out.soft 4; clear b20)
      have P20 := Lib.hid (own_put (i := 4) (u := .int .i64 va) O20.out B20.out HGP.out)
      clear p3 p4 f4 O20 B20 kx5 hb18 VA O18 B18 K18
      generalize w20.setCell ⟨gp, 4, none⟩ (.int .i64 va) = w22 at P20 ⊢
      have O22 : Hid (Whole w22 gp 141 #[sV n, .int .i64 (k : Nat), .int .i64 u, .int .i64 ai, .int .i64 va, .int .i64 0]) := Lib.hid (by have := P20.out.1; simpa using this)
      have B22 := Lib.hid P20.out.2
      clear P20
      by_cases hz : z = 0
      case neg =>
        obtain rfl := (HRR.out.1 hz).symm
        have hzh := Lib.hid hz
        have hne : (z == 0) = false := by rw [beq_eq_false_iff_ne]; exact hz
        clear hz
        go_upto_region 25 with fail
        have OW := O22
        have BW := B22
        have D3 := Lib.hid (H0.out.below BW.out)
        have O3 := Lib.hid (O0.out.below BW.out)
        have KB3 := Lib.hid (kept_of BW.out HB.out)
        have hlo : g.o.length ≤ 50000 := HLo.out
        obtain ⟨i0, hi0, hz0, hz1, hz2⟩ := infoD_ref09_Oq
        have OX := Lib.hid D3.out.cells
        have OR := Lib.hid D3.out.oo
        have GN := Lib.hid (rowS_ne D3.out.oo D3.out.cells (by decide))
        have GI := Lib.hid D3.out.cells.inside
        have HL : Hid (g.o.length ≤ 50000) := HLo
        have HB0 := Lib.hid D3.out.size
        have CP : ∀ w7, TurnS w22 w7 (RowS gd (.slice v.d g.o.length v.k)) → Whole w7 gp 141 #[sV n, .int .i64 (k : Nat), .int .i64 u, .int .i64 ai, .int .i64 va, .int .i64 0] := fun w7 h7 => (h7.block gp OW.out.inside (fun e => absurd (hrow.out gp e) (by have := HGP.out; omega))).trans OW.out
        refine region_full 113 [(7, 10)] [(7, 4), (10, 4), (10, 7)] (fun k => k == 4 || k == 7 || k == 10) (fun w7 => TurnS w22 w7 (RowS gd (.slice v.d g.o.length v.k))) ?hR ?r0 [pdOne 0 (Is (.pointer (some ⟨gd, 0, none⟩))), pdOne 1 (Is (.pointer (some ⟨gd, 0, none⟩))), pdOne 2 (Is (.pointer (some ⟨gd, 0, none⟩))), pdOne 3 (Is (.pointer (some ⟨gd, 2, none⟩))), pdOne 4 (Is (.slice v.d g.o.length v.k)), pdOne 5 (Is (.agg (cOq (⟨n, (k : Nat), u, ai, va, 0⟩ : Oq)).toArray)), pdOne 6 (LoneG 141 cOq w22.heap.size (⟨n, (k : Nat), u, ai, va, 0⟩ : Oq)), pdOne 7 (NewG 141 6 cOq B (g.o ++ [(⟨n, (k : Nat), u, ai, va, 0⟩ : Oq)])), pdOne 8 (Is (.pointer (some ⟨gd, 0, none⟩))), pdOne 9 (Is (.pointer (some ⟨gd, 2, none⟩))), pdOne 10 (LaidG 141 6 cOq gd 36 (fun uq => #[.slice v.a g.c.length v.i, .slice v.b g.l.length v.j, uq, .slice v.e g.h.length v.m]) B (g.o ++ [(⟨n, (k : Nat), u, ai, va, 0⟩ : Oq)]))] (fun k w7 => (k = 4 → Whole w7 gd 36 ((fun uq => #[.slice v.a g.c.length v.i, .slice v.b g.l.length v.j, uq, .slice v.e g.h.length v.m]) (.slice v.d g.o.length v.k))) ∧ (k = 7 → OwnG 141 6 cOq w7 B (.slice v.d g.o.length v.k) g.o) ∧ (k = 10 → ∃ u, Whole w7 gd 36 ((fun uq => #[.slice v.a g.c.length v.i, .slice v.b g.l.length v.j, uq, .slice v.e g.h.length v.m]) u))) (by kernel_rfl) rfl (by kernel_rfl) (by kernel_rfl) (by kernel_rfl) (by kernel_rfl) ?keep ?hO ?h0 ?tell
        case hR => exact fun w7 w8 hb h1 => h1.later hb
        case r0 => exact TurnS.refl _ _
        case keep => exact ⟨keep_one (keeps_is _), keep_one (keeps_is _), keep_one (keeps_is _), keep_one (keeps_is _), keep_one (keeps_is _), keep_one (keeps_is _), keep_one (keeps_loneG _ _), keep_one (keeps_newG _ _), keep_one (keeps_is _), keep_one (keeps_is _), keep_one (keeps_laidG _ _ _ _ _), trivial⟩
        case hO => exact fun k w7 w8 hb ⟨h1, h2, h3⟩ => ⟨fun e => (h1 e).below hb (h1 e).inside, fun e => (h2 e).below hb, fun e => (h3 e).imp fun u hx => hx.below hb hx.inside⟩
        case h0 => exact fun k _ => ⟨fun _ => OX.out, fun _ => OR.out, fun _ => ⟨_, OX.out⟩⟩
        case tell =>
          intro fin hfin
          simp [lexPut, Act.put] at hfin
          simp only [TellF]
          refine ⟨⟨?_, ?_, ?_, ?_, ?_, ?_, ?_, ?_, ?_, ?_, ?_, trivial⟩, ?_⟩
          · intro v2 w7 hr hd
            refine yields_run (u := .pointer (some ⟨gd, 0, none⟩)) (w' := w7) ?_ (Below.refl _ _) rfl
            unfold execOp
            simp [go_sem, Act.eval]
          · intro v2 w7 hr hd
            refine yields_run (u := .pointer (some ⟨gd, 0, none⟩)) (w' := w7) ?_ (Below.refl _ _) rfl
            unfold execOp
            simp [go_sem, Act.eval, Act.put]
          · intro v2 w7 hr hd
            have h1 : v2 1 = .pointer (some ⟨gd, 0, none⟩) := hd 1 (by kernel_rfl)
            refine yields_run (u := .pointer (some ⟨gd, 0, none⟩)) (w' := w7) ?_ (Below.refl _ _) rfl
            unfold execOp
            simp [go_sem, Act.eval, Act.put, h1]
          · intro v2 w7 hr hd
            have h2 : v2 2 = .pointer (some ⟨gd, 0, none⟩) := hd 2 (by kernel_rfl)
            refine yields_run (u := .pointer (some ⟨gd, 2, none⟩)) (w' := w7) ?_ (Below.refl _ _) rfl
            unfold execOp
            simp [go_sem, Act.eval, Act.put, h2]
          · intro v2 w7 hr ho hd
            have h3 : v2 3 = .pointer (some ⟨gd, 2, none⟩) := hd 3 (by kernel_rfl)
            have hc : w7.cell? ⟨gd, 2, none⟩ = some (.slice v.d g.o.length v.k) := (ho.1 trivial).read 2
            refine .inl (.inl ⟨.slice v.d g.o.length v.k, w7, ?_, hr, fun _ _ _ _ hu => hu, fun _ _ _ _ hu => hu, rfl⟩)
            unfold execOp
            simp [go_sem, Act.eval, Act.put, h3, hc]
          · intro v2 w7 hr hd
            have CPW := CP w7 hr
            have j0 : w7.cell? ⟨gp, 0, none⟩ = some (sV n) := CPW.read 0
            have j1 : w7.cell? ⟨gp, 1, none⟩ = some (.int .i64 (k : Nat)) := CPW.read 1
            have j2 : w7.cell? ⟨gp, 2, none⟩ = some (.int .i64 u) := CPW.read 2
            have j3 : w7.cell? ⟨gp, 3, none⟩ = some (.int .i64 ai) := CPW.read 3
            have j4 : w7.cell? ⟨gp, 4, none⟩ = some (.int .i64 va) := CPW.read 4
            have j5 : w7.cell? ⟨gp, 5, none⟩ = some (.int .i64 0) := CPW.read 5
            refine yields_run (u := .agg (cOq (⟨n, (k : Nat), u, ai, va, 0⟩ : Oq)).toArray) (w' := w7) ?_ (Below.refl _ _) rfl
            unfold execOp
            simp [go_sem, Act.eval, Act.put, j0, j1, j2, j3, j4, j5, cOq]
          · intro v2 w7 hr hd
            have h5 : v2 5 = .agg (cOq (⟨n, (k : Nat), u, ai, va, 0⟩ : Oq)).toArray := hd 5 (by kernel_rfl)
            refine yields_run (u := .slice (some ⟨w7.heap.size, 0, none⟩) 1 1) (w' := w7.alloc (.cells (cOq (⟨n, (k : Nat), u, ai, va, 0⟩ : Oq)).toArray 141)) ?_ (fresh1 w7 _) ⟨w7.heap.size, rfl, hr.size, Whole.fresh w7 _ _⟩
            unfold execOp
            simp [go_sem, Act.eval, Act.put, h5, cOq]
          · intro v2 w7 hr ho hd
            have h4 : v2 4 = .slice v.d g.o.length v.k := hd 4 (by kernel_rfl)
            obtain ⟨gy, hz, hyl, hw⟩ : LoneG 141 cOq w22.heap.size (⟨n, (k : Nat), u, ai, va, 0⟩ : Oq) (v2 6) w7 := hd 6 (by kernel_rfl)
            have ho7 := ho.2.1 trivial
            refine .inl (yields_append (.tmp 106) (.tmp 108) 33 rfl B 141 i0 (.agg #[sV [], .int .i64 0, .int .i64 0, .int .i64 0, .int .i64 0, .int .i64 0]) 6 56 Tryz.underlying33 hi0 hz0 hz1 hz2 rfl (by decide) (.slice v.d g.o.length v.k) g.o.length (g.o.flatMap cOq) (by simp [Act.eval, Act.put, h4]) ho7 ⟨gy, 0, none⟩ 1 1 (cOq (⟨n, (k : Nat), u, ai, va, 0⟩ : Oq)) (by simp [Act.eval, Act.put, hz]) rfl (whole_cells hw) (CELLS_cOq.one (⟨n, (k : Nat), u, ai, va, 0⟩ : Oq)) (by decide) (by have := HL.out; unfold maxLen; omega) (by have := HL.out; omega) (Nat.le_trans HB0.out hr.size) ?_)
            intro g8 cap8 w8 hown hgrow
            have hxn : some gd ≠ (Value.slice v.d g.o.length v.k).ownBlock := GN.out
            refine ⟨hr.grown hgrow (fun j e => .inl (.inr e)), ?_, ?_, (show NewG 141 6 cOq B (g.o ++ [(⟨n, (k : Nat), u, ai, va, 0⟩ : Oq)]) (.slice (some ⟨g8, 0, none⟩) (g.o.length + 1) cap8) w8 from ⟨g8, cap8, by simp, by unfold OwnG; simpa using hown⟩)⟩
            · intro k2 v' hk2 hc hu
              exact match k2, hk2, hc, hu with
                | 0, _, _, hu => hu
                | 1, _, _, hu => hu
                | 2, _, _, hu => hu
                | 3, _, _, hu => hu
                | 4, _, _, hu => hu
                | 5, _, _, hu => hu
                | 6, _, _, ⟨gy, h1, h2, h3⟩ => ⟨gy, h1, h2, h3.grown hgrow (OR.out.away h2)⟩
                | 7, hk2, _, _ => absurd rfl hk2
                | 8, _, _, hu => hu
                | 9, _, _, hu => hu
                | 10, _, hc, _ => absurd hc (by decide)
                | _ + 11, _, _, _ => trivial
            · intro k2 hk2 hn hc2 ⟨h1, h2, h3⟩
              exact ⟨fun e => by subst e; exact absurd hc2 (by decide), fun e => absurd e hk2, fun e => (h3 e).imp fun u hx => hx.grown hgrow hxn⟩
          · intro v2 w7 hr hd
            have h0 : v2 0 = .pointer (some ⟨gd, 0, none⟩) := hd 0 (by kernel_rfl)
            refine yields_run (u := .pointer (some ⟨gd, 0, none⟩)) (w' := w7) ?_ (Below.refl _ _) rfl
            unfold execOp
            simp [go_sem, Act.eval, Act.put, h0]
          · intro v2 w7 hr hd
            have h8 : v2 8 = .pointer (some ⟨gd, 0, none⟩) := hd 8 (by kernel_rfl)
            refine yields_run (u := .pointer (some ⟨gd, 2, none⟩)) (w' := w7) ?_ (Below.refl _ _) rfl
            unfold execOp
            simp [go_sem, Act.eval, Act.put, h8]
          · intro v2 w7 hr ho hd
            have h9 : v2 9 = .pointer (some ⟨gd, 2, none⟩) := hd 9 (by kernel_rfl)
            obtain ⟨g', c2, h7, hn7⟩ : NewG 141 6 cOq B (g.o ++ [(⟨n, (k : Nat), u, ai, va, 0⟩ : Oq)]) (v2 7) w7 := hd 7 (by kernel_rfl)
            obtain ⟨uq, hu0⟩ := ho.2.2 trivial
            rw [h7] at hn7
            have hc : w7.cell? ⟨gd, 2, none⟩ = some uq := hu0.read 2
            have hf : w7.frozen? ⟨gd, 2, none⟩ = false := hu0.soft 2
            have hg : w7.grownBy (w7.setCell ⟨gd, 2, none⟩ (.slice (some ⟨g', 0, none⟩) (g.o ++ [(⟨n, (k : Nat), u, ai, va, 0⟩ : Oq)]).length c2)) (some gd) := only_store (only_of_below (Below.refl _ w7) (some gd)) _
            refine .inr ⟨w7.setCell ⟨gd, 2, none⟩ (.slice (some ⟨g', 0, none⟩) (g.o ++ [(⟨n, (k : Nat), u, ai, va, 0⟩ : Oq)]).length c2), ?_, hr.grown hg (fun j e => .inl (.inl (by cases e; rfl))), ?_, ?_, some ⟨g', 0, none⟩, c2, hu0.store 2 _, hn7.past hg (fun k e => by cases e; exact rowS_ne hn7 hu0 (by decide))⟩
            · unfold execOp
              simp [go_sem, Act.eval, Act.put, h9, h7, hc, hf]
            · intro k2 v' hk2 hc hu
              exact match k2, hk2, hc, hu with
                | 0, _, _, hu => hu
                | 1, _, _, hu => hu
                | 2, _, _, hu => hu
                | 3, _, _, hu => hu
                | 4, _, _, hu => hu
                | 5, _, _, hu => hu
                | 6, _, _, ⟨gy, h1, h2, h3⟩ => ⟨gy, h1, h2, h3.grown hg (by have := GI.out; intro e; cases e; omega)⟩
                | 7, _, _, ⟨g', c', h1, h2⟩ => ⟨g', c', h1, h2.past hg (fun k e => by cases e; exact rowS_ne h2 hu0 (by decide))⟩
                | 8, _, _, hu => hu
                | 9, _, _, hu => hu
                | 10, hk2, _, _ => absurd rfl hk2
                | _ + 11, _, _, _ => trivial
            · intro k2 hk2 hn hc2 ⟨h1, h2, h3⟩
              exact ⟨fun e => by subst e; exact absurd hc2 (by decide), fun e => by subst e; exact absurd hc2 (by decide), fun e => absurd e hk2⟩
          · intro v2 w7 hr hv
            obtain ⟨D, c2, hl1, hl2⟩ : LaidG 141 6 cOq gd 36 (fun uq => #[.slice v.a g.c.length v.i, .slice v.b g.l.length v.j, uq, .slice v.e g.h.length v.m]) B (g.o ++ [(⟨n, (k : Nat), u, ai, va, 0⟩ : Oq)]) (v2 10) w7 := hv 10 (by decide)
            have X10 := Lib.hid hl1
            have O10 := Lib.hid hl2
            have R10 := Lib.hid hr
            rw [hfin]
            clear hfin hv hl1 hl2 hr
            generalize v2 7 = v7
            generalize v2 6 = v6
            have hap := Lib.hid (rowS_above D3.out.oo D3.out.bd)
            have BE := Lib.hid (KB3.out.row D3.out.oo D3.out.cells R10.out HB0.out hap.out (by decide) (by decide))
            have DE : Hid (DrR w7 B gd ⟨v.a, v.b, D, v.e, v.i, v.j, c2, v.m⟩ { g with o := g.o ++ [⟨n, (k : Nat), u, ai, va, 0⟩] }) := Lib.hid ⟨X10.out, D3.out.oc.turn R10.out (row_apart D3.out.oo D3.out.oc D3.out.cells (by decide) (by decide)), D3.out.ol.turn R10.out (row_apart D3.out.oo D3.out.ol D3.out.cells (by decide) (by decide)), O10.out, D3.out.oh.turn R10.out (row_apart D3.out.oo D3.out.oh D3.out.cells (by decide) (by decide)), D3.out.bd⟩
            clear hap X10 O10 R10 OX OR GN GI HL HB0 D3 O3 KB3 CP
            go_wp2_with fail
            go_ret
            exact ⟨addR_bad hzh.out, BE.out⟩
      obtain rfl := (HRR.out.2 hz).symm
      subst hz
      clear HRR
      go_upto_region 25 with fail
      have OW := O22
      have BW := B22
      have D3 := Lib.hid (H0.out.below BW.out)
      have O3 := Lib.hid (O0.out.below BW.out)
      have KB3 := Lib.hid (kept_of BW.out HB.out)
      have hlo : g.o.length ≤ 50000 := HLo.out
      obtain ⟨i0, hi0, hz0, hz1, hz2⟩ := infoD_ref09_Oq
      have OX := Lib.hid D3.out.cells
      have OR := Lib.hid D3.out.oo
      have GN := Lib.hid (rowS_ne D3.out.oo D3.out.cells (by decide))
      have GI := Lib.hid D3.out.cells.inside
      have HL : Hid (g.o.length ≤ 50000) := HLo
      have HB0 := Lib.hid D3.out.size
      have CP : ∀ w7, TurnS w22 w7 (RowS gd (.slice v.d g.o.length v.k)) → Whole w7 gp 141 #[sV n, .int .i64 (k : Nat), .int .i64 u, .int .i64 ai, .int .i64 va, .int .i64 0] := fun w7 h7 => (h7.block gp OW.out.inside (fun e => absurd (hrow.out gp e) (by have := HGP.out; omega))).trans OW.out
      refine region_full 113 [(7, 10)] [(7, 4), (10, 4), (10, 7)] (fun k => k == 4 || k == 7 || k == 10) (fun w7 => TurnS w22 w7 (RowS gd (.slice v.d g.o.length v.k))) ?hR ?r0 [pdOne 0 (Is (.pointer (some ⟨gd, 0, none⟩))), pdOne 1 (Is (.pointer (some ⟨gd, 0, none⟩))), pdOne 2 (Is (.pointer (some ⟨gd, 0, none⟩))), pdOne 3 (Is (.pointer (some ⟨gd, 2, none⟩))), pdOne 4 (Is (.slice v.d g.o.length v.k)), pdOne 5 (Is (.agg (cOq (⟨n, (k : Nat), u, ai, va, 0⟩ : Oq)).toArray)), pdOne 6 (LoneG 141 cOq w22.heap.size (⟨n, (k : Nat), u, ai, va, 0⟩ : Oq)), pdOne 7 (NewG 141 6 cOq B (g.o ++ [(⟨n, (k : Nat), u, ai, va, 0⟩ : Oq)])), pdOne 8 (Is (.pointer (some ⟨gd, 0, none⟩))), pdOne 9 (Is (.pointer (some ⟨gd, 2, none⟩))), pdOne 10 (LaidG 141 6 cOq gd 36 (fun uq => #[.slice v.a g.c.length v.i, .slice v.b g.l.length v.j, uq, .slice v.e g.h.length v.m]) B (g.o ++ [(⟨n, (k : Nat), u, ai, va, 0⟩ : Oq)]))] (fun k w7 => (k = 4 → Whole w7 gd 36 ((fun uq => #[.slice v.a g.c.length v.i, .slice v.b g.l.length v.j, uq, .slice v.e g.h.length v.m]) (.slice v.d g.o.length v.k))) ∧ (k = 7 → OwnG 141 6 cOq w7 B (.slice v.d g.o.length v.k) g.o) ∧ (k = 10 → ∃ u, Whole w7 gd 36 ((fun uq => #[.slice v.a g.c.length v.i, .slice v.b g.l.length v.j, uq, .slice v.e g.h.length v.m]) u))) (by kernel_rfl) rfl (by kernel_rfl) (by kernel_rfl) (by kernel_rfl) (by kernel_rfl) ?keep ?hO ?h0 ?tell
      case hR => exact fun w7 w8 hb h1 => h1.later hb
      case r0 => exact TurnS.refl _ _
      case keep => exact ⟨keep_one (keeps_is _), keep_one (keeps_is _), keep_one (keeps_is _), keep_one (keeps_is _), keep_one (keeps_is _), keep_one (keeps_is _), keep_one (keeps_loneG _ _), keep_one (keeps_newG _ _), keep_one (keeps_is _), keep_one (keeps_is _), keep_one (keeps_laidG _ _ _ _ _), trivial⟩
      case hO => exact fun k w7 w8 hb ⟨h1, h2, h3⟩ => ⟨fun e => (h1 e).below hb (h1 e).inside, fun e => (h2 e).below hb, fun e => (h3 e).imp fun u hx => hx.below hb hx.inside⟩
      case h0 => exact fun k _ => ⟨fun _ => OX.out, fun _ => OR.out, fun _ => ⟨_, OX.out⟩⟩
      case tell =>
        intro fin hfin
        simp [lexPut, Act.put] at hfin
        simp only [TellF]
        refine ⟨⟨?_, ?_, ?_, ?_, ?_, ?_, ?_, ?_, ?_, ?_, ?_, trivial⟩, ?_⟩
        · intro v2 w7 hr hd
          refine yields_run (u := .pointer (some ⟨gd, 0, none⟩)) (w' := w7) ?_ (Below.refl _ _) rfl
          unfold execOp
          simp [go_sem, Act.eval]
        · intro v2 w7 hr hd
          refine yields_run (u := .pointer (some ⟨gd, 0, none⟩)) (w' := w7) ?_ (Below.refl _ _) rfl
          unfold execOp
          simp [go_sem, Act.eval, Act.put]
        · intro v2 w7 hr hd
          have h1 : v2 1 = .pointer (some ⟨gd, 0, none⟩) := hd 1 (by kernel_rfl)
          refine yields_run (u := .pointer (some ⟨gd, 0, none⟩)) (w' := w7) ?_ (Below.refl _ _) rfl
          unfold execOp
          simp [go_sem, Act.eval, Act.put, h1]
        · intro v2 w7 hr hd
          have h2 : v2 2 = .pointer (some ⟨gd, 0, none⟩) := hd 2 (by kernel_rfl)
          refine yields_run (u := .pointer (some ⟨gd, 2, none⟩)) (w' := w7) ?_ (Below.refl _ _) rfl
          unfold execOp
          simp [go_sem, Act.eval, Act.put, h2]
        · intro v2 w7 hr ho hd
          have h3 : v2 3 = .pointer (some ⟨gd, 2, none⟩) := hd 3 (by kernel_rfl)
          have hc : w7.cell? ⟨gd, 2, none⟩ = some (.slice v.d g.o.length v.k) := (ho.1 trivial).read 2
          refine .inl (.inl ⟨.slice v.d g.o.length v.k, w7, ?_, hr, fun _ _ _ _ hu => hu, fun _ _ _ _ hu => hu, rfl⟩)
          unfold execOp
          simp [go_sem, Act.eval, Act.put, h3, hc]
        · intro v2 w7 hr hd
          have CPW := CP w7 hr
          have j0 : w7.cell? ⟨gp, 0, none⟩ = some (sV n) := CPW.read 0
          have j1 : w7.cell? ⟨gp, 1, none⟩ = some (.int .i64 (k : Nat)) := CPW.read 1
          have j2 : w7.cell? ⟨gp, 2, none⟩ = some (.int .i64 u) := CPW.read 2
          have j3 : w7.cell? ⟨gp, 3, none⟩ = some (.int .i64 ai) := CPW.read 3
          have j4 : w7.cell? ⟨gp, 4, none⟩ = some (.int .i64 va) := CPW.read 4
          have j5 : w7.cell? ⟨gp, 5, none⟩ = some (.int .i64 0) := CPW.read 5
          refine yields_run (u := .agg (cOq (⟨n, (k : Nat), u, ai, va, 0⟩ : Oq)).toArray) (w' := w7) ?_ (Below.refl _ _) rfl
          unfold execOp
          simp [go_sem, Act.eval, Act.put, j0, j1, j2, j3, j4, j5, cOq]
        · intro v2 w7 hr hd
          have h5 : v2 5 = .agg (cOq (⟨n, (k : Nat), u, ai, va, 0⟩ : Oq)).toArray := hd 5 (by kernel_rfl)
          refine yields_run (u := .slice (some ⟨w7.heap.size, 0, none⟩) 1 1) (w' := w7.alloc (.cells (cOq (⟨n, (k : Nat), u, ai, va, 0⟩ : Oq)).toArray 141)) ?_ (fresh1 w7 _) ⟨w7.heap.size, rfl, hr.size, Whole.fresh w7 _ _⟩
          unfold execOp
          simp [go_sem, Act.eval, Act.put, h5, cOq]
        · intro v2 w7 hr ho hd
          have h4 : v2 4 = .slice v.d g.o.length v.k := hd 4 (by kernel_rfl)
          obtain ⟨gy, hz, hyl, hw⟩ : LoneG 141 cOq w22.heap.size (⟨n, (k : Nat), u, ai, va, 0⟩ : Oq) (v2 6) w7 := hd 6 (by kernel_rfl)
          have ho7 := ho.2.1 trivial
          refine .inl (yields_append (.tmp 106) (.tmp 108) 33 rfl B 141 i0 (.agg #[sV [], .int .i64 0, .int .i64 0, .int .i64 0, .int .i64 0, .int .i64 0]) 6 56 Tryz.underlying33 hi0 hz0 hz1 hz2 rfl (by decide) (.slice v.d g.o.length v.k) g.o.length (g.o.flatMap cOq) (by simp [Act.eval, Act.put, h4]) ho7 ⟨gy, 0, none⟩ 1 1 (cOq (⟨n, (k : Nat), u, ai, va, 0⟩ : Oq)) (by simp [Act.eval, Act.put, hz]) rfl (whole_cells hw) (CELLS_cOq.one (⟨n, (k : Nat), u, ai, va, 0⟩ : Oq)) (by decide) (by have := HL.out; unfold maxLen; omega) (by have := HL.out; omega) (Nat.le_trans HB0.out hr.size) ?_)
          intro g8 cap8 w8 hown hgrow
          have hxn : some gd ≠ (Value.slice v.d g.o.length v.k).ownBlock := GN.out
          refine ⟨hr.grown hgrow (fun j e => .inl (.inr e)), ?_, ?_, (show NewG 141 6 cOq B (g.o ++ [(⟨n, (k : Nat), u, ai, va, 0⟩ : Oq)]) (.slice (some ⟨g8, 0, none⟩) (g.o.length + 1) cap8) w8 from ⟨g8, cap8, by simp, by unfold OwnG; simpa using hown⟩)⟩
          · intro k2 v' hk2 hc hu
            exact match k2, hk2, hc, hu with
              | 0, _, _, hu => hu
              | 1, _, _, hu => hu
              | 2, _, _, hu => hu
              | 3, _, _, hu => hu
              | 4, _, _, hu => hu
              | 5, _, _, hu => hu
              | 6, _, _, ⟨gy, h1, h2, h3⟩ => ⟨gy, h1, h2, h3.grown hgrow (OR.out.away h2)⟩
              | 7, hk2, _, _ => absurd rfl hk2
              | 8, _, _, hu => hu
              | 9, _, _, hu => hu
              | 10, _, hc, _ => absurd hc (by decide)
              | _ + 11, _, _, _ => trivial
          · intro k2 hk2 hn hc2 ⟨h1, h2, h3⟩
            exact ⟨fun e => by subst e; exact absurd hc2 (by decide), fun e => absurd e hk2, fun e => (h3 e).imp fun u hx => hx.grown hgrow hxn⟩
        · intro v2 w7 hr hd
          have h0 : v2 0 = .pointer (some ⟨gd, 0, none⟩) := hd 0 (by kernel_rfl)
          refine yields_run (u := .pointer (some ⟨gd, 0, none⟩)) (w' := w7) ?_ (Below.refl _ _) rfl
          unfold execOp
          simp [go_sem, Act.eval, Act.put, h0]
        · intro v2 w7 hr hd
          have h8 : v2 8 = .pointer (some ⟨gd, 0, none⟩) := hd 8 (by kernel_rfl)
          refine yields_run (u := .pointer (some ⟨gd, 2, none⟩)) (w' := w7) ?_ (Below.refl _ _) rfl
          unfold execOp
          simp [go_sem, Act.eval, Act.put, h8]
        · intro v2 w7 hr ho hd
          have h9 : v2 9 = .pointer (some ⟨gd, 2, none⟩) := hd 9 (by kernel_rfl)
          obtain ⟨g', c2, h7, hn7⟩ : NewG 141 6 cOq B (g.o ++ [(⟨n, (k : Nat), u, ai, va, 0⟩ : Oq)]) (v2 7) w7 := hd 7 (by kernel_rfl)
          obtain ⟨uq, hu0⟩ := ho.2.2 trivial
          rw [h7] at hn7
          have hc : w7.cell? ⟨gd, 2, none⟩ = some uq := hu0.read 2
          have hf : w7.frozen? ⟨gd, 2, none⟩ = false := hu0.soft 2
          have hg : w7.grownBy (w7.setCell ⟨gd, 2, none⟩ (.slice (some ⟨g', 0, none⟩) (g.o ++ [(⟨n, (k : Nat), u, ai, va, 0⟩ : Oq)]).length c2)) (some gd) := only_store (only_of_below (Below.refl _ w7) (some gd)) _
          refine .inr ⟨w7.setCell ⟨gd, 2, none⟩ (.slice (some ⟨g', 0, none⟩) (g.o ++ [(⟨n, (k : Nat), u, ai, va, 0⟩ : Oq)]).length c2), ?_, hr.grown hg (fun j e => .inl (.inl (by cases e; rfl))), ?_, ?_, some ⟨g', 0, none⟩, c2, hu0.store 2 _, hn7.past hg (fun k e => by cases e; exact rowS_ne hn7 hu0 (by decide))⟩
          · unfold execOp
            simp [go_sem, Act.eval, Act.put, h9, h7, hc, hf]
          · intro k2 v' hk2 hc hu
            exact match k2, hk2, hc, hu with
              | 0, _, _, hu => hu
              | 1, _, _, hu => hu
              | 2, _, _, hu => hu
              | 3, _, _, hu => hu
              | 4, _, _, hu => hu
              | 5, _, _, hu => hu
              | 6, _, _, ⟨gy, h1, h2, h3⟩ => ⟨gy, h1, h2, h3.grown hg (by have := GI.out; intro e; cases e; omega)⟩
              | 7, _, _, ⟨g', c', h1, h2⟩ => ⟨g', c', h1, h2.past hg (fun k e => by cases e; exact rowS_ne h2 hu0 (by decide))⟩
              | 8, _, _, hu => hu
              | 9, _, _, hu => hu
              | 10, hk2, _, _ => absurd rfl hk2
              | _ + 11, _, _, _ => trivial
          · intro k2 hk2 hn hc2 ⟨h1, h2, h3⟩
            exact ⟨fun e => by subst e; exact absurd hc2 (by decide), fun e => by subst e; exact absurd hc2 (by decide), fun e => absurd e hk2⟩
        · intro v2 w7 hr hv
          obtain ⟨D, c2, hl1, hl2⟩ : LaidG 141 6 cOq gd 36 (fun uq => #[.slice v.a g.c.length v.i, .slice v.b g.l.length v.j, uq, .slice v.e g.h.length v.m]) B (g.o ++ [(⟨n, (k : Nat), u, ai, va, 0⟩ : Oq)]) (v2 10) w7 := hv 10 (by decide)
          have X10 := Lib.hid hl1
          have O10 := Lib.hid hl2
          have R10 := Lib.hid hr
          rw [hfin]
          clear hfin hv hl1 hl2 hr
          generalize v2 7 = v7
          generalize v2 6 = v6
          have hap := Lib.hid (rowS_above D3.out.oo D3.out.bd)
          have BE := Lib.hid (KB3.out.row D3.out.oo D3.out.cells R10.out HB0.out hap.out (by decide) (by decide))
          have DE : Hid (DrR w7 B gd ⟨v.a, v.b, D, v.e, v.i, v.j, c2, v.m⟩ { g with o := g.o ++ [⟨n, (k : Nat), u, ai, va, 0⟩] }) := Lib.hid ⟨X10.out, D3.out.oc.turn R10.out (row_apart D3.out.oo D3.out.oc D3.out.cells (by decide) (by decide)), D3.out.ol.turn R10.out (row_apart D3.out.oo D3.out.ol D3.out.cells (by decide) (by decide)), O10.out, D3.out.oh.turn R10.out (row_apart D3.out.oo D3.out.oh D3.out.cells (by decide) (by decide)), D3.out.bd⟩
          clear hap X10 O10 R10 OX OR GN GI HL HB0 D3 O3 KB3 CP
          go_wp2_with fail
          go_ret
          exact ⟨⟨rfl, fun _ => ⟨_, DE.out⟩⟩, BE.out⟩

    | [p, q], hw, HQ, HLL, hxl, hi1, hi2, hi3, hi4 => 
      have kx5 : w18.cell? ⟨b1, 5, none⟩ = some (sV p) := CWh.out w18 (B18.out.block b1 hb1) 5 p rfl
      have hb18 : b1 < w18.heap.size := Nat.lt_of_lt_of_le hb1 B18.out.size
      have VA := Lib.hid fun W => value9_any p kwA (hxl.out p (by simp)) W
      have VB := fun W => value9_any q kwB (hxl.out q (by simp)) W
      have HR0 : (numE kwA p ≠ 0 → R = (numE kwA p, g)) ∧ (numE kwA p = 0 → (numE kwB q ≠ 0 → R = (numE kwB q, g)) ∧ (numE kwB q = 0 → R = (0, { g with o := g.o ++ [⟨n, (k : Nat), u, ai, numV kwA p, numV kwB q⟩] }))) := by
        have h1 := HQ.out.1
        have h2 := HQ.out.2
        unfold abE at h1 h2
        unfold aV bV at h2
        dsimp only at h1 h2
        refine ⟨fun h => by rw [if_pos h] at h1; exact h1 h, fun h => ?_⟩
        rw [if_neg (by simpa using h)] at h1 h2
        rw [if_neg (by simpa using h)] at h2
        exact ⟨h1, h2⟩
      generalize numV kwA p = va at VA HR0
      generalize numE kwA p = z at VA HR0
      generalize numV kwB q = vb at VB HR0
      generalize numE kwB q = zb at VB HR0
      replace VB := Lib.hid VB
      replace HR0 := Lib.hid HR0
      clear HQ
      go_upto_region 23 with (go_at_call 146; refine (VA.out _).mono ?_; rintro e w20 ⟨rfl, b20⟩; have O20 := Lib.hid (O18.out.below b20 O18.out.inside); have B20 := Lib.hid (then_below B18.out b20); have p4 : w20.cell? ⟨gp, 4, none⟩ = some (.int .i64 0) := O20.out.read 4; have f4 : w20.frozen? ⟨gp, 4, none⟩ = false := O20.out.soft 4; clear b20)
      have P20 := Lib.hid (own_put (i := 4) (u := .int .i64 va) O20.out B20.out HGP.out)
      clear p3 p4 f4 O20 B20 kx5 hb18 VA O18 B18 K18
      generalize w20.setCell ⟨gp, 4, none⟩ (.int .i64 va) = w22 at P20 ⊢
      have O22 : Hid (Whole w22 gp 141 #[sV n, .int .i64 (k : Nat), .int .i64 u, .int .i64 ai, .int .i64 va, .int .i64 0]) := Lib.hid (by have := P20.out.1; simpa using this)
      have B22 := Lib.hid P20.out.2
      clear P20
      by_cases hz : z = 0
      case neg =>
        obtain rfl := (HR0.out.1 hz).symm
        have hzh := Lib.hid hz
        have hne : (z == 0) = false := by rw [beq_eq_false_iff_ne]; exact hz
        clear hz
        go_upto_region 25 with fail
        have OW := O22
        have BW := B22
        have D3 := Lib.hid (H0.out.below BW.out)
        have O3 := Lib.hid (O0.out.below BW.out)
        have KB3 := Lib.hid (kept_of BW.out HB.out)
        have hlo : g.o.length ≤ 50000 := HLo.out
        obtain ⟨i0, hi0, hz0, hz1, hz2⟩ := infoD_ref09_Oq
        have OX := Lib.hid D3.out.cells
        have OR := Lib.hid D3.out.oo
        have GN := Lib.hid (rowS_ne D3.out.oo D3.out.cells (by decide))
        have GI := Lib.hid D3.out.cells.inside
        have HL : Hid (g.o.length ≤ 50000) := HLo
        have HB0 := Lib.hid D3.out.size
        have CP : ∀ w7, TurnS w22 w7 (RowS gd (.slice v.d g.o.length v.k)) → Whole w7 gp 141 #[sV n, .int .i64 (k : Nat), .int .i64 u, .int .i64 ai, .int .i64 va, .int .i64 0] := fun w7 h7 => (h7.block gp OW.out.inside (fun e => absurd (hrow.out gp e) (by have := HGP.out; omega))).trans OW.out
        refine region_full 113 [(7, 10)] [(7, 4), (10, 4), (10, 7)] (fun k => k == 4 || k == 7 || k == 10) (fun w7 => TurnS w22 w7 (RowS gd (.slice v.d g.o.length v.k))) ?hR ?r0 [pdOne 0 (Is (.pointer (some ⟨gd, 0, none⟩))), pdOne 1 (Is (.pointer (some ⟨gd, 0, none⟩))), pdOne 2 (Is (.pointer (some ⟨gd, 0, none⟩))), pdOne 3 (Is (.pointer (some ⟨gd, 2, none⟩))), pdOne 4 (Is (.slice v.d g.o.length v.k)), pdOne 5 (Is (.agg (cOq (⟨n, (k : Nat), u, ai, va, 0⟩ : Oq)).toArray)), pdOne 6 (LoneG 141 cOq w22.heap.size (⟨n, (k : Nat), u, ai, va, 0⟩ : Oq)), pdOne 7 (NewG 141 6 cOq B (g.o ++ [(⟨n, (k : Nat), u, ai, va, 0⟩ : Oq)])), pdOne 8 (Is (.pointer (some ⟨gd, 0, none⟩))), pdOne 9 (Is (.pointer (some ⟨gd, 2, none⟩))), pdOne 10 (LaidG 141 6 cOq gd 36 (fun uq => #[.slice v.a g.c.length v.i, .slice v.b g.l.length v.j, uq, .slice v.e g.h.length v.m]) B (g.o ++ [(⟨n, (k : Nat), u, ai, va, 0⟩ : Oq)]))] (fun k w7 => (k = 4 → Whole w7 gd 36 ((fun uq => #[.slice v.a g.c.length v.i, .slice v.b g.l.length v.j, uq, .slice v.e g.h.length v.m]) (.slice v.d g.o.length v.k))) ∧ (k = 7 → OwnG 141 6 cOq w7 B (.slice v.d g.o.length v.k) g.o) ∧ (k = 10 → ∃ u, Whole w7 gd 36 ((fun uq => #[.slice v.a g.c.length v.i, .slice v.b g.l.length v.j, uq, .slice v.e g.h.length v.m]) u))) (by kernel_rfl) rfl (by kernel_rfl) (by kernel_rfl) (by kernel_rfl) (by kernel_rfl) ?keep ?hO ?h0 ?tell
        case hR => exact fun w7 w8 hb h1 => h1.later hb
        case r0 => exact TurnS.refl _ _
        case keep => exact ⟨keep_one (keeps_is _), keep_one (keeps_is _), keep_one (keeps_is _), keep_one (keeps_is _), keep_one (keeps_is _), keep_one (keeps_is _), keep_one (keeps_loneG _ _), keep_one (keeps_newG _ _), keep_one (keeps_is _), keep_one (keeps_is _), keep_one (keeps_laidG _ _ _ _ _), trivial⟩
        case hO => exact fun k w7 w8 hb ⟨h1, h2, h3⟩ => ⟨fun e => (h1 e).below hb (h1 e).inside, fun e => (h2 e).below hb, fun e => (h3 e).imp fun u hx => hx.below hb hx.inside⟩
        case h0 => exact fun k _ => ⟨fun _ => OX.out, fun _ => OR.out, fun _ => ⟨_, OX.out⟩⟩
        case tell =>
          intro fin hfin
          simp [lexPut, Act.put] at hfin
          simp only [TellF]
          refine ⟨⟨?_, ?_, ?_, ?_, ?_, ?_, ?_, ?_, ?_, ?_, ?_, trivial⟩, ?_⟩
          · intro v2 w7 hr hd
            refine yields_run (u := .pointer (some ⟨gd, 0, none⟩)) (w' := w7) ?_ (Below.refl _ _) rfl
            unfold execOp
            simp [go_sem, Act.eval]
          · intro v2 w7 hr hd
            refine yields_run (u := .pointer (some ⟨gd, 0, none⟩)) (w' := w7) ?_ (Below.refl _ _) rfl
            unfold execOp
            simp [go_sem, Act.eval, Act.put]
          · intro v2 w7 hr hd
            have h1 : v2 1 = .pointer (some ⟨gd, 0, none⟩) := hd 1 (by kernel_rfl)
            refine yields_run (u := .pointer (some ⟨gd, 0, none⟩)) (w' := w7) ?_ (Below.refl _ _) rfl
            unfold execOp
            simp [go_sem, Act.eval, Act.put, h1]
          · intro v2 w7 hr hd
            have h2 : v2 2 = .pointer (some ⟨gd, 0, none⟩) := hd 2 (by kernel_rfl)
            refine yields_run (u := .pointer (some ⟨gd, 2, none⟩)) (w' := w7) ?_ (Below.refl _ _) rfl
            unfold execOp
            simp [go_sem, Act.eval, Act.put, h2]
          · intro v2 w7 hr ho hd
            have h3 : v2 3 = .pointer (some ⟨gd, 2, none⟩) := hd 3 (by kernel_rfl)
            have hc : w7.cell? ⟨gd, 2, none⟩ = some (.slice v.d g.o.length v.k) := (ho.1 trivial).read 2
            refine .inl (.inl ⟨.slice v.d g.o.length v.k, w7, ?_, hr, fun _ _ _ _ hu => hu, fun _ _ _ _ hu => hu, rfl⟩)
            unfold execOp
            simp [go_sem, Act.eval, Act.put, h3, hc]
          · intro v2 w7 hr hd
            have CPW := CP w7 hr
            have j0 : w7.cell? ⟨gp, 0, none⟩ = some (sV n) := CPW.read 0
            have j1 : w7.cell? ⟨gp, 1, none⟩ = some (.int .i64 (k : Nat)) := CPW.read 1
            have j2 : w7.cell? ⟨gp, 2, none⟩ = some (.int .i64 u) := CPW.read 2
            have j3 : w7.cell? ⟨gp, 3, none⟩ = some (.int .i64 ai) := CPW.read 3
            have j4 : w7.cell? ⟨gp, 4, none⟩ = some (.int .i64 va) := CPW.read 4
            have j5 : w7.cell? ⟨gp, 5, none⟩ = some (.int .i64 0) := CPW.read 5
            refine yields_run (u := .agg (cOq (⟨n, (k : Nat), u, ai, va, 0⟩ : Oq)).toArray) (w' := w7) ?_ (Below.refl _ _) rfl
            unfold execOp
            simp [go_sem, Act.eval, Act.put, j0, j1, j2, j3, j4, j5, cOq]
          · intro v2 w7 hr hd
            have h5 : v2 5 = .agg (cOq (⟨n, (k : Nat), u, ai, va, 0⟩ : Oq)).toArray := hd 5 (by kernel_rfl)
            refine yields_run (u := .slice (some ⟨w7.heap.size, 0, none⟩) 1 1) (w' := w7.alloc (.cells (cOq (⟨n, (k : Nat), u, ai, va, 0⟩ : Oq)).toArray 141)) ?_ (fresh1 w7 _) ⟨w7.heap.size, rfl, hr.size, Whole.fresh w7 _ _⟩
            unfold execOp
            simp [go_sem, Act.eval, Act.put, h5, cOq]
          · intro v2 w7 hr ho hd
            have h4 : v2 4 = .slice v.d g.o.length v.k := hd 4 (by kernel_rfl)
            obtain ⟨gy, hz, hyl, hw⟩ : LoneG 141 cOq w22.heap.size (⟨n, (k : Nat), u, ai, va, 0⟩ : Oq) (v2 6) w7 := hd 6 (by kernel_rfl)
            have ho7 := ho.2.1 trivial
            refine .inl (yields_append (.tmp 106) (.tmp 108) 33 rfl B 141 i0 (.agg #[sV [], .int .i64 0, .int .i64 0, .int .i64 0, .int .i64 0, .int .i64 0]) 6 56 Tryz.underlying33 hi0 hz0 hz1 hz2 rfl (by decide) (.slice v.d g.o.length v.k) g.o.length (g.o.flatMap cOq) (by simp [Act.eval, Act.put, h4]) ho7 ⟨gy, 0, none⟩ 1 1 (cOq (⟨n, (k : Nat), u, ai, va, 0⟩ : Oq)) (by simp [Act.eval, Act.put, hz]) rfl (whole_cells hw) (CELLS_cOq.one (⟨n, (k : Nat), u, ai, va, 0⟩ : Oq)) (by decide) (by have := HL.out; unfold maxLen; omega) (by have := HL.out; omega) (Nat.le_trans HB0.out hr.size) ?_)
            intro g8 cap8 w8 hown hgrow
            have hxn : some gd ≠ (Value.slice v.d g.o.length v.k).ownBlock := GN.out
            refine ⟨hr.grown hgrow (fun j e => .inl (.inr e)), ?_, ?_, (show NewG 141 6 cOq B (g.o ++ [(⟨n, (k : Nat), u, ai, va, 0⟩ : Oq)]) (.slice (some ⟨g8, 0, none⟩) (g.o.length + 1) cap8) w8 from ⟨g8, cap8, by simp, by unfold OwnG; simpa using hown⟩)⟩
            · intro k2 v' hk2 hc hu
              exact match k2, hk2, hc, hu with
                | 0, _, _, hu => hu
                | 1, _, _, hu => hu
                | 2, _, _, hu => hu
                | 3, _, _, hu => hu
                | 4, _, _, hu => hu
                | 5, _, _, hu => hu
                | 6, _, _, ⟨gy, h1, h2, h3⟩ => ⟨gy, h1, h2, h3.grown hgrow (OR.out.away h2)⟩
                | 7, hk2, _, _ => absurd rfl hk2
                | 8, _, _, hu => hu
                | 9, _, _, hu => hu
                | 10, _, hc, _ => absurd hc (by decide)
                | _ + 11, _, _, _ => trivial
            · intro k2 hk2 hn hc2 ⟨h1, h2, h3⟩
              exact ⟨fun e => by subst e; exact absurd hc2 (by decide), fun e => absurd e hk2, fun e => (h3 e).imp fun u hx => hx.grown hgrow hxn⟩
          · intro v2 w7 hr hd
            have h0 : v2 0 = .pointer (some ⟨gd, 0, none⟩) := hd 0 (by kernel_rfl)
            refine yields_run (u := .pointer (some ⟨gd, 0, none⟩)) (w' := w7) ?_ (Below.refl _ _) rfl
            unfold execOp
            simp [go_sem, Act.eval, Act.put, h0]
          · intro v2 w7 hr hd
            have h8 : v2 8 = .pointer (some ⟨gd, 0, none⟩) := hd 8 (by kernel_rfl)
            refine yields_run (u := .pointer (some ⟨gd, 2, none⟩)) (w' := w7) ?_ (Below.refl _ _) rfl
            unfold execOp
            simp [go_sem, Act.eval, Act.put, h8]
          · intro v2 w7 hr ho hd
            have h9 : v2 9 = .pointer (some ⟨gd, 2, none⟩) := hd 9 (by kernel_rfl)
            obtain ⟨g', c2, h7, hn7⟩ : NewG 141 6 cOq B (g.o ++ [(⟨n, (k : Nat), u, ai, va, 0⟩ : Oq)]) (v2 7) w7 := hd 7 (by kernel_rfl)
            obtain ⟨uq, hu0⟩ := ho.2.2 trivial
            rw [h7] at hn7
            have hc : w7.cell? ⟨gd, 2, none⟩ = some uq := hu0.read 2
            have hf : w7.frozen? ⟨gd, 2, none⟩ = false := hu0.soft 2
            have hg : w7.grownBy (w7.setCell ⟨gd, 2, none⟩ (.slice (some ⟨g', 0, none⟩) (g.o ++ [(⟨n, (k : Nat), u, ai, va, 0⟩ : Oq)]).length c2)) (some gd) := only_store (only_of_below (Below.refl _ w7) (some gd)) _
            refine .inr ⟨w7.setCell ⟨gd, 2, none⟩ (.slice (some ⟨g', 0, none⟩) (g.o ++ [(⟨n, (k : Nat), u, ai, va, 0⟩ : Oq)]).length c2), ?_, hr.grown hg (fun j e => .inl (.inl (by cases e; rfl))), ?_, ?_, some ⟨g', 0, none⟩, c2, hu0.store 2 _, hn7.past hg (fun k e => by cases e; exact rowS_ne hn7 hu0 (by decide))⟩
            · unfold execOp
              simp [go_sem, Act.eval, Act.put, h9, h7, hc, hf]
            · intro k2 v' hk2 hc hu
              exact match k2, hk2, hc, hu with
                | 0, _, _, hu => hu
                | 1, _, _, hu => hu
                | 2, _, _, hu => hu
                | 3, _, _, hu => hu
                | 4, _, _, hu => hu
                | 5, _, _, hu => hu
                | 6, _, _, ⟨gy, h1, h2, h3⟩ => ⟨gy, h1, h2, h3.grown hg (by have := GI.out; intro e; cases e; omega)⟩
                | 7, _, _, ⟨g', c', h1, h2⟩ => ⟨g', c', h1, h2.past hg (fun k e => by cases e; exact rowS_ne h2 hu0 (by decide))⟩
                | 8, _, _, hu => hu
                | 9, _, _, hu => hu
                | 10, hk2, _, _ => absurd rfl hk2
                | _ + 11, _, _, _ => trivial
            · intro k2 hk2 hn hc2 ⟨h1, h2, h3⟩
              exact ⟨fun e => by subst e; exact absurd hc2 (by decide), fun e => by subst e; exact absurd hc2 (by decide), fun e => absurd e hk2⟩
          · intro v2 w7 hr hv
            obtain ⟨D, c2, hl1, hl2⟩ : LaidG 141 6 cOq gd 36 (fun uq => #[.slice v.a g.c.length v.i, .slice v.b g.l.length v.j, uq, .slice v.e g.h.length v.m]) B (g.o ++ [(⟨n, (k : Nat), u, ai, va, 0⟩ : Oq)]) (v2 10) w7 := hv 10 (by decide)
            have X10 := Lib.hid hl1
            have O10 := Lib.hid hl2
            have R10 := Lib.hid hr
            rw [hfin]
            clear hfin hv hl1 hl2 hr
            generalize v2 7 = v7
            generalize v2 6 = v6
            have hap := Lib.hid (rowS_above D3.out.oo D3.out.bd)
            have BE := Lib.hid (KB3.out.row D3.out.oo D3.out.cells R10.out HB0.out hap.out (by decide) (by decide))
            have DE : Hid (DrR w7 B gd ⟨v.a, v.b, D, v.e, v.i, v.j, c2, v.m⟩ { g with o := g.o ++ [⟨n, (k : Nat), u, ai, va, 0⟩] }) := Lib.hid ⟨X10.out, D3.out.oc.turn R10.out (row_apart D3.out.oo D3.out.oc D3.out.cells (by decide) (by decide)), D3.out.ol.turn R10.out (row_apart D3.out.oo D3.out.ol D3.out.cells (by decide) (by decide)), O10.out, D3.out.oh.turn R10.out (row_apart D3.out.oo D3.out.oh D3.out.cells (by decide) (by decide)), D3.out.bd⟩
            clear hap X10 O10 R10 OX OR GN GI HL HB0 D3 O3 KB3 CP
            go_wp2_with fail
            go_ret
            exact ⟨addR_bad hzh.out, BE.out⟩
      have HRR := Lib.hid (HR0.out.2 hz)
      subst hz
      clear HR0
      have kx6 : w22.cell? ⟨b1, 6, none⟩ = some (sV q) := CWh.out w22 (B22.out.block b1 hb1) 6 q rfl
      have hb22 : b1 < w22.heap.size := Nat.lt_of_lt_of_le hb1 B22.out.size
      go_upto_region 25 with (go_at_call 146; refine (VB.out _).mono ?_; rintro e w24 ⟨rfl, b24⟩; have O24 := Lib.hid (O22.out.below b24 O22.out.inside); have B24 := Lib.hid (then_below B22.out b24); have p5 : w24.cell? ⟨gp, 5, none⟩ = some (.int .i64 0) := O24.out.read 5; have f5 : w24.frozen? ⟨gp, 5, none⟩ = false := O24.out.soft 5; clear b24)
      have P24 := Lib.hid (own_put (i := 5) (u := .int .i64 vb) O24.out B24.out HGP.out)
      clear p5 f5 O24 B24 kx6 hb22 VB O22 B22
      generalize w24.setCell ⟨gp, 5, none⟩ (.int .i64 vb) = w25 at P24 ⊢
      have OW : Hid (Whole w25 gp 141 #[sV n, .int .i64 (k : Nat), .int .i64 u, .int .i64 ai, .int .i64 va, .int .i64 vb]) := Lib.hid (by have := P24.out.1; simpa using this)
      have BW := Lib.hid P24.out.2
      clear P24
      have D3 := Lib.hid (H0.out.below BW.out)
      have O3 := Lib.hid (O0.out.below BW.out)
      have KB3 := Lib.hid (kept_of BW.out HB.out)
      have hlo : g.o.length ≤ 50000 := HLo.out
      obtain ⟨i0, hi0, hz0, hz1, hz2⟩ := infoD_ref09_Oq
      have OX := Lib.hid D3.out.cells
      have OR := Lib.hid D3.out.oo
      have GN := Lib.hid (rowS_ne D3.out.oo D3.out.cells (by decide))
      have GI := Lib.hid D3.out.cells.inside
      have HL : Hid (g.o.length ≤ 50000) := HLo
      have HB0 := Lib.hid D3.out.size
      have CP : ∀ w7, TurnS w25 w7 (RowS gd (.slice v.d g.o.length v.k)) → Whole w7 gp 141 #[sV n, .int .i64 (k : Nat), .int .i64 u, .int .i64 ai, .int .i64 va, .int .i64 vb] := fun w7 h7 => (h7.block gp OW.out.inside (fun e => absurd (hrow.out gp e) (by have := HGP.out; omega))).trans OW.out
      refine region_full 113 [(7, 10)] [(7, 4), (10, 4), (10, 7)] (fun k => k == 4 || k == 7 || k == 10) (fun w7 => TurnS w25 w7 (RowS gd (.slice v.d g.o.length v.k))) ?hR ?r0 [pdOne 0 (Is (.pointer (some ⟨gd, 0, none⟩))), pdOne 1 (Is (.pointer (some ⟨gd, 0, none⟩))), pdOne 2 (Is (.pointer (some ⟨gd, 0, none⟩))), pdOne 3 (Is (.pointer (some ⟨gd, 2, none⟩))), pdOne 4 (Is (.slice v.d g.o.length v.k)), pdOne 5 (Is (.agg (cOq (⟨n, (k : Nat), u, ai, va, vb⟩ : Oq)).toArray)), pdOne 6 (LoneG 141 cOq w25.heap.size (⟨n, (k : Nat), u, ai, va, vb⟩ : Oq)), pdOne 7 (NewG 141 6 cOq B (g.o ++ [(⟨n, (k : Nat), u, ai, va, vb⟩ : Oq)])), pdOne 8 (Is (.pointer (some ⟨gd, 0, none⟩))), pdOne 9 (Is (.pointer (some ⟨gd, 2, none⟩))), pdOne 10 (LaidG 141 6 cOq gd 36 (fun uq => #[.slice v.a g.c.length v.i, .slice v.b g.l.length v.j, uq, .slice v.e g.h.length v.m]) B (g.o ++ [(⟨n, (k : Nat), u, ai, va, vb⟩ : Oq)]))] (fun k w7 => (k = 4 → Whole w7 gd 36 ((fun uq => #[.slice v.a g.c.length v.i, .slice v.b g.l.length v.j, uq, .slice v.e g.h.length v.m]) (.slice v.d g.o.length v.k))) ∧ (k = 7 → OwnG 141 6 cOq w7 B (.slice v.d g.o.length v.k) g.o) ∧ (k = 10 → ∃ u, Whole w7 gd 36 ((fun uq => #[.slice v.a g.c.length v.i, .slice v.b g.l.length v.j, uq, .slice v.e g.h.length v.m]) u))) (by kernel_rfl) rfl (by kernel_rfl) (by kernel_rfl) (by kernel_rfl) (by kernel_rfl) ?keep ?hO ?h0 ?tell
      case hR => exact fun w7 w8 hb h1 => h1.later hb
      case r0 => exact TurnS.refl _ _
      case keep => exact ⟨keep_one (keeps_is _), keep_one (keeps_is _), keep_one (keeps_is _), keep_one (keeps_is _), keep_one (keeps_is _), keep_one (keeps_is _), keep_one (keeps_loneG _ _), keep_one (keeps_newG _ _), keep_one (keeps_is _), keep_one (keeps_is _), keep_one (keeps_laidG _ _ _ _ _), trivial⟩
      case hO => exact fun k w7 w8 hb ⟨h1, h2, h3⟩ => ⟨fun e => (h1 e).below hb (h1 e).inside, fun e => (h2 e).below hb, fun e => (h3 e).imp fun u hx => hx.below hb hx.inside⟩
      case h0 => exact fun k _ => ⟨fun _ => OX.out, fun _ => OR.out, fun _ => ⟨_, OX.out⟩⟩
      case tell =>
        intro fin hfin
        simp [lexPut, Act.put] at hfin
        simp only [TellF]
        refine ⟨⟨?_, ?_, ?_, ?_, ?_, ?_, ?_, ?_, ?_, ?_, ?_, trivial⟩, ?_⟩
        · intro v2 w7 hr hd
          refine yields_run (u := .pointer (some ⟨gd, 0, none⟩)) (w' := w7) ?_ (Below.refl _ _) rfl
          unfold execOp
          simp [go_sem, Act.eval]
        · intro v2 w7 hr hd
          refine yields_run (u := .pointer (some ⟨gd, 0, none⟩)) (w' := w7) ?_ (Below.refl _ _) rfl
          unfold execOp
          simp [go_sem, Act.eval, Act.put]
        · intro v2 w7 hr hd
          have h1 : v2 1 = .pointer (some ⟨gd, 0, none⟩) := hd 1 (by kernel_rfl)
          refine yields_run (u := .pointer (some ⟨gd, 0, none⟩)) (w' := w7) ?_ (Below.refl _ _) rfl
          unfold execOp
          simp [go_sem, Act.eval, Act.put, h1]
        · intro v2 w7 hr hd
          have h2 : v2 2 = .pointer (some ⟨gd, 0, none⟩) := hd 2 (by kernel_rfl)
          refine yields_run (u := .pointer (some ⟨gd, 2, none⟩)) (w' := w7) ?_ (Below.refl _ _) rfl
          unfold execOp
          simp [go_sem, Act.eval, Act.put, h2]
        · intro v2 w7 hr ho hd
          have h3 : v2 3 = .pointer (some ⟨gd, 2, none⟩) := hd 3 (by kernel_rfl)
          have hc : w7.cell? ⟨gd, 2, none⟩ = some (.slice v.d g.o.length v.k) := (ho.1 trivial).read 2
          refine .inl (.inl ⟨.slice v.d g.o.length v.k, w7, ?_, hr, fun _ _ _ _ hu => hu, fun _ _ _ _ hu => hu, rfl⟩)
          unfold execOp
          simp [go_sem, Act.eval, Act.put, h3, hc]
        · intro v2 w7 hr hd
          have CPW := CP w7 hr
          have j0 : w7.cell? ⟨gp, 0, none⟩ = some (sV n) := CPW.read 0
          have j1 : w7.cell? ⟨gp, 1, none⟩ = some (.int .i64 (k : Nat)) := CPW.read 1
          have j2 : w7.cell? ⟨gp, 2, none⟩ = some (.int .i64 u) := CPW.read 2
          have j3 : w7.cell? ⟨gp, 3, none⟩ = some (.int .i64 ai) := CPW.read 3
          have j4 : w7.cell? ⟨gp, 4, none⟩ = some (.int .i64 va) := CPW.read 4
          have j5 : w7.cell? ⟨gp, 5, none⟩ = some (.int .i64 vb) := CPW.read 5
          refine yields_run (u := .agg (cOq (⟨n, (k : Nat), u, ai, va, vb⟩ : Oq)).toArray) (w' := w7) ?_ (Below.refl _ _) rfl
          unfold execOp
          simp [go_sem, Act.eval, Act.put, j0, j1, j2, j3, j4, j5, cOq]
        · intro v2 w7 hr hd
          have h5 : v2 5 = .agg (cOq (⟨n, (k : Nat), u, ai, va, vb⟩ : Oq)).toArray := hd 5 (by kernel_rfl)
          refine yields_run (u := .slice (some ⟨w7.heap.size, 0, none⟩) 1 1) (w' := w7.alloc (.cells (cOq (⟨n, (k : Nat), u, ai, va, vb⟩ : Oq)).toArray 141)) ?_ (fresh1 w7 _) ⟨w7.heap.size, rfl, hr.size, Whole.fresh w7 _ _⟩
          unfold execOp
          simp [go_sem, Act.eval, Act.put, h5, cOq]
        · intro v2 w7 hr ho hd
          have h4 : v2 4 = .slice v.d g.o.length v.k := hd 4 (by kernel_rfl)
          obtain ⟨gy, hz, hyl, hw⟩ : LoneG 141 cOq w25.heap.size (⟨n, (k : Nat), u, ai, va, vb⟩ : Oq) (v2 6) w7 := hd 6 (by kernel_rfl)
          have ho7 := ho.2.1 trivial
          refine .inl (yields_append (.tmp 106) (.tmp 108) 33 rfl B 141 i0 (.agg #[sV [], .int .i64 0, .int .i64 0, .int .i64 0, .int .i64 0, .int .i64 0]) 6 56 Tryz.underlying33 hi0 hz0 hz1 hz2 rfl (by decide) (.slice v.d g.o.length v.k) g.o.length (g.o.flatMap cOq) (by simp [Act.eval, Act.put, h4]) ho7 ⟨gy, 0, none⟩ 1 1 (cOq (⟨n, (k : Nat), u, ai, va, vb⟩ : Oq)) (by simp [Act.eval, Act.put, hz]) rfl (whole_cells hw) (CELLS_cOq.one (⟨n, (k : Nat), u, ai, va, vb⟩ : Oq)) (by decide) (by have := HL.out; unfold maxLen; omega) (by have := HL.out; omega) (Nat.le_trans HB0.out hr.size) ?_)
          intro g8 cap8 w8 hown hgrow
          have hxn : some gd ≠ (Value.slice v.d g.o.length v.k).ownBlock := GN.out
          refine ⟨hr.grown hgrow (fun j e => .inl (.inr e)), ?_, ?_, (show NewG 141 6 cOq B (g.o ++ [(⟨n, (k : Nat), u, ai, va, vb⟩ : Oq)]) (.slice (some ⟨g8, 0, none⟩) (g.o.length + 1) cap8) w8 from ⟨g8, cap8, by simp, by unfold OwnG; simpa using hown⟩)⟩
          · intro k2 v' hk2 hc hu
            exact match k2, hk2, hc, hu with
              | 0, _, _, hu => hu
              | 1, _, _, hu => hu
              | 2, _, _, hu => hu
              | 3, _, _, hu => hu
              | 4, _, _, hu => hu
              | 5, _, _, hu => hu
              | 6, _, _, ⟨gy, h1, h2, h3⟩ => ⟨gy, h1, h2, h3.grown hgrow (OR.out.away h2)⟩
              | 7, hk2, _, _ => absurd rfl hk2
              | 8, _, _, hu => hu
              | 9, _, _, hu => hu
              | 10, _, hc, _ => absurd hc (by decide)
              | _ + 11, _, _, _ => trivial
          · intro k2 hk2 hn hc2 ⟨h1, h2, h3⟩
            exact ⟨fun e => by subst e; exact absurd hc2 (by decide), fun e => absurd e hk2, fun e => (h3 e).imp fun u hx => hx.grown hgrow hxn⟩
        · intro v2 w7 hr hd
          have h0 : v2 0 = .pointer (some ⟨gd, 0, none⟩) := hd 0 (by kernel_rfl)
          refine yields_run (u := .pointer (some ⟨gd, 0, none⟩)) (w' := w7) ?_ (Below.refl _ _) rfl
          unfold execOp
          simp [go_sem, Act.eval, Act.put, h0]
        · intro v2 w7 hr hd
          have h8 : v2 8 = .pointer (some ⟨gd, 0, none⟩) := hd 8 (by kernel_rfl)
          refine yields_run (u := .pointer (some ⟨gd, 2, none⟩)) (w' := w7) ?_ (Below.refl _ _) rfl
          unfold execOp
          simp [go_sem, Act.eval, Act.put, h8]
        · intro v2 w7 hr ho hd
          have h9 : v2 9 = .pointer (some ⟨gd, 2, none⟩) := hd 9 (by kernel_rfl)
          obtain ⟨g', c2, h7, hn7⟩ : NewG 141 6 cOq B (g.o ++ [(⟨n, (k : Nat), u, ai, va, vb⟩ : Oq)]) (v2 7) w7 := hd 7 (by kernel_rfl)
          obtain ⟨uq, hu0⟩ := ho.2.2 trivial
          rw [h7] at hn7
          have hc : w7.cell? ⟨gd, 2, none⟩ = some uq := hu0.read 2
          have hf : w7.frozen? ⟨gd, 2, none⟩ = false := hu0.soft 2
          have hg : w7.grownBy (w7.setCell ⟨gd, 2, none⟩ (.slice (some ⟨g', 0, none⟩) (g.o ++ [(⟨n, (k : Nat), u, ai, va, vb⟩ : Oq)]).length c2)) (some gd) := only_store (only_of_below (Below.refl _ w7) (some gd)) _
          refine .inr ⟨w7.setCell ⟨gd, 2, none⟩ (.slice (some ⟨g', 0, none⟩) (g.o ++ [(⟨n, (k : Nat), u, ai, va, vb⟩ : Oq)]).length c2), ?_, hr.grown hg (fun j e => .inl (.inl (by cases e; rfl))), ?_, ?_, some ⟨g', 0, none⟩, c2, hu0.store 2 _, hn7.past hg (fun k e => by cases e; exact rowS_ne hn7 hu0 (by decide))⟩
          · unfold execOp
            simp [go_sem, Act.eval, Act.put, h9, h7, hc, hf]
          · intro k2 v' hk2 hc hu
            exact match k2, hk2, hc, hu with
              | 0, _, _, hu => hu
              | 1, _, _, hu => hu
              | 2, _, _, hu => hu
              | 3, _, _, hu => hu
              | 4, _, _, hu => hu
              | 5, _, _, hu => hu
              | 6, _, _, ⟨gy, h1, h2, h3⟩ => ⟨gy, h1, h2, h3.grown hg (by have := GI.out; intro e; cases e; omega)⟩
              | 7, _, _, ⟨g', c', h1, h2⟩ => ⟨g', c', h1, h2.past hg (fun k e => by cases e; exact rowS_ne h2 hu0 (by decide))⟩
              | 8, _, _, hu => hu
              | 9, _, _, hu => hu
              | 10, hk2, _, _ => absurd rfl hk2
              | _ + 11, _, _, _ => trivial
          · intro k2 hk2 hn hc2 ⟨h1, h2, h3⟩
            exact ⟨fun e => by subst e; exact absurd hc2 (by decide), fun e => by subst e; exact absurd hc2 (by decide), fun e => absurd e hk2⟩
        · intro v2 w7 hr hv
          obtain ⟨D, c2, hl1, hl2⟩ : LaidG 141 6 cOq gd 36 (fun uq => #[.slice v.a g.c.length v.i, .slice v.b g.l.length v.j, uq, .slice v.e g.h.length v.m]) B (g.o ++ [(⟨n, (k : Nat), u, ai, va, vb⟩ : Oq)]) (v2 10) w7 := hv 10 (by decide)
          have X10 := Lib.hid hl1
          have O10 := Lib.hid hl2
          have R10 := Lib.hid hr
          rw [hfin]
          clear hfin hv hl1 hl2 hr
          generalize v2 7 = v7
          generalize v2 6 = v6
          have hap := Lib.hid (rowS_above D3.out.oo D3.out.bd)
          have BE := Lib.hid (KB3.out.row D3.out.oo D3.out.cells R10.out HB0.out hap.out (by decide) (by decide))
          have DE : Hid (DrR w7 B gd ⟨v.a, v.b, D, v.e, v.i, v.j, c2, v.m⟩ { g with o := g.o ++ [⟨n, (k : Nat), u, ai, va, vb⟩] }) := Lib.hid ⟨X10.out, D3.out.oc.turn R10.out (row_apart D3.out.oo D3.out.oc D3.out.cells (by decide) (by decide)), D3.out.ol.turn R10.out (row_apart D3.out.oo D3.out.ol D3.out.cells (by decide) (by decide)), O10.out, D3.out.oh.turn R10.out (row_apart D3.out.oo D3.out.oh D3.out.cells (by decide) (by decide)), D3.out.bd⟩
          clear hap X10 O10 R10 OX OR GN GI HL HB0 D3 O3 KB3 CP
          go_wp2_with fail
          go_ret
          have eR := HRR.out
          by_cases he : zb = 0
          · have eR := eR.2 he
            subst eR
            exact ⟨by rw [he]; exact ⟨rfl, fun _ => ⟨_, DE.out⟩⟩, BE.out⟩
          · have eR := eR.1 he
            subst eR
            exact ⟨addR_bad he, BE.out⟩

    | _ :: _ :: _ :: r, hw, HQ, HLL, hxl, hi1, hi2, hi3, hi4 =>
      have := HLL.out
      simp at this
end Go.Proofs.YtpblpjopinllcaaGreatDoor.graph
