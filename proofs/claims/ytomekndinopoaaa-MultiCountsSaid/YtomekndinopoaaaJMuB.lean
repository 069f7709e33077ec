/-
  The contract of the document's Add.
  The contract of the document's Add, where the number fits.
-/
import Derived.Test.YtomekndinopoaaaJMuP
namespace Go.Proofs.Ytomekndinopoaaa.multi
open Go.ChangeShapes Go.WideShapes Go.ChangeAt Go.RowKit Go.Maps Go.WideMaps
open Go.Proofs.Ytomekndinopoaaa.tm Go.Proofs.Ytomekndinopoaaa.opened Go.Proofs.Ytomekndinopoaaa.block Go.Proofs.Ytomekndinopoaaa.stamp Go.Proofs.Ytomekndinopoaaa.chain

set_option maxRecDepth 100000
theorem addR_bad {g c e : Nat} {d : Int} {A B : Option Addr} {L : List Tm} {M : List TN} (t : Tm) (i : t.In) (n : Int) (hk : chk t ≠ 0) (w : World) (h : MulR w g d A c M B e L) :
    Calls Try.prog 11 #[.pointer (some ⟨g, 0, none⟩), .agg #[.int .u32 t.e, .int .i64 t.d, .int .u32 t.a, .int .u32 t.b, .int .u32 t.c], .int .i64 n] w fun x w' => x = .returned (.int .i64 (chk t)) ∧ MulR w' g d A c M B e L ∧ w.grownBy w' (some g) := by
  have H := Lib.hid h
  clear h
  have hC := Lib.hid (checkR_any t i)
  generalize chk t = k at hk hC
  go_enter Try.func11, Try.ntmps11
  go_wp2_with ((go_at_call 37; refine (hC.out _).mono ?_; rintro e w1 ⟨rfl, b1⟩; have hb1 := Lib.hid b1; clear b1))
  go_ret
  have B := Below.trans (fresh1 w (.cells (#[.int .u32 t.e, .int .i64 t.d, .int .u32 t.a, .int .u32 t.b, .int .u32 t.c]) 33)) (hb1.out.mono (fresh1 w _).size)
  exact ⟨rfl, H.out.below B, only_of_below B (some g)⟩
theorem addR_depth {g c e : Nat} {d : Int} {A B : Option Addr} {L : List Tm} {M : List TN} (t : Tm) (i : t.In) (n : Int) (hk : chk t = 0) (hd : t.d ≠ d) (w : World) (h : MulR w g d A c M B e L) :
    Calls Try.prog 11 #[.pointer (some ⟨g, 0, none⟩), .agg #[.int .u32 t.e, .int .i64 t.d, .int .u32 t.a, .int .u32 t.b, .int .u32 t.c], .int .i64 n] w fun x w' => x = .returned (.int .i64 10) ∧ MulR w' g d A c M B e L ∧ w.grownBy w' (some g) := by
  have H := Lib.hid h
  clear h
  have hC := Lib.hid (checkR_any t i)
  rw [hk] at hC
  have hT := Lib.hid (Whole.fresh w 33 (#[.int .u32 t.e, .int .i64 t.d, .int .u32 t.a, .int .u32 t.b, .int .u32 t.c]))
  go_enter Try.func11, Try.ntmps11
  go_upto_region 4 with ((go_at_call 37; refine (hC.out _).mono ?_; rintro e w1 ⟨rfl, b1⟩; have hb1 := Lib.hid b1; have hB := Lib.hid (Below.trans (fresh1 w (.cells (#[.int .u32 t.e, .int .i64 t.d, .int .u32 t.a, .int .u32 t.b, .int .u32 t.c]) 33)) (b1.mono (fresh1 w _).size)); have hT1 := Lib.hid (hT.out.below b1 hT.out.inside); clear b1))
  have hH := Lib.hid (H.out.below hB.out)
  have t1 : w1.drew.cell? ⟨w.heap.size, 1, none⟩ = some (.int .i64 t.d) := hT1.out.read 1
  have u1 : w1.drew.frozen? ⟨w.heap.size, 1, none⟩ = false := hT1.out.soft 1
  have c0 : w1.drew.cell? ⟨g, 0, none⟩ = some (.int .i64 d) := hH.out.cells.read 0
  have f0 : w1.drew.frozen? ⟨g, 0, none⟩ = false := hH.out.cells.soft 0
  go_region
  go_wp2_with fail
  go_ret
  exact ⟨rfl, hH.out.below (Below.refl _ _).drew, only_of_below hB.out.drew (some g)⟩
theorem addR_over {g c e : Nat} {d : Int} {A B : Option Addr} {L : List Tm} {M : List TN} (t : Tm) (i : t.In) (n : Int) (hk : chk t = 0) (hd : t.d = d) (G : GoodM d M) (mL : M.length ≤ 4096) (hx : n < -1099511627776 - countM M t ∨ 1099511627776 - countM M t < n) (w : World) (h : MulR w g d A c M B e L) :
    Calls Try.prog 11 #[.pointer (some ⟨g, 0, none⟩), .agg #[.int .u32 t.e, .int .i64 t.d, .int .u32 t.a, .int .u32 t.b, .int .u32 t.c], .int .i64 n] w fun x w' => x = .returned (.int .i64 9) ∧ MulR w' g d A c M B e L ∧ w.grownBy w' (some g) := by
  subst hd
  replace hx := Lib.hid hx
  have hxx := hx
  clear hx
  have H := Lib.hid h
  clear h
  have hC := Lib.hid (checkR_any t i)
  rw [hk] at hC
  have hT := Lib.hid (Whole.fresh w 33 (#[.int .u32 t.e, .int .i64 t.d, .int .u32 t.a, .int .u32 t.b, .int .u32 t.c]))
  have hq := Lib.hid (count_in G t)
  have hN := Lib.hid (fun w2 hw2 => countR_any (g := g) (d := t.d) (A := A) (c := c) (B := B) (e := e) (L := L) (M := M) t (by omega) w2 hw2)
  go_enter Try.func11, Try.ntmps11
  go_upto_region 4 with ((go_at_call 37; refine (hC.out _).mono ?_; rintro e w1 ⟨rfl, b1⟩; have hb1 := Lib.hid b1; have hB := Lib.hid (Below.trans (fresh1 w (.cells (#[.int .u32 t.e, .int .i64 t.d, .int .u32 t.a, .int .u32 t.b, .int .u32 t.c]) 33)) (b1.mono (fresh1 w _).size)); have hT1 := Lib.hid (hT.out.below b1 hT.out.inside); clear b1))
  have hH := Lib.hid (H.out.below hB.out)
  have t1 : w1.drew.cell? ⟨w.heap.size, 1, none⟩ = some (.int .i64 t.d) := hT1.out.read 1
  have u1 : w1.drew.frozen? ⟨w.heap.size, 1, none⟩ = false := hT1.out.soft 1
  have c0 : w1.drew.cell? ⟨g, 0, none⟩ = some (.int .i64 t.d) := hH.out.cells.read 0
  have f0 : w1.drew.frozen? ⟨g, 0, none⟩ = false := hH.out.cells.soft 0
  go_region
  clear t1 u1 c0 f0
  have t2 : ∀ j, w1.drew.cell? ⟨w.heap.size, j, none⟩ = (#[.int .u32 t.e, .int .i64 t.d, .int .u32 t.a, .int .u32 t.b, .int .u32 t.c] : Array Value)[j]? := fun j => hT1.out.read j
  have f2 : ∀ j, w1.drew.frozen? ⟨w.heap.size, j, none⟩ = false := fun j => hT1.out.soft j
  have HW := Lib.hid (hH.out.below (Below.refl _ _).drew)
  have hx := hxx.out
  have hqq := hq.out
  clear hxx hq
  have HX := Lib.hid hx
  have HQ := Lib.hid hqq
  have CN := Lib.hid (hN.out w1.drew HW.out)
  clear hN hx hqq
  generalize countM M t = old at HX HQ CN
  have hx := HX.out
  have hqq := HQ.out
  clear HX HQ
  by_cases y1 : 2199023255552 < n
  · clear hx hqq
    go_wp2_with ((go_at_call 18; refine CN.out.mono ?_; rintro e w2 ⟨rfl, b2⟩; have B2 := Lib.hid b2; clear b2))
    go_ret
    exact ⟨rfl, HW.out.below B2.out, only_of_below (then_below hB.out.drew B2.out) (some g)⟩
  · by_cases y2 : n < -2199023255552
    · clear hx hqq
      go_wp2_with ((go_at_call 18; refine CN.out.mono ?_; rintro e w2 ⟨rfl, b2⟩; have B2 := Lib.hid b2; clear b2))
      go_ret
      exact ⟨rfl, HW.out.below B2.out, only_of_below (then_below hB.out.drew B2.out) (some g)⟩
    · have e3 : wrap64 (old + n) = old + n := by unfold wrap64; omega
      by_cases y3 : 1099511627776 < old + n
      · have hlo : -4398046511104 ≤ old + n := by omega
        have hhi : old + n ≤ 4398046511104 := by omega
        clear hx hqq
        go_wp2_with ((go_at_call 18; refine CN.out.mono ?_; rintro e w2 ⟨rfl, b2⟩; have B2 := Lib.hid b2; clear b2))
        go_ret
        exact ⟨rfl, HW.out.below B2.out, only_of_below (then_below hB.out.drew B2.out) (some g)⟩
      · have y4 : old + n < -1099511627776 := by omega
        have hlo : -4398046511104 ≤ old + n := by omega
        clear hx hqq
        go_wp2_with ((go_at_call 18; refine CN.out.mono ?_; rintro e w2 ⟨rfl, b2⟩; have B2 := Lib.hid b2; clear b2))
        go_ret
        exact ⟨rfl, HW.out.below B2.out, only_of_below (then_below hB.out.drew B2.out) (some g)⟩
end Go.Proofs.Ytomekndinopoaaa.multi
namespace Go.Proofs.Ytomekndinopoaaa.multi
open Go.ChangeShapes Go.WideShapes Go.ChangeAt Go.RowKit Go.Maps Go.WideMaps
open Go.Proofs.Ytomekndinopoaaa.tm Go.Proofs.Ytomekndinopoaaa.opened Go.Proofs.Ytomekndinopoaaa.block Go.Proofs.Ytomekndinopoaaa.stamp Go.Proofs.Ytomekndinopoaaa.chain

set_option maxRecDepth 100000
set_option maxHeartbeats 8000000 in
theorem addR_sets {g c e : Nat} {d : Int} {A B : Option Addr} {L : List Tm} {M : List TN} (t : Tm) (i : t.In) (n : Int) (hk : chk t = 0) (hd : t.d = d) (G : GoodM d M) (mL : M.length ≤ 4096) (hx : -1099511627776 ≤ countM M t + n ∧ countM M t + n ≤ 1099511627776) (w : World) (h : MulR w g d A c M B e L) :
    Calls Try.prog 11 #[.pointer (some ⟨g, 0, none⟩), .agg #[.int .u32 t.e, .int .i64 t.d, .int .u32 t.a, .int .u32 t.b, .int .u32 t.c], .int .i64 n] w fun x w' => ∃ A' c', x = .returned (.int .i64 (setE M t (countM M t + n))) ∧ MulR w' g d A' c' (setV M t (countM M t + n)) B e L ∧ w.grownBy w' (some g) := by
  subst hd
  have HX := Lib.hid hx
  clear hx
  have H := Lib.hid h
  clear h
  have HS := Lib.hid G.srt
  have HI := Lib.hid G.inn
  obtain ⟨i0, hi, hz0, hz1, hz2⟩ := infoP _ infoP1
  have hC := Lib.hid (checkR_any t i)
  rw [hk] at hC
  have hT := Lib.hid (Whole.fresh w 33 (#[.int .u32 t.e, .int .i64 t.d, .int .u32 t.a, .int .u32 t.b, .int .u32 t.c]))
  have hq := Lib.hid (count_in G t)
  have HF0 : ∀ s, (setE M t s = 2 ∧ setV M t s = M ∧ (putM M t s).length = 4097) ∨ (setE M t s = 0 ∧ setV M t s = putM M t s ∧ (putM M t s).length ≤ 4096) := fun s => by
    unfold setE setV
    by_cases hn : s = 0
    · right
      subst hn
      have := put_len0 G.inn i
      rw [if_neg (by simp), if_neg (by simp)]
      exact ⟨rfl, rfl, by omega⟩
    · have hl := put_len G i hn
      by_cases hf : s ≠ 0 ∧ countM M t = 0 ∧ M.length = 4096
      · left
        rw [if_pos hf, if_pos hf]
        rw [if_pos hf.2.1] at hl
        exact ⟨rfl, rfl, by omega⟩
      · right
        rw [if_neg hf, if_neg hf]
        refine ⟨rfl, rfl, ?_⟩
        split at hl <;> omega
  have HFL := Lib.hid (HF0 (countM M t + n))
  clear HF0
  generalize setE M t (countM M t + n) = sE at HFL ⊢
  generalize setV M t (countM M t + n) = sVV at HFL ⊢
  have hN := Lib.hid (fun w2 hw2 => countR_any (g := g) (d := t.d) (A := A) (c := c) (B := B) (e := e) (L := L) (M := M) t (by omega) w2 hw2)
  go_enter Try.func11, Try.ntmps11
  go_upto_region 4 with ((go_at_call 37; refine (hC.out _).mono ?_; rintro e w1 ⟨rfl, b1⟩; have hb1 := Lib.hid b1; have hB := Lib.hid (Below.trans (fresh1 w (.cells (#[.int .u32 t.e, .int .i64 t.d, .int .u32 t.a, .int .u32 t.b, .int .u32 t.c]) 33)) (b1.mono (fresh1 w _).size)); have hT1 := Lib.hid (hT.out.below b1 hT.out.inside); clear b1))
  have hH := Lib.hid (H.out.below hB.out)
  have t1 : w1.drew.cell? ⟨w.heap.size, 1, none⟩ = some (.int .i64 t.d) := hT1.out.read 1
  have u1 : w1.drew.frozen? ⟨w.heap.size, 1, none⟩ = false := hT1.out.soft 1
  have c0 : w1.drew.cell? ⟨g, 0, none⟩ = some (.int .i64 t.d) := hH.out.cells.read 0
  have f0 : w1.drew.frozen? ⟨g, 0, none⟩ = false := hH.out.cells.soft 0
  go_region
  clear t1 u1 c0 f0
  have t2 : ∀ j, w1.drew.cell? ⟨w.heap.size, j, none⟩ = (#[.int .u32 t.e, .int .i64 t.d, .int .u32 t.a, .int .u32 t.b, .int .u32 t.c] : Array Value)[j]? := fun j => hT1.out.read j
  have f2 : ∀ j, w1.drew.frozen? ⟨w.heap.size, j, none⟩ = false := fun j => hT1.out.soft j
  have HW := Lib.hid (hH.out.below (Below.refl _ _).drew)
  have HXO := HX.out
  have hqo := hq.out
  clear HX hq
  have HX := Lib.hid HXO
  have HQ := Lib.hid hqo
  have CN := Lib.hid (hN.out w1.drew HW.out)
  clear hN HXO hqo
  generalize countM M t = old at HX HQ CN HFL
  have hxo := HX.out
  have hqo := HQ.out
  clear HX HQ
  have y1 : ¬ 2199023255552 < n := by omega
  have y2 : ¬ n < -2199023255552 := by omega
  have y3 : ¬ 1099511627776 < old + n := by omega
  have y4 : ¬ old + n < -1099511627776 := by omega
  have hlo : -4398046511104 ≤ old + n := by omega
  have hhi : old + n ≤ 4398046511104 := by omega
  have HF := HFL
  clear hxo hqo HFL
  go_wp2_with ((go_at_call 18; refine CN.out.mono ?_; rintro e w3 ⟨rfl, b3⟩; have B3 := Lib.hid (then_below hB.out.drew b3); have HT3 := Lib.hid ((hT1.out.below (Below.refl _ w1).drew hT1.out.inside).below b3 hT1.out.inside); clear b3))
  clear t2 f2
  have hs3 : w.heap.size + 1 ≤ w3.heap.size := by have := HT3.out.inside; omega
  generalize hgt : w.heap.size = gt at HT3
  have HGT := Lib.hid hgt
  clear hgt
  go_loopw [9, 10, 11] (fun v q s wr => ∃ (k : Nat) (N : List TN) (D : Option Addr) (c' : Nat) (qq : Bool), k ≤ M.length ∧ v = .slice D N.length c' ∧ q = .bool qq ∧ s = .int .i64 k ∧ Hid (geB t (M.take k) = qq ∧ N = outM (M.take k) t (old + n) qq) ∧ Hid (OwnP 79 wr (w.heap.size + 1) (.slice D N.length c') N) ∧ Below (w.heap.size + 1) w3 wr) (fun _ _ s _ => M.length - (intOf s).toNat)
  case atStart => exact ⟨0, [], none, 0, false, Nat.zero_le _, rfl, rfl, rfl, Lib.hid ⟨rfl, rfl⟩, Lib.hid (ownP_nil _ _), Below.refl _ _⟩
  case round =>
    obtain ⟨k, N, D, c', qq, hk, rfl, rfl, rfl, HN, HO, BB⟩ := hrel
    have hNl : N.length ≤ 4097 := by
      rw [HN.out.2]
      have := outM_len (M.take k) t (old + n) qq
      rw [List.length_take] at this
      omega
    have HBw := Lib.hid (B3.out.trans (BB.mono (by omega)))
    have HR := Lib.hid (H.out.below HBw.out)
    have cl : wr.cell? ⟨g, 1, none⟩ = some (.slice A M.length c) := HR.out.cells.read 1
    have fl : wr.frozen? ⟨g, 1, none⟩ = false := HR.out.cells.soft 1
    have OB := Lib.hid (HT3.out.below BB (by have := HGT.out; omega))
    by_cases hlt : k < M.length
    · obtain ⟨p, hx, hm⟩ := pair_lt hlt
      have HXX := Lib.hid hx
      have ip := HI.out p hm
      obtain ⟨b, off, hA, hb, c0, c1, c2, c3, c4, c5⟩ := HR.out.pairs.at hx
      subst hA
      clear hx hm
      have hbs := Nat.le_trans hs3 BB.size
      have bb := fresh1 wr (.cells (cP p).toArray 79)
      have B6 := Lib.hid (BB.trans (bb.mono hbs))
      have HO6 := Lib.hid (HO.out.below bb)
      have OX6 : Hid (Whole (wr.alloc (.cells (cP p).toArray 79)) wr.heap.size 79 #[.int .u32 p.1.e, .int .i64 p.1.d, .int .u32 p.1.a, .int .u32 p.1.b, .int .u32 p.1.c, .int .i64 p.2]) := Lib.hid (Whole.fresh wr 79 (cP p).toArray)
      have OB6 := Lib.hid (OB.out.below bb OB.out.inside)
      have HAW : Hid (∀ gz, wr.heap.size ≤ gz → some gz ≠ (Value.slice D N.length c').ownBlock) := Lib.hid (fun gz hz => HO.out.away hz)
      have hs6 := Nat.le_trans hs3 B6.out.size
      have CC := Lib.hid (compareR_any p.1 t ip i)
      have HE := run_neT p.1 t
      have HNM := Lib.hid (cmpT_num ip i)
      have HEQ := Lib.hid (num_eq ip i)
      clear bb HO OB
      go_upto_region 15 with fail
      change Code.wp _ _ _ _ (wr.alloc (.cells (cP p).toArray 79))
      generalize wr.alloc (.cells (cP p).toArray 79) = W6 at B6 HO6 OX6 OB6 hs6 ⊢
      generalize hgz : wr.heap.size = gz at OX6 ⊢
      have HGZ := Lib.hid hgz
      clear hgz c0 c1 c2 c3 c4 c5 cl fl
      obtain ⟨zc, zf⟩ := path.all_of OX6.out
      obtain ⟨bc, bf⟩ := path.all_of OB6.out
      cases qq
      · generalize hcv : cmpT p.1 t = cv at CC HNM
        clear hcv
        by_cases hneg : cv < 0
        · have hge : ¬ 0 ≤ cv := by omega
          have hlt' := HNM.out.1 hneg
          have hev : eqT p.1 t = false := by
            cases hv : eqT p.1 t
            · rfl
            · have := eqT_true hv
              rw [this] at hlt'
              omega
          rw [hev] at HE
          have HQ : Hid (geB t (M.take (k + 1)) = false ∧ N ++ [p] = outM (M.take (k + 1)) t (old + n) false) := Lib.hid (by
            obtain ⟨q1, q2⟩ := HN.out
            exact ⟨by rw [ge_more HXX.out, q1, decide_eq_true hlt']; rfl, by rw [out_less HXX.out q1 hlt', q2]⟩)
          clear hneg hlt' hev HN HNM HEQ
          go_upto_region 20 with (go_at_call 38; refine (CC.out _).mono ?_; rintro e w7 ⟨rfl, b7⟩; have HO7 := Lib.hid (HO6.out.below b7); have B7 := Lib.hid (B6.out.trans (b7.mono hs6)); have OX7 := Lib.hid (OX6.out.below b7 OX6.out.inside); have OB7 := Lib.hid (OB6.out.below b7 OB6.out.inside); have hs7 := Nat.le_trans hs3 B7.out.size; have hz7 := b7.size; clear b7 zc zf bc bf; obtain ⟨zc, zf⟩ := path.all_of OX7.out; obtain ⟨bc, bf⟩ := path.all_of OB7.out)
          go_wp2_with (at_builtin; go_loud (refine wpList_append_own _ rfl _ _ 61 rfl (w.heap.size + 1) 79 i0 (.agg (cP P0).toArray) 6 40 Try.underlying61 hi hz0 hz1 hz2 rfl (by decide) _ _ _ rfl (HO7.out.below (fresh1 w7 (.cells (cP p).toArray 79))) ⟨_, 0, none⟩ 1 1 (cP p) rfl rfl (cells_new _ _ _) (one_cP p) (by first | (simp [maxLen]; omega) | (unfold maxLen; omega)) (by first | omega | (simp; omega)) (by first | omega | (simp; omega)) ?_); intro v' w8 hown' hgrow _; obtain ⟨g8, cap8, rfl⟩ := OwnP.succ hown'; have b8 := HO7.out.grown hs7 hgrow; have HG8 := Lib.hid hgrow; have HO8 := Lib.hid hown'; clear hown' hgrow)
          go_roundw
          case rel => exact ⟨k + 1, N ++ [p], some ⟨g8, 0, none⟩, cap8, false, by omega, by first | rfl | (rw [List.length_append]; rfl) | simp, rfl, by go_num, HQ, Lib.hid (by have := HO8.out; simpa [OwnP] using this), B7.out.trans b8⟩
          case measure => simp [intOf]; omega
        · have hge : 0 ≤ cv := by omega
          have hnl : ¬ numT p.1 < numT t := fun h => hneg (HNM.out.2 h)
          by_cases heq : numT p.1 = numT t
          · have hpe := HEQ.out heq
            have hev : eqT p.1 t = true := eqT_iff.2 hpe
            rw [hev] at HE
            by_cases hn0 : old + n = 0
            · have HQ : Hid (geB t (M.take (k + 1)) = true ∧ N = outM (M.take (k + 1)) t (old + n) true) := Lib.hid (by
                obtain ⟨q1, q2⟩ := HN.out
                exact ⟨by rw [ge_more HXX.out, q1, decide_eq_false hnl]; rfl, by rw [out_same HXX.out q1 heq, q2, newP, if_pos hn0, List.append_nil]⟩)
              have hz0' : (old + n != 0) = false := by simpa using hn0
              clear hneg hnl heq hpe hev HN HNM HEQ hn0
              go_upto_region 19 with (go_at_call 38; refine (CC.out _).mono ?_; rintro e w7 ⟨rfl, b7⟩; have HO7 := Lib.hid (HO6.out.below b7); have B7 := Lib.hid (B6.out.trans (b7.mono hs6)); have OX7 := Lib.hid (OX6.out.below b7 OX6.out.inside); have OB7 := Lib.hid (OB6.out.below b7 OB6.out.inside); have hs7 := Nat.le_trans hs3 B7.out.size; have hz7 := b7.size; clear b7 zc zf bc bf; obtain ⟨zc, zf⟩ := path.all_of OX7.out; obtain ⟨bc, bf⟩ := path.all_of OB7.out)
              go_wp2_with fail
              go_roundw
              case rel => exact ⟨k + 1, N, D, c', true, by omega, by first | rfl | (rw [List.length_append]; rfl) | simp, rfl, by go_num, HQ, HO7, B7.out⟩
              case measure => simp [intOf]; omega
            · have HQ : Hid (geB t (M.take (k + 1)) = true ∧ N ++ [(t, old + n)] = outM (M.take (k + 1)) t (old + n) true) := Lib.hid (by
                obtain ⟨q1, q2⟩ := HN.out
                exact ⟨by rw [ge_more HXX.out, q1, decide_eq_false hnl]; rfl, by rw [out_same HXX.out q1 heq, q2, newP, if_neg hn0]⟩)
              have hz0' : (old + n != 0) = true := by simpa using hn0
              clear hneg hnl heq hpe hev HN HNM HEQ hn0
              go_upto_region 18 with (go_at_call 38; refine (CC.out _).mono ?_; rintro e w7 ⟨rfl, b7⟩; have HO7 := Lib.hid (HO6.out.below b7); have B7 := Lib.hid (B6.out.trans (b7.mono hs6)); have OX7 := Lib.hid (OX6.out.below b7 OX6.out.inside); have OB7 := Lib.hid (OB6.out.below b7 OB6.out.inside); have hs7 := Nat.le_trans hs3 B7.out.size; have hz7 := b7.size; clear b7 zc zf bc bf; obtain ⟨zc, zf⟩ := path.all_of OX7.out; obtain ⟨bc, bf⟩ := path.all_of OB7.out)
              go_upto_region 19 with (at_builtin; go_loud (refine wpList_append_own _ rfl _ _ 61 rfl (w.heap.size + 1) 79 i0 (.agg (cP P0).toArray) 6 40 Try.underlying61 hi hz0 hz1 hz2 rfl (by decide) _ _ _ rfl (HO7.out.below (fresh1 w7 (.cells (cP (t, old + n)).toArray 79))) ⟨_, 0, none⟩ 1 1 (cP (t, old + n)) rfl rfl (cells_new _ _ _) (one_cP (t, old + n)) (by first | (simp [maxLen]; omega) | (unfold maxLen; omega)) (by first | omega | (simp; omega)) (by first | omega | (simp; omega)) ?_); intro v' w8 hown' hgrow _; obtain ⟨g8, cap8, rfl⟩ := OwnP.succ hown'; have b8 := HO7.out.grown hs7 hgrow; have HG8 := Lib.hid hgrow; have HO8 := Lib.hid hown'; clear hown' hgrow)
              have OX8 := Lib.hid ((OX7.out.alloc (.cells (cP (t, old + n)).toArray 79)).grown HG8.out (HAW.out _ (by have := HGZ.out; omega)))
              have OB8 := Lib.hid (HT3.out.below (B7.out.trans b8) (by have := HGT.out; omega))
              clear zc zf bc bf
              obtain ⟨zc, zf⟩ := path.all_of OX8.out
              obtain ⟨bc, bf⟩ := path.all_of OB8.out
              go_wp2_with fail
              go_roundw
              case rel => exact ⟨k + 1, N ++ [(t, old + n)], some ⟨g8, 0, none⟩, cap8, true, by omega, by first | rfl | (rw [List.length_append]; rfl) | simp, rfl, by go_num, HQ, Lib.hid (by have := HO8.out; simpa [OwnP] using this), B7.out.trans b8⟩
              case measure => simp [intOf]; omega
          · have hgt' : numT t < numT p.1 := by omega
            have hev : eqT p.1 t = false := by
              cases hv : eqT p.1 t
              · rfl
              · have := eqT_true hv
                rw [this] at hgt'
                omega
            rw [hev] at HE
            by_cases hn0 : old + n = 0
            · have HQ : Hid (geB t (M.take (k + 1)) = true ∧ N ++ [p] = outM (M.take (k + 1)) t (old + n) true) := Lib.hid (by
                obtain ⟨q1, q2⟩ := HN.out
                exact ⟨by rw [ge_more HXX.out, q1, decide_eq_false hnl]; rfl, by rw [out_first HXX.out q1 hgt', q2, newP, if_pos hn0, List.append_nil]⟩)
              have hz0' : (old + n != 0) = false := by simpa using hn0
              clear hneg hnl heq hgt' hev HN HNM HEQ hn0
              go_upto_region 20 with (go_at_call 38; refine (CC.out _).mono ?_; rintro e w7 ⟨rfl, b7⟩; have HO7 := Lib.hid (HO6.out.below b7); have B7 := Lib.hid (B6.out.trans (b7.mono hs6)); have OX7 := Lib.hid (OX6.out.below b7 OX6.out.inside); have OB7 := Lib.hid (OB6.out.below b7 OB6.out.inside); have hs7 := Nat.le_trans hs3 B7.out.size; have hz7 := b7.size; clear b7 zc zf bc bf; obtain ⟨zc, zf⟩ := path.all_of OX7.out; obtain ⟨bc, bf⟩ := path.all_of OB7.out)
              go_wp2_with (at_builtin; go_loud (refine wpList_append_own _ rfl _ _ 61 rfl (w.heap.size + 1) 79 i0 (.agg (cP P0).toArray) 6 40 Try.underlying61 hi hz0 hz1 hz2 rfl (by decide) _ _ _ rfl (HO7.out.below (fresh1 w7 (.cells (cP p).toArray 79))) ⟨_, 0, none⟩ 1 1 (cP p) rfl rfl (cells_new _ _ _) (one_cP p) (by first | (simp [maxLen]; omega) | (unfold maxLen; omega)) (by first | omega | (simp; omega)) (by first | omega | (simp; omega)) ?_); intro v' w8 hown' hgrow _; obtain ⟨g8, cap8, rfl⟩ := OwnP.succ hown'; have b8 := HO7.out.grown hs7 hgrow; have HG8 := Lib.hid hgrow; have HO8 := Lib.hid hown'; clear hown' hgrow)
              go_roundw
              case rel => exact ⟨k + 1, N ++ [p], some ⟨g8, 0, none⟩, cap8, true, by omega, by first | rfl | (rw [List.length_append]; rfl) | simp, rfl, by go_num, HQ, Lib.hid (by have := HO8.out; simpa [OwnP] using this), B7.out.trans b8⟩
              case measure => simp [intOf]; omega
            · have HQ : Hid (geB t (M.take (k + 1)) = true ∧ (N ++ [(t, old + n)]) ++ [p] = outM (M.take (k + 1)) t (old + n) true) := Lib.hid (by
                obtain ⟨q1, q2⟩ := HN.out
                exact ⟨by rw [ge_more HXX.out, q1, decide_eq_false hnl]; rfl, by rw [out_first HXX.out q1 hgt', q2, newP, if_neg hn0]⟩)
              have hz0' : (old + n != 0) = true := by simpa using hn0
              clear hneg hnl heq hgt' hev HN HNM HEQ hn0
              go_upto_region 18 with (go_at_call 38; refine (CC.out _).mono ?_; rintro e w7 ⟨rfl, b7⟩; have HO7 := Lib.hid (HO6.out.below b7); have B7 := Lib.hid (B6.out.trans (b7.mono hs6)); have OX7 := Lib.hid (OX6.out.below b7 OX6.out.inside); have OB7 := Lib.hid (OB6.out.below b7 OB6.out.inside); have hs7 := Nat.le_trans hs3 B7.out.size; have hz7 := b7.size; clear b7 zc zf bc bf; obtain ⟨zc, zf⟩ := path.all_of OX7.out; obtain ⟨bc, bf⟩ := path.all_of OB7.out)
              go_upto_region 19 with (at_builtin; go_loud (refine wpList_append_own _ rfl _ _ 61 rfl (w.heap.size + 1) 79 i0 (.agg (cP P0).toArray) 6 40 Try.underlying61 hi hz0 hz1 hz2 rfl (by decide) _ _ _ rfl (HO7.out.below (fresh1 w7 (.cells (cP (t, old + n)).toArray 79))) ⟨_, 0, none⟩ 1 1 (cP (t, old + n)) rfl rfl (cells_new _ _ _) (one_cP (t, old + n)) (by first | (simp [maxLen]; omega) | (unfold maxLen; omega)) (by first | omega | (simp; omega)) (by first | omega | (simp; omega)) ?_); intro v' w8 hown' hgrow _; obtain ⟨g8, cap8, rfl⟩ := OwnP.succ hown'; have b8 := HO7.out.grown hs7 hgrow; have HG8 := Lib.hid hgrow; have HO8 := Lib.hid hown'; clear hown' hgrow)
              have OX8 := Lib.hid ((OX7.out.alloc (.cells (cP (t, old + n)).toArray 79)).grown HG8.out (HAW.out _ (by have := HGZ.out; omega)))
              have OB8 := Lib.hid (HT3.out.below (B7.out.trans b8) (by have := HGT.out; omega))
              have HO8' : Hid (OwnP 79 w8 (w.heap.size + 1) (.slice (some ⟨g8, 0, none⟩) (N.length + 1) cap8) (N ++ [(t, old + n)])) := Lib.hid (by have := HO8.out; simpa [OwnP] using this)
              have hs8 := Nat.le_trans hs3 (B7.out.trans b8).size
              clear zc zf bc bf
              obtain ⟨zc, zf⟩ := path.all_of OX8.out
              obtain ⟨bc, bf⟩ := path.all_of OB8.out
              go_wp2_with (at_builtin; go_loud (refine wpList_append_own _ rfl _ _ 61 rfl (w.heap.size + 1) 79 i0 (.agg (cP P0).toArray) 6 40 Try.underlying61 hi hz0 hz1 hz2 rfl (by decide) _ _ _ rfl (HO8'.out.below (fresh1 w8 (.cells (cP p).toArray 79))) ⟨_, 0, none⟩ 1 1 (cP p) rfl rfl (cells_new _ _ _) (one_cP p) (by first | (simp [maxLen]; omega) | (unfold maxLen; omega)) (by first | omega | (simp; omega)) (by first | omega | (simp; omega)) ?_); intro v' w9 hown' hgrow _; obtain ⟨g9, cap9, rfl⟩ := OwnP.succ hown'; have b9 := HO8'.out.grown hs8 hgrow; have HG9 := Lib.hid hgrow; have HO9 := Lib.hid hown'; clear hown' hgrow)
              go_roundw
              case rel => exact ⟨k + 1, (N ++ [(t, old + n)]) ++ [p], some ⟨g9, 0, none⟩, cap9, true, by omega, by first | rfl | (rw [List.length_append]; rfl) | simp, rfl, by go_num, HQ, Lib.hid (by have := HO9.out; simpa [OwnP] using this), (B7.out.trans b8).trans b9⟩
              case measure => simp [intOf]; omega
      · have hgt' := ge_then HS.out HXX.out HN.out.1
        have hnl : ¬ numT p.1 < numT t := by omega
        have hev : eqT p.1 t = false := by
          cases hv : eqT p.1 t
          · rfl
          · have := eqT_true hv
            rw [this] at hgt'
            omega
        rw [hev] at HE
        have HQ : Hid (geB t (M.take (k + 1)) = true ∧ N ++ [p] = outM (M.take (k + 1)) t (old + n) true) := Lib.hid (by
          obtain ⟨q1, q2⟩ := HN.out
          exact ⟨by rw [ge_more HXX.out, q1]; rfl, by rw [out_more HXX.out hgt', q2]⟩)
        clear hgt' hnl hev HN HNM HEQ CC
        go_upto_region 20 with fail
        go_wp2_with (at_builtin; go_loud (refine wpList_append_own _ rfl _ _ 61 rfl (w.heap.size + 1) 79 i0 (.agg (cP P0).toArray) 6 40 Try.underlying61 hi hz0 hz1 hz2 rfl (by decide) _ _ _ rfl (HO6.out.below (fresh1 W6 (.cells (cP p).toArray 79))) ⟨_, 0, none⟩ 1 1 (cP p) rfl rfl (cells_new _ _ _) (one_cP p) (by first | (simp [maxLen]; omega) | (unfold maxLen; omega)) (by first | omega | (simp; omega)) (by first | omega | (simp; omega)) ?_); intro v' w8 hown' hgrow _; obtain ⟨g8, cap8, rfl⟩ := OwnP.succ hown'; have b8 := HO6.out.grown hs6 hgrow; have HG8 := Lib.hid hgrow; have HO8 := Lib.hid hown'; clear hown' hgrow)
        go_roundw
        case rel => exact ⟨k + 1, N ++ [p], some ⟨g8, 0, none⟩, cap8, true, by omega, by first | rfl | (rw [List.length_append]; rfl) | simp, rfl, by go_num, HQ, Lib.hid (by have := HO8.out; simpa [OwnP] using this), B6.out.trans b8⟩
        case measure => simp [intOf]; omega
    · have hkk : k = M.length := by omega
      subst hkk
      have hbs := Nat.le_trans hs3 BB.size
      have HN2 := Lib.hid HN.out
      rw [List.take_length] at HN2
      clear HN
      cases qq
      · by_cases hn0 : old + n = 0
        · have HPM : Hid (N = putM M t (old + n)) := Lib.hid (by
            have := (out_end (M := M) t (old + n)).2 HN2.out.1
            rw [newP, if_pos hn0, List.append_nil, ← HN2.out.2] at this
            exact this)
          have hz0' : (old + n != 0) = false := by simpa using hn0
          clear hn0 HN2 OB
          rcases HF.out with ⟨f1, f2, f3⟩ | ⟨f1, f2, f3⟩
          · have F1 := Lib.hid f1
            have F2 := Lib.hid f2
            rw [← HPM.out] at f3
            have hfull : (4096 : Int) < (N.length : Int) := by omega
            clear f1 f2 f3
            go_wp2_with fail
            go_ret
            rw [F1.out, F2.out]
            exact ⟨A, c, rfl, H.out.below HBw.out, only_of_below HBw.out (some g)⟩
          · have F1 := Lib.hid f1
            have F2 := Lib.hid f2
            rw [← HPM.out] at f3
            have hfull : ¬ (4096 : Int) < (N.length : Int) := by omega
            have HRE := Lib.hid (H.out.below HBw.out)
            have cl2 : wr.cell? ⟨g, 1, none⟩ = some (.slice A M.length c) := HRE.out.cells.read 1
            have fl2 : wr.frozen? ⟨g, 1, none⟩ = false := HRE.out.cells.soft 1
            clear f1 f2 f3
            go_wp2_with fail
            go_ret
            rw [F1.out, F2.out, ← HPM.out]
            exact ⟨rfl, ⟨_, _, MulR.filled HRE.out (HO.out.lies)⟩, only_store (only_of_below HBw.out (some g)) _⟩
        · have HPM : Hid (N ++ [(t, old + n)] = putM M t (old + n)) := Lib.hid (by
            have := (out_end (M := M) t (old + n)).2 HN2.out.1
            rw [newP, if_neg hn0, ← HN2.out.2] at this
            exact this)
          have hz0' : (old + n != 0) = true := by simpa using hn0
          obtain ⟨bc, bf⟩ := path.all_of OB.out
          clear hn0 HN2
          go_upto_region 23 with (at_builtin; go_loud (refine wpList_append_own _ rfl _ _ 61 rfl (w.heap.size + 1) 79 i0 (.agg (cP P0).toArray) 6 40 Try.underlying61 hi hz0 hz1 hz2 rfl (by decide) _ _ _ rfl (HO.out.below (fresh1 wr (.cells (cP (t, old + n)).toArray 79))) ⟨_, 0, none⟩ 1 1 (cP (t, old + n)) rfl rfl (cells_new _ _ _) (one_cP (t, old + n)) (by first | (simp [maxLen]; omega) | (unfold maxLen; omega)) (by first | omega | (simp; omega)) (by first | omega | (simp; omega)) ?_); intro v' w8 hown' hgrow _; obtain ⟨g8, cap8, rfl⟩ := OwnP.succ hown'; have b8 := HO.out.grown hbs hgrow; have HG8 := Lib.hid hgrow; have HO8 := Lib.hid hown'; clear hown' hgrow)
          have HOE : Hid (OwnP 79 w8 (w.heap.size + 1) (.slice (some ⟨g8, 0, none⟩) (N ++ [(t, old + n)]).length cap8) (N ++ [(t, old + n)])) := Lib.hid (by have := HO8.out; simpa [OwnP] using this)
          have HBE := Lib.hid (B3.out.trans ((BB.trans b8).mono (by omega)))
          have hll : (N ++ [(t, old + n)]).length = N.length + 1 := by simp
          clear bc bf
          rcases HF.out with ⟨f1, f2, f3⟩ | ⟨f1, f2, f3⟩
          · have F1 := Lib.hid f1
            have F2 := Lib.hid f2
            rw [← HPM.out] at f3
            have hfull : (4096 : Int) < ((N.length : Int) + 1) := by omega
            clear f1 f2 f3
            go_wp2_with fail
            go_ret
            rw [F1.out, F2.out]
            exact ⟨A, c, rfl, H.out.below HBE.out, only_of_below HBE.out (some g)⟩
          · have F1 := Lib.hid f1
            have F2 := Lib.hid f2
            rw [← HPM.out] at f3
            have hfull : ¬ (4096 : Int) < ((N.length : Int) + 1) := by omega
            have HRE := Lib.hid (H.out.below HBE.out)
            have cl2 : w8.cell? ⟨g, 1, none⟩ = some (.slice A M.length c) := HRE.out.cells.read 1
            have fl2 : w8.frozen? ⟨g, 1, none⟩ = false := HRE.out.cells.soft 1
            clear f1 f2 f3
            go_wp2_with fail
            go_ret
            rw [F1.out, F2.out, ← HPM.out]
            exact ⟨rfl, ⟨_, _, by have hz9 := MulR.filled (c' := cap8) HRE.out (HOE.out.lies); rw [hll] at hz9; exact hz9⟩, only_store (only_of_below HBE.out (some g)) _⟩
      · have HPM : Hid (N = putM M t (old + n)) := Lib.hid (by rw [HN2.out.2]; exact (out_end (M := M) t (old + n)).1 HN2.out.1)
        clear HN2 OB
        rcases HF.out with ⟨f1, f2, f3⟩ | ⟨f1, f2, f3⟩
        · have F1 := Lib.hid f1
          have F2 := Lib.hid f2
          rw [← HPM.out] at f3
          have hfull : (4096 : Int) < (N.length : Int) := by omega
          clear f1 f2 f3
          go_wp2_with fail
          go_ret
          rw [F1.out, F2.out]
          exact ⟨A, c, rfl, H.out.below HBw.out, only_of_below HBw.out (some g)⟩
        · have F1 := Lib.hid f1
          have F2 := Lib.hid f2
          rw [← HPM.out] at f3
          have hfull : ¬ (4096 : Int) < (N.length : Int) := by omega
          have HRE := Lib.hid (H.out.below HBw.out)
          have cl2 : wr.cell? ⟨g, 1, none⟩ = some (.slice A M.length c) := HRE.out.cells.read 1
          have fl2 : wr.frozen? ⟨g, 1, none⟩ = false := HRE.out.cells.soft 1
          clear f1 f2 f3
          go_wp2_with fail
          go_ret
          rw [F1.out, F2.out, ← HPM.out]
          exact ⟨rfl, ⟨_, _, MulR.filled HRE.out (HO.out.lies)⟩, only_store (only_of_below HBw.out (some g)) _⟩
theorem addR_any {g c e : Nat} {d : Int} {A B : Option Addr} {L : List Tm} {M : List TN} (t : Tm) (i : t.In) (n : Int) (G : GoodM d M) (mL : M.length ≤ 4096) (w : World) (h : MulR w g d A c M B e L) :
    Calls Try.prog 11 #[.pointer (some ⟨g, 0, none⟩), .agg #[.int .u32 t.e, .int .i64 t.d, .int .u32 t.a, .int .u32 t.b, .int .u32 t.c], .int .i64 n] w fun x w' => ∃ A' c', x = .returned (.int .i64 (addE d M t n)) ∧ MulR w' g d A' c' (addV d M t n) B e L ∧ w.grownBy w' (some g) := by
  unfold addE addV
  by_cases hk : chk t ≠ 0
  · rw [if_pos hk, if_pos hk]
    exact (addR_bad t i n hk w h).mono fun _ _ ⟨h1, h2, h3⟩ => ⟨A, c, h1, h2, h3⟩
  · have hk : chk t = 0 := by omega
    have hk' : ¬ chk t ≠ 0 := by omega
    rw [if_neg hk', if_neg hk']
    by_cases hd : t.d = d
    · have hd' : ¬ t.d ≠ d := by omega
      rw [if_neg hd', if_neg hd']
      by_cases hx : n < -1099511627776 - countM M t ∨ 1099511627776 - countM M t < n
      · rw [if_pos hx, if_pos hx]
        exact (addR_over t i n hk hd G mL hx w h).mono fun _ _ ⟨h1, h2, h3⟩ => ⟨A, c, h1, h2, h3⟩
      · rw [if_neg hx, if_neg hx]
        exact addR_sets t i n hk hd G mL (by omega) w h
    · rw [if_pos hd, if_pos hd]
      exact (addR_depth t i n hk hd w h).mono fun _ _ ⟨h1, h2, h3⟩ => ⟨A, c, h1, h2, h3⟩
end Go.Proofs.Ytomekndinopoaaa.multi
