/-
  The contracts of termOf and Open.
  works of the fenced log's laws, in values; '==' of an entry and itself.
-/
import Derived.Test.YtfpmcomigolacaaGreatDoorJFn3
import Derived.ChangeKeysEq
import Derived.Laws.StructEq
set_option linter.unusedSimpArgs false
set_option linter.unusedVariables false
namespace Go.Proofs.YtfpmcomigolacaaGreatDoor.fence
open Go.ChangeShapes Go.WideShapes Go.ChangeAt Go.RowKit Go.Maps Go.WideMaps
open Go.Proofs.YtfpmcomigolacaaGreatDoor.opened Go.Proofs.YtfpmcomigolacaaGreatDoor.block Go.Proofs.YtfpmcomigolacaaGreatDoor.words Go.Proofs.YtfpmcomigolacaaGreatDoor.disk Go.Proofs.YtfpmcomigolacaaGreatDoor.tailed Go.Proofs.YtfpmcomigolacaaGreatDoor.enc Go.Proofs.YtfpmcomigolacaaGreatDoor.code Go.Proofs.YtfpmcomigolacaaGreatDoor.wal

/-- The term behind these records; none: one of them is no entry there. -/
def folV : Int → List Bs → Option Int
  | t, [] => some t
  | t, b :: r => if (decV b).2 = true ∧ folB (decV b).1 t = true then folV (decV b).1.t r else none
theorem folV_app : ∀ (l m : List Bs) (t : Int), folV t (l ++ m) = (folV t l).bind fun x => folV x m
  | [], m, t => rfl
  | b :: r, m, t => by
    show (if _ then _ else _) = Option.bind (if _ then _ else _) _
    split
    · exact folV_app r m _
    · rfl
def tmV (L : Lg) : Int × Bool := match folV 0 L.recs with
  | some t => (t, true)
  | none => (0, false)
section
variable {gl gd : Nat} {L : Lg} {w : World}
set_option maxRecDepth 100000 in
set_option maxHeartbeats 2000000 in
theorem termOf_any (h : Lat w gl gd L) (G : GoodL L) (hn : nextN L ≤ 1125899906842624) (hsh : ∀ r ∈ L.recs, r.length ≤ 4096) :
    Calls Tryz.prog 46 #[.pointer (some ⟨gl, 0, none⟩)] w fun e w' => e = .returned (.tuple #[.int .i64 (tmV L).1, .bool (tmV L).2]) ∧ Below w.heap.size w w' := by
  have hbs := G.base
  have hnx : nextN L = baseN L + (L.recs.length : Int) := rfl
  have HB : Hid (∀ w1, Below w.heap.size w w1 → Calls Tryz.prog 19 #[.pointer (some ⟨gl, 0, none⟩)] w1 fun e w' => e = .returned (.int .i64 (baseN L)) ∧ Below w1.heap.size w1 w') := Lib.hid fun w1 b => lat_base (h.below b)
  have HN : Hid (∀ w1, Below w.heap.size w w1 → Calls Tryz.prog 16 #[.pointer (some ⟨gl, 0, none⟩)] w1 fun e w' => e = .returned (.int .i64 (baseN L + (L.recs.length : Int))) ∧ Below w1.heap.size w1 w') := Lib.hid fun w1 b => by
    have := lat_next (h.below b) G hn
    rwa [hnx] at this
  have HG : Hid (∀ w1 (j : Nat) (r : Bs), Below w.heap.size w w1 → L.recs[j]? = some r → Calls Tryz.prog 20 #[.pointer (some ⟨gl, 0, none⟩), .int .i64 (baseN L + (j : Int))] w1 fun e w' => e = .returned (.tuple #[sV r, .int .i64 0]) ∧ Below w1.heap.size w1 w') := Lib.hid fun w1 j r b hj => by
    have hlt := (List.getElem?_eq_some_iff.1 hj).1
    have := lat_get (h.below b) G hn (baseN L + (j : Int)) (by omega) (by omega)
    have e1 : ¬ (baseN L + (j : Int) < baseN L ∨ nextN L ≤ baseN L + (j : Int)) := by omega
    unfold gtE gtV at this
    rw [if_neg e1, if_neg e1, show (baseN L + (j : Int) - baseN L).toNat = j by omega, hj] at this
    exact this
  have HD : Hid (∀ w1 r, r ∈ L.recs → Calls Tryz.prog 50 #[sV r] w1 fun e w' => e = .returned (.tuple #[(decV r).1.val, .bool (decV r).2]) ∧ Below w1.heap.size w1 w') := Lib.hid fun w1 r hr => decode_any r (by have := hsh r hr; omega) w1
  have HV : Hid (tmV L = match folV 0 L.recs with | some t => (t, true) | none => (0, false)) := Lib.hid rfl
  have hbb : baseN L + (L.recs.length : Int) ≤ 1125899906842624 := by omega
  clear h G hn hsh hnx
  generalize tmV L = tv at HV ⊢
  generalize baseN L = bs at *
  generalize hR : L.recs = R at *
  clear hR
  go_enter Tryz.func46, Tryz.ntmps46
  go_wp2_with (go_at_call 19; refine (HB.out _ (Below.refl _ _)).mono ?_; rintro e w1 ⟨rfl, b1⟩; have B1 := Lib.hid b1; clear b1)
  go_loopw [4, 5] (fun t i wr => ∃ (j : Nat) (tt : Int), j ≤ R.length ∧ t = .int .i64 tt ∧ i = .int .i64 (bs + (j : Int)) ∧ Hid (folV 0 R = folV tt (R.drop j)) ∧ Hid (Below w.heap.size w wr)) (fun _ i _ => (bs + (R.length : Int) - intOf i).toNat)
  case atStart => exact ⟨0, 0, Nat.zero_le _, rfl, by simp, Lib.hid rfl, B1⟩
  case round =>
    obtain ⟨j, tt, hj, rfl, rfl, hfol, HBw⟩ := hrel
    clear B1
    by_cases hlt : j < R.length
    · obtain ⟨r, hr⟩ : ∃ r, R[j]? = some r := ⟨_, List.getElem?_eq_getElem hlt⟩
      have hlti : bs + (j : Int) < bs + (R.length : Int) := by omega
      have hmem := List.mem_of_getElem? hr
      have hdrop : R.drop j = r :: R.drop (j + 1) := by
        obtain ⟨h1, h2⟩ := List.getElem?_eq_some_iff.1 hr
        rw [List.drop_eq_getElem_cons h1, h2]
      have hf2 := hfol.out
      rw [hdrop] at hf2
      have HF : Hid (folV 0 R = if (decV r).2 = true ∧ folB (decV r).1 tt = true then folV (decV r).1.t (R.drop (j + 1)) else none) := Lib.hid hf2
      have HGj := Lib.hid (fun w1 b => HG.out w1 j r b hr)
      have HDj := Lib.hid (fun w1 => HD.out w1 r hmem)
      clear hfol hf2 hdrop hmem hr
      go_upto_region 6 with (first
        | (go_at_call 16; refine (HN.out _ HBw.out).mono ?_; rintro e w2 ⟨rfl, b⟩; have B2 := Lib.hid (then_below HBw.out b); clear b)
        | (go_at_call 20; refine (HGj.out _ B2.out).mono ?_; rintro e w3 ⟨rfl, b⟩; have B3 := Lib.hid (then_below B2.out b); clear b))
      generalize decV r = dv at HF HDj
      obtain ⟨en, ok⟩ := dv
      dsimp only at HF HDj
      go_upto_region 7 with (go_at_call 50; refine (HDj.out _).mono ?_; rintro e w4 ⟨rfl, b⟩; have B4 := Lib.hid (then_below B3.out b); clear b)
      change Code.wp _ _ _ _ (w4.alloc (.cells en.cells 57))
      have B5 := Lib.hid (B4.out.alloc B4.out.size (.cells en.cells 57))
      have E5 := Lib.hid (Whole.fresh w4 57 en.cells)
      generalize w4.alloc (.cells en.cells 57) = W5 at B5 E5 ⊢
      generalize w4.heap.size = g5 at E5 ⊢
      have q0 : W5.cell? ⟨g5, 0, none⟩ = some (.int .i64 en.t) := E5.out.read 0
      have q1 : W5.cell? ⟨g5, 1, none⟩ = some (.bool en.c) := E5.out.read 1
      have q2 : W5.cell? ⟨g5, 2, none⟩ = some (sV en.s) := E5.out.read 2
      have HFo := Lib.hid (fun w1 => follows_any (w := w1) en tt)
      cases ok with
      | false =>
        have hf := HF.out
        rw [if_neg (by rintro ⟨h, -⟩; cases h)] at hf
        have htv : tv = (0, false) := by rw [HV.out, hf]
        subst htv
        clear HF HV hf
        go_wp2_with fail
        go_ret2
        exact ⟨rfl, B5.out⟩
      | true =>
        cases hfo : folB en tt with
        | false =>
          rw [hfo] at HFo
          have hf := HF.out
          rw [if_neg (by rintro ⟨-, h⟩; rw [hfo] at h; cases h)] at hf
          have htv : tv = (0, false) := by rw [HV.out, hf]
          subst htv
          clear HF HV hf hfo
          go_wp2_with (first
            | (go_at_call 75; refine (HFo.out _).mono ?_; rintro e w6 ⟨rfl, b⟩; have B6 := Lib.hid (then_below B5.out b); clear b))
          go_ret2
          exact ⟨rfl, B6.out⟩
        | true =>
          rw [hfo] at HFo
          have hf := HF.out
          rw [if_pos ⟨rfl, hfo⟩] at hf
          have HF2 := Lib.hid hf
          clear HF hf hfo
          have hwr : wrap64 (bs + (j : Int) + 1) = bs + ((j + 1 : Nat) : Int) := by unfold wrap64; push_cast; omega
          go_wp2_with (first
            | (go_at_call 75; refine (HFo.out _).mono ?_; rintro e w6 ⟨rfl, b⟩; have B6 := Lib.hid (then_below B5.out b); have z0 := (E5.out.below b E5.out.inside).read 0; have y0 := (E5.out.below b E5.out.inside).soft 0; clear b))
          go_roundw
          case rel => exact ⟨j + 1, en.t, by omega, rfl, by first | rfl | (rw [hwr]) | go_num, HF2, B6⟩
          case measure => simp [intOf]; omega
    · have hje : j = R.length := by omega
      have hf := hfol.out
      rw [hje, List.drop_length] at hf
      have htv : tv = (tt, true) := by rw [HV.out, hf]; rfl
      subst htv
      subst hje
      clear hfol hf HV
      go_wp2_with (go_at_call 16; refine (HN.out _ HBw.out).mono ?_; rintro e w2 ⟨rfl, b⟩; have B2 := Lib.hid (then_below HBw.out b); clear b)
      go_ret2
      exact ⟨rfl, B2.out⟩
end
/-- A fenced log is opened. -/
theorem fopen_any {B gd : Nat} {D : Dk} {w : World} (hD : DiskB w B gd D) (hE : EnvB B w) (GD : GoodD D) (hF : D.F.length ≤ 900) (nm : Bs) (hnm : nm.length ≤ 100000) (per : Int) {X : Int × Lg × Dk} (hX : opnV D nm per (srtI (numsU nm D.F)) = X) (hok : X.1 = 0) (G : GoodL X.2.1) (GD2 : GoodD X.2.2)
    (hn : nextN X.2.1 ≤ 1125899906842624) (hsh : ∀ r ∈ X.2.1.recs, r.length ≤ 4096) {T : Int} (hfol : folV 0 X.2.1.recs = some T) :
    Calls Tryz.prog 22 #[.pointer (some ⟨gd, 0, none⟩), sV nm, .int .i64 per] w fun e w' => ∃ gl gf, e = .returned (.tuple #[.pointer (some ⟨gf, 0, none⟩), .int .i64 0]) ∧ FSt B gd gl gf X.2.1 X.2.2 T w' ∧ WT w w' (fun _ => False) ∧ Below B w w' := by
  have htm : tmV X.2.1 = (T, true) := by unfold tmV; rw [hfol]
  have hle := hE.le
  have HE0 := Lib.hid (EnvB.start hE.env)
  have HE := Lib.hid hE
  have HD := Lib.hid hD
  have HC := Lib.hid (copyB (g := gd) GD (by omega) hD)
  have HO1 : Hid (∀ w1, DiskB w1 w.heap.size (w.heap.size + 1) D → Below w.heap.size w w1 → Calls Tryz.prog 9 #[.pointer (some ⟨w.heap.size + 1, 0, none⟩), sV nm, .int .i64 per] w1 fun e w' => ∃ g2, e = .returned (.tuple #[.pointer (some ⟨g2, 0, none⟩), .int .i64 0]) ∧ Lat w' g2 (w.heap.size + 1) X.2.1 ∧ Below w.heap.size w w') := Lib.hid fun w1 d b =>
    (open_st d (HE0.out.step b) GD (by omega) nm hnm per hX hok G GD2).mono fun e w' ⟨g2, h1, h2, h3, h4⟩ => ⟨g2, h1, h2.lat, b.trans h4⟩
  have HT : Hid (∀ w1 g gd', Lat w1 g gd' X.2.1 → Calls Tryz.prog 46 #[.pointer (some ⟨g, 0, none⟩)] w1 fun e w' => e = .returned (.tuple #[.int .i64 T, .bool true]) ∧ Below w1.heap.size w1 w') := Lib.hid fun w1 g gd' h => by
    have := termOf_any h G hn hsh
    rwa [htm] at this
  have HO2 : Hid (∀ w1, Below w.heap.size w w1 → Calls Tryz.prog 9 #[.pointer (some ⟨gd, 0, none⟩), sV nm, .int .i64 per] w1 fun e w' => ∃ g2, e = .returned (.tuple #[.pointer (some ⟨g2, 0, none⟩), .int .i64 0]) ∧ St B gd g2 X.2.1 X.2.2 w' ∧ WT w1 w' (fun _ => False) ∧ Below B w1 w') := Lib.hid fun w1 b =>
    open_st (HD.out.below b) (HE.out.below b) GD (by omega) nm hnm per hX hok G GD2
  clear hD hE GD hF hX hok G GD2 hn hsh hfol htm HE0 HE HD
  go_enter Tryz.func22, Tryz.ntmps22
  go_upto_region 10 with (first
    | (go_at_call 45; refine HC.out.mono ?_; rintro e w1 ⟨rfl, d1, b1⟩; have D1 := Lib.hid d1; have B1 := Lib.hid b1; clear d1 b1)
    | (go_at_call 9; (with_reducible refine (HO1.out _ D1.out B1.out).mono ?_); rintro e w2 ⟨g2, rfl, l2, b2⟩; have L2 := Lib.hid l2; have B2 := Lib.hid b2; clear l2 b2)
    | (go_at_call 46; (with_reducible refine (HT.out _ _ _ L2.out).mono ?_); rintro e w3 ⟨rfl, b3⟩; have B3 := Lib.hid (then_below B2.out b3); clear b3)
    | (go_at_call 9; (with_reducible refine (HO2.out _ B3.out).mono ?_); rintro e w4 ⟨gl, rfl, s4, t4, b4⟩; have S4 := Lib.hid s4; have T4 := Lib.hid t4; have B4 := Lib.hid b4; clear s4 t4 b4)
    | (go_at_call 46; (with_reducible refine (HT.out _ _ _ S4.out.lat).mono ?_); rintro e w5 ⟨rfl, b5⟩; have S5 := Lib.hid (S4.out.below b5); have B5 := Lib.hid b5; clear b5))
  clear HO1 HO2 HT HC D1 L2 B1 B2
  have BB : Hid (Below B w w5) := Lib.hid ((B3.out.mono hle).trans (B4.out.trans (B5.out.mono S4.out.le)))
  have WW : Hid (WT w w5 (fun _ => False)) := Lib.hid (((wt_below B3.out (fun _ => False)).trans T4.out (fun _ q => q.elim)).trans (wt_below B5.out (fun _ => False)) (fun _ q => q.elim))
  have hal := fresh1' w5 (.cells #[.pointer (some ⟨gl, 0, none⟩), .int .i64 T] 84)
  have hB5 := BB.out.size
  have S6 := Lib.hid (S5.out.below hal)
  have B6 := Lib.hid (BB.out.alloc (by have := S5.out.le; omega) (.cells #[.pointer (some ⟨gl, 0, none⟩), .int .i64 T] 84))
  have W6 := Lib.hid (WW.out.trans (wt_below hal (fun _ => False)) (fun _ q => q.elim))
  have C6 := Lib.hid (Whole.fresh w5 84 #[.pointer (some ⟨gl, 0, none⟩), .int .i64 T])
  have hle5 := S5.out.le
  clear hal
  go_wp2_with fail
  go_ret2
  exact ⟨gl, w5.heap.size, rfl, ⟨S6.out, C6.out, hle5⟩, W6.out, B6.out⟩
end Go.Proofs.YtfpmcomigolacaaGreatDoor.fence
set_option linter.unusedSimpArgs false
set_option linter.unusedVariables false
namespace Go.Proofs.YtfpmcomigolacaaGreatDoor.fence
open Go.ChangeShapes Go.WideShapes Go.ChangeAt Go.RowKit Go.Maps Go.WideMaps
open Go.Proofs.YtfpmcomigolacaaGreatDoor.opened Go.Proofs.YtfpmcomigolacaaGreatDoor.block Go.Proofs.YtfpmcomigolacaaGreatDoor.words Go.Proofs.YtfpmcomigolacaaGreatDoor.disk Go.Proofs.YtfpmcomigolacaaGreatDoor.tailed Go.Proofs.YtfpmcomigolacaaGreatDoor.enc Go.Proofs.YtfpmcomigolacaaGreatDoor.code Go.Proofs.YtfpmcomigolacaaGreatDoor.wal
theorem plainSE : Tryz.prog.plainKey 9 = true := by kernel_rfl
theorem plainIE : Tryz.prog.plainKey 3 = true := by kernel_rfl
theorem plainBE : Tryz.prog.plainKey 4 = true := by kernel_rfl
theorem fieldsE : (Tryz.prog.fieldsOf 57).toList.map (fun f => (f.name == "_", f.type, f.offset)) = [(false, 3, 0), (false, 4, 1), (false, 9, 2)] := by kernel_rfl
theorem namesE : ∃ f g h : Field, (Tryz.prog.fieldsOf 57).toList = [f, g, h] ∧ f.name ≠ "_" ∧ f.type = 3 ∧ f.offset = 0 ∧ g.name ≠ "_" ∧ g.type = 4 ∧ g.offset = 1 ∧ h.name ≠ "_" ∧ h.type = 9 ∧ h.offset = 2 := by
  have k := fieldsE
  generalize (Tryz.prog.fieldsOf 57).toList = l at k
  obtain _ | ⟨f, l0⟩ := l
  · simp at k
  obtain _ | ⟨g, l1⟩ := l0
  · simp at k
  obtain _ | ⟨h, l2⟩ := l1
  · simp at k
  obtain _ | ⟨z, lz⟩ := l2
  · simp at k
    obtain ⟨⟨a0, b0, c0⟩, ⟨a1, b1, c1⟩, ⟨a2, b2, c2⟩⟩ := k
    exact ⟨f, g, h, rfl, a0, b0, c0, a1, b1, c1, a2, b2, c2⟩
  · simp at k
set_option maxRecDepth 100000 in
theorem eqE (a0 : Int) (a1 : Bool) (a2 : ByteArray) (w : World) : (binOp .eql 57 (.agg #[.int .i64 a0, .bool a1, .string a2]) (.agg #[.int .i64 a0, .bool a1, .string a2])).run Tryz.prog w = .ok (.bool true) w := by
  obtain ⟨f, g, h, hl, n0, t0, o0, n1, t1, o1, n2, t2, o2⟩ := namesE
  have k : (Op.equalIn 10000 57 (.agg #[.int .i64 a0, .bool a1, .string a2]) (.agg #[.int .i64 a0, .bool a1, .string a2])).run Tryz.prog w = .ok true w := by
    rw [run_equalIn_struct w 9999 57 _ _ (by kernel_rfl) (by kernel_rfl), hl]
    have p0 := run_part_plain (P := Tryz.prog) w plainIE (xs := #[.int .i64 a0, .bool a1, .string a2]) (off := 0) (v := .int .i64 a0) (by simp)
    have e0 := run_equalIn_int (P := Tryz.prog) w 9998 3 .i64 .i64 a0 a0 Tryz.underlying3
    have p1 := run_part_plain (P := Tryz.prog) w plainBE (xs := #[.int .i64 a0, .bool a1, .string a2]) (off := 1) (v := .bool a1) (by simp)
    have e1 := run_equalIn_bool' (P := Tryz.prog) w 9998 4 a1 a1 Tryz.underlying4
    have p2 := run_part_plain (P := Tryz.prog) w plainSE (xs := #[.int .i64 a0, .bool a1, .string a2]) (off := 2) (v := .string a2) (by simp)
    have e2 := run_equalIn_string (P := Tryz.prog) w 9998 9 a2 a2 Tryz.underlying9
    simp only [Op.eqFields, n0, t0, o0, n1, t1, o1, n2, t2, o2, ne_eq, not_false_eq_true, if_true, Sem.run_bind, p0, e0, p1, e1, p2, e2, Result.andThen_ok, beq_self_eq_true, Bool.not_true, Bool.false_eq_true, if_false]
    try rfl
  rw [run_eql_struct, k]
  rfl

/-! ### The steps -/
def L1 : Lg := clL (lg0 [103] 4) K0 0 1
def D1 : Dk := clD (lg0 [103] 4) K0 0 1
theorem s1 : clE (lg0 [103] 4) K0 0 1 = 0 ∧ clN (lg0 [103] 4) K0 0 1 = 0 ∧ clT (lg0 [103] 4) K0 0 1 = 1 := ⟨by kernel_rfl, by kernel_rfl, by kernel_rfl⟩
def L2 : Lg := faL L1 D1 1 1 [97]
def D2 : Dk := faD L1 D1 1 1 [97]
theorem s2 : faE L1 D1 1 1 [97] = 0 ∧ faN L1 D1 1 1 [97] = 1 := ⟨by kernel_rfl, by kernel_rfl⟩
def L3 : Lg := clL L2 D2 1 3
def D3 : Dk := clD L2 D2 1 3
theorem s3 : clE L2 D2 1 3 = 0 ∧ clN L2 D2 1 3 = 2 ∧ clT L2 D2 1 3 = 3 := ⟨by kernel_rfl, by kernel_rfl, by kernel_rfl⟩
theorem s4 : faE L3 D3 3 1 [98] = 13 ∧ faN L3 D3 3 1 [98] = 0 := ⟨by kernel_rfl, by kernel_rfl⟩
theorem s4L : faL L3 D3 3 1 [98] = L3 ∧ faD L3 D3 3 1 [98] = D3 := by
  have h : faGo 3 1 [98] = false := by kernel_rfl
  unfold faL faD
  rw [if_neg (by rw [h]; decide), if_neg (by rw [h]; decide)]
  exact ⟨rfl, rfl⟩
theorem s5 : faE L3 D3 3 4 [98] = 5 ∧ faN L3 D3 3 4 [98] = 0 := ⟨by kernel_rfl, by kernel_rfl⟩
theorem s5L : faL L3 D3 3 4 [98] = L3 ∧ faD L3 D3 3 4 [98] = D3 := by
  have h : faGo 3 4 [98] = false := by kernel_rfl
  unfold faL faD
  rw [if_neg (by rw [h]; decide), if_neg (by rw [h]; decide)]
  exact ⟨rfl, rfl⟩
theorem s6 : clE L3 D3 3 2 = 13 ∧ clN L3 D3 3 2 = 0 := ⟨by kernel_rfl, by kernel_rfl⟩
theorem s6L : clL L3 D3 3 2 = L3 ∧ clD L3 D3 3 2 = D3 ∧ clT L3 D3 3 2 = 3 := by
  have h : clGo 3 2 = false := by kernel_rfl
  unfold clL clD clT
  rw [if_neg (by rw [h]; decide), if_neg (by rw [h]; decide), if_neg (by rw [h]; decide)]
  exact ⟨rfl, rfl, rfl⟩
theorem s7 : fgE L3 1 = 0 ∧ (fgV L3 1).t = 1 ∧ (fgV L3 1).c = false ∧ (fgV L3 1).s = [97] := ⟨by kernel_rfl, by kernel_rfl, by kernel_rfl, by kernel_rfl⟩
theorem s8 : fsE L3 D3 3 1 = 13 ∧ fsE L3 D3 3 3 = 0 := ⟨by kernel_rfl, by kernel_rfl⟩
theorem s8L : fsL L3 D3 3 1 = L3 ∧ fsD L3 D3 3 1 = D3 := by
  have h : chkT 3 1 ≠ 0 := by decide
  unfold fsL fsD
  rw [if_pos h, if_pos h]
  exact ⟨rfl, rfl⟩
def L4 : Lg := fsL L3 D3 3 3
def D4 : Dk := fsD L3 D3 3 3
theorem s9 : L4.syn = 3 := by kernel_rfl
theorem m1 : nextN (lg0 [103] 4) = 0 ∧ nextN L1 = 1 ∧ nextN L2 = 2 ∧ nextN L3 = 3 := ⟨by kernel_rfl, by kernel_rfl, by kernel_rfl, by kernel_rfl⟩
theorem m2 : K0.F.length = 0 ∧ D1.F.length = 1 ∧ D2.F.length = 1 ∧ D3.F.length = 1 := ⟨by kernel_rfl, by kernel_rfl, by kernel_rfl, by kernel_rfl⟩
theorem m3 : (lg0 [103] 4).recs.length = 0 ∧ L1.recs.length = 1 ∧ L2.recs.length = 2 ∧ L3.recs.length = 3 := ⟨by kernel_rfl, by kernel_rfl, by kernel_rfl, by kernel_rfl⟩
theorem m4 : (lg0 [103] 4).per = 4 ∧ L1.per = 4 ∧ L2.per = 4 ∧ L3.per = 4 := ⟨by kernel_rfl, by kernel_rfl, by kernel_rfl, by kernel_rfl⟩
theorem m5 : (L3.recs.all fun r => decide (r.length ≤ 4096)) = true := by kernel_rfl
theorem bare_cl {L : Lg} {D : Dk} {T t : Int} (h : Bare L) : Bare (clL L D T t) := by
  unfold clL
  split
  · split
    · exact bare_apL h
    · exact bare_sy (bare_apL h) _
  · exact h
theorem bare_fa {L : Lg} {D : Dk} {T t : Int} {s : Bs} (h : Bare L) : Bare (faL L D T t s) := by
  unfold faL
  split
  · exact bare_apL h
  · exact h
theorem b1 : Bare L1 := bare_cl fun _ => rfl
theorem b2 : Bare L2 := bare_fa b1
theorem b3 : Bare L3 := bare_cl b2
end Go.Proofs.YtfpmcomigolacaaGreatDoor.fence
