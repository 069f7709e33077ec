/-
  Any list in writing, and in bytes; the frontiers of any bytes: the program's answers are the document's; no condition.
-/
import Derived.Test.YtmepiogoofmbbaaGreatDoorTxR6
import Derived.Test.YtmepiogoofmbbaaGreatDoorRdR6
import Derived.Test.YtmepiogoofmbbaaGreatDoorGL
import Derived.Test.YtmepiogoofmbbaaGreatDoorTie
import Derived.Test.YtmepiogoofmbbaaGreatDoorCards
import Derived.Test.YtmepiogoofmbbaaGreatDoorGG
import Derived.Test.YtmepiogoofmbbaaGreatDoorGF
import Derived.Deep.RegionWith
namespace Go.Proofs.YtmepiogoofmbbaaGreatDoor.chainBytes
open Go.ChangeShapes Go.WideShapes Go.ChangeAt Go.RowKit
open Go.Proofs.YtmepiogoofmbbaaGreatDoor.tm Go.Proofs.YtmepiogoofmbbaaGreatDoor.opened Go.Proofs.YtmepiogoofmbbaaGreatDoor.block Go.Proofs.YtmepiogoofmbbaaGreatDoor.stamp Go.Proofs.YtmepiogoofmbbaaGreatDoor.chain Go.Proofs.YtmepiogoofmbbaaGreatDoor.code

theorem great_yes (A : Option Addr) (c : Nat) {n : Nat} (hn : n ≤ 4611686018427387903) (h : 200 < n) (w : World) : Calls Tryz.prog 4 #[.slice A n c] w fun e w' => e = .returned (.bool true) ∧ Below w.heap.size w w' := by
  have := great_any A c n hn w
  rw [decide_eq_true h] at this
  exact this.mono fun e w' ⟨he, hw⟩ => ⟨he, hw ▸ Below.refl _ _⟩
theorem great_no (A : Option Addr) (c : Nat) {n : Nat} (hn : n ≤ 4611686018427387903) (h : ¬ 200 < n) (w : World) : Calls Tryz.prog 4 #[.slice A n c] w fun e w' => e = .returned (.bool false) ∧ Below w.heap.size w w' := by
  have := great_any A c n hn w
  rw [decide_eq_false h] at this
  exact this.mono fun e w' ⟨he, hw⟩ => ⟨he, hw ▸ Below.refl _ _⟩
theorem own_lies (A : Option Addr) (c : Nat) (L : List Tm) (mL : L.length ≤ 4096) (w : World) (hL : Lt w A L) :
    Calls Tryz.prog 6 #[.slice A L.length c] w fun e W' => ∃ B c', e = .returned (.slice B L.length c') ∧ Lt W' B L ∧ Below w.heap.size w W' := by
  refine (own_any A c L mL w hL).mono ?_
  rintro e w' ⟨B, c', he, ho, hb⟩
  exact ⟨B, c', he, ho.lies, hb⟩
theorem rest4 (c : Int) : ∃ m : Nat, (IntKind.u64.wrap c).tmod 4 = (m : Int) ∧ m < 4 := by
  have hu := (wrap_u64_bd c).1
  have h0 := Int.emod_nonneg (IntKind.u64.wrap c) (show (4 : Int) ≠ 0 by omega)
  have h1 := Int.emod_lt_of_pos (IntKind.u64.wrap c) (show (0 : Int) < 4 by omega)
  rw [Int.tmod_eq_emod_of_nonneg hu]
  exact ⟨(IntKind.u64.wrap c % 4).toNat, by omega, by omega⟩
theorem QA.grown {w w' : World} {g : Nat} {row : Option Nat} {q : List UInt8 × Int} (h : QA w g q) (k : w.grownBy w' row) (hr : some g ≠ row) : QA w' g q := Whole.grown h k hr
theorem leftQA (g : Nat) (q : List UInt8 × Int) (w : World) (h : QA w g q) : Calls Tryz.prog 15 #[.pointer (some ⟨g, 0, none⟩)] w fun r w' => r = .returned (.int .i64 q.1.length) ∧ w = w' := leftA g q.1 q.2 w h
theorem leftQB (g : Nat) (q : List UInt8 × Int) (w : World) (h : QB w g q) : Calls Tryz.prog 16 #[.pointer (some ⟨g, 0, none⟩)] w fun r w' => r = .returned (.int .i64 q.1.length) ∧ QB w' g q ∧ w.grownBy w' (some g) := by
  obtain ⟨s, n, a, b, c, h⟩ := h
  rw [c]
  exact (leftB g s n q.2 b a w h).mono fun r w' ⟨e, r1, g1⟩ => ⟨e, ⟨s, n, a, b, c, r1⟩, g1⟩
theorem then_only {B ga gb : Nat} {a w w2 w3 : World} (h : Below B a w) (g2 : w.grownBy w2 (some ga)) (g3 : w2.grownBy w3 (some gb)) (hB : B ≤ w.heap.size) (ha : B ≤ ga) (hb : B ≤ gb) : Below B a w3 :=
  (h.grown g2 hB (fun j ej => by have := Option.some.inj ej; omega)).grown g3 (Nat.le_trans hB g2.size) (fun j ej => by have := Option.some.inj ej; omega)
theorem below_one {B g : Nat} {a w w2 : World} (h : Below B a w) (g2 : w.grownBy w2 (some g)) (hB : B ≤ w.heap.size) (hg : B ≤ g) : Below B a w2 :=
  h.grown g2 hB (fun j ej => by have := Option.some.inj ej; omega)
theorem chV_len (q : List UInt8 × Int) : (chV q).length ≤ 64 := by
  unfold chV
  split
  · exact chL_len q
  · simp
theorem chQ_len (q : List UInt8 × Int) : (chQ q).1.length ≤ q.1.length := Nat.le_trans (rdN_left _ _) (nx_bd q (m := 64) (by omega)).2.2
set_option maxRecDepth 100000 in
set_option maxHeartbeats 8000000 in
theorem walkT (A : Option Addr) (c : Nat) (L : List Tm) (iL : InL L) (mL : L.length ≤ 4611686018427387903) (s : ByteArray) (hs : s.size ≤ 140737488351232) (n : Int) (_wn : (Lit.int .i64 n).wf = true) (w : World) (hE : Env w) (hL : Lt w A L) :
    Calls Tryz.prog 3 #[.slice A L.length c, .string s, .int .i64 n] w fun r W' => r = .returned (.bool true) ∧ Below w.heap.size w W' := by
  have HE := Lib.hid hE
  have HL := Lib.hid hL
  have B0 : Below w.heap.size w w := Below.refl _ _
  obtain ⟨m, hm, hm4⟩ := rest4 n
  clear hE hL
  go_enter Tryz.func3, Tryz.ntmps3
  by_cases gL : 200 < L.length
  · go_wp2_with fail
    refine (great_yes A c mL gL _).mono ?_
    rintro e w1 ⟨rfl, b1⟩
    have HE := Lib.hid (HE.out.below b1)
    have HL := Lib.hid (HL.out.below b1)
    have B1 := B0.trans (b1.mono B0.size)
    clear b1 B0
    go_wp2_with fail
    go_ret
    exact ⟨by first | rfl | simp, B1⟩
  · go_wp2_with fail
    refine (great_no A c mL gL _).mono ?_
    rintro e w1 ⟨rfl, b1⟩
    have HE := Lib.hid (HE.out.below b1)
    have HL := Lib.hid (HL.out.below b1)
    have B1 := B0.trans (b1.mono B0.size)
    clear b1 B0
    by_cases gS : 5000 < s.size
    · have gS2 : (5000 : Int) < (s.size : Int) := by omega
      go_wp2_with fail
      go_ret
      exact ⟨by first | rfl | simp, B1⟩
    · have gS2 : ¬ (5000 : Int) < (s.size : Int) := by omega
      go_wp2_with fail
      refine (own_lies A c L (by omega) _ HL.out).mono ?_
      rintro e w2 ⟨A2, c2, rfl, h2, b2⟩
      have HE := Lib.hid (HE.out.below b2)
      have HL := Lib.hid (HL.out.below b2)
      have B2 := B1.trans (b2.mono B1.size)
      clear b2 B1
      have KL := Lib.hid h2
      clear h2
      have T1 := Lib.hid (chText A2 c2 L iL mL)
      have T2 := Lib.hid (chTextR A c L iL mL)
      have W2 := Lib.hid (chWriteR A c L iL mL)
      have W1 := Lib.hid (fun A c => chWrite A c L iL mL)
      generalize chTxt L iL = tx at T1 T2
      generalize chWrt L iL = wx at W1 W2
      generalize checkE L iL = ck at T1 T2 W1 W2
      go_wp2_with fail
      refine (T1.out _ KL.out HE.out).mono ?_
      rintro e w3 ⟨rfl, b3⟩
      have HE := Lib.hid (HE.out.below b3)
      have HL := Lib.hid (HL.out.below b3)
      have KL := Lib.hid (KL.out.below b3)
      have B3 := B2.trans (b3.mono B2.size)
      clear b3 B2
      clear KL HE
      go_wp2_with fail
      refine (T2.out _ HL.out).mono ?_
      rintro e w4 ⟨rfl, b4⟩
      have HL := Lib.hid (HL.out.below b4)
      have B4 := B3.trans (b4.mono B3.size)
      clear b4 B3
      go_wp2_with fail
      refine (own_lies A c L (by omega) _ HL.out).mono ?_
      rintro e w5 ⟨A5, c5, rfl, h5, b5⟩
      have HL := Lib.hid (HL.out.below b5)
      have B5 := B4.trans (b5.mono B4.size)
      clear b5 B4
      have KL := Lib.hid h5
      clear h5
      go_wp2_with fail
      refine (W1.out A5 c5 _ KL.out).mono ?_
      rintro e w6 ⟨rfl, b6⟩
      have HL := Lib.hid (HL.out.below b6)
      have KL := Lib.hid (KL.out.below b6)
      have B6 := B5.trans (b6.mono B5.size)
      clear b6 B5
      clear KL
      go_wp2_with fail
      refine (W2.out _ HL.out).mono ?_
      rintro e w7 ⟨rfl, b7⟩
      have HL := Lib.hid (HL.out.below b7)
      have B7 := B6.trans (b7.mono B6.size)
      clear b7 B6
      clear HL
      clear T1 T2 W1 W2 gS gL
      go_wp2_with fail
      refine (new_any s _).mono ?_
      rintro e wq ⟨rfl, rfl⟩
      go_wp2_with fail
      have qa0 : QA ((w7.alloc (.cells #[.string s, .int .i64 0] 52)).alloc (.cells #[.string s, .int .i64 0, .int .i64 0] 32)) w7.heap.size (s.data.toList, 0) := Whole.alloc (Whole.fresh w7 52 #[.string s, .int .i64 0]) _
      have qb0 : QB ((w7.alloc (.cells #[.string s, .int .i64 0] 52)).alloc (.cells #[.string s, .int .i64 0, .int .i64 0] 32)) (w7.heap.size + 1) (s.data.toList, 0) := ⟨s, 0, Nat.zero_le _, hs, rfl, by
        have := Whole.fresh (w7.alloc (.cells #[.string s, .int .i64 0] 52)) 32 #[.string s, .int .i64 0, .int .i64 0]
        rw [World.size_alloc] at this
        exact this⟩
      have v3 : Below w.heap.size w ((w7.alloc (.cells #[.string s, .int .i64 0] 52)).alloc (.cells #[.string s, .int .i64 0, .int .i64 0] 32)) := (B7.alloc B7.size _).alloc (by have := B7.size; simp; omega) _
      have hsl : s.data.toList.length ≤ 9223372036854775807 := by
        have h3 : s.data.toList.length = s.size := by rw [Array.length_toList]; rfl
        omega
      have hp := B7.size
      clear B7
      generalize w7.heap.size = p at qa0 qb0 hp ⊢
      go_loopw [17] (fun i wr => ∃ (k : Nat) (q : List UInt8 × Int), k ≤ m ∧ i = .int .i64 k ∧ q.1.length ≤ 9223372036854775807 ∧ QA wr p q ∧ QB wr (p + 1) q ∧ Below w.heap.size w wr) (fun i _ => m - (intOf i).toNat)
      case atStart => exact ⟨0, _, by omega, rfl, hsl, qa0, qb0, v3⟩
      case round =>
        clear qa0 qb0 v3 hsl hs
        obtain ⟨k, q, hk, rfl, hl, qa, qb, hb⟩ := hrel
        by_cases hkm : k < m
        · have hlen := chQ_len q
          have hvl := chV_len q
          have RA := Lib.hid (fun W h => chRead_any p q hl W h)
          have RB := Lib.hid (fun W h => chReadR_any (p + 1) q hl W h)
          have SM := Lib.hid (fun D D2 cD cD2 W h h2 => same_self D D2 cD cD2 (chV q) (by omega) W h h2)
          generalize chV q = V at RA RB SM
          generalize chE q = E1 at RA RB
          generalize (chQ q).1 = L1 at RA RB hlen
          have hpb := qb.inside
          have EA := Lib.hid (fun W h => errQA p (L1, E1) W h)
          have LA := Lib.hid (fun W h => leftQA p (L1, E1) W h)
          have LB := Lib.hid (fun W h => leftQB (p + 1) (L1, E1) W h)
          go_wp2_with fail
          go_region_with (first | (go_at_call 12; refine (RA.out _ (by exact qa)).mono ?_; rintro r w4 ⟨D, cD, rfl, l4, qa4, g4, n4⟩; have qb4 : QB w4 (p + 1) q := chain.QB.grown (w := wr.drew) qb g4 (by simp)) | (go_at_call 13; refine (RB.out _ (by exact qb4)).mono ?_; rintro r w5 ⟨D2, cD2, rfl, l5, qb5, g5⟩; have qa5 : QA w5 p (L1, E1) := QA.grown qa4 g5 (by simp); have l45 := l4.grownG g5 (fun ad ea e => by have h8 : wr.heap.size ≤ ad.block := n4 ad ea; rw [e] at h8; exact absurd hpb (Nat.not_lt.2 h8))) | (go_at_call 11; refine (SM.out D D2 cD cD2 _ (by exact l45) (by exact l5)).mono ?_; rintro r w6 ⟨rfl, b6⟩; have qa6 : QA w6 p (L1, E1) := Whole.below qa5 b6 qa5.inside; have qb6 := QB.below qb5 b6; have qe6 := qb6.err) | (go_at_call 14; refine (EA.out _ (by exact qa6)).mono ?_; rintro r w7 ⟨rfl, rfl⟩) | (go_at_call 15; refine (LA.out _ (by exact qa6)).mono ?_; rintro r w7 ⟨rfl, rfl⟩) | (go_at_call 16; refine (LB.out _ (by exact qb6)).mono ?_; rintro r w8 ⟨rfl, qb8, g8⟩))
          all_goals go_wp2_with fail
          all_goals (have hpw : w.heap.size ≤ p + 1 := by omega)
          all_goals (have hle : L1.length ≤ 9223372036854775807 := by omega)
          all_goals (have hkk : k + 1 ≤ m := by omega)
          all_goals go_roundw
          all_goals first | (exact ⟨k + 1, (L1, E1), hkk, by go_num, hle, QA.grown qa6 g8 (by simp), qb8, below_one ((then_only hb.drew g4 g5 hb.size hp hpw).trans (b6.mono (Nat.le_trans hb.size (Nat.le_trans g4.size g5.size)))) g8 (Nat.le_trans hb.size (Nat.le_trans g4.size (Nat.le_trans g5.size b6.size))) hpw⟩) | (simp [intOf]; omega)
        · have hkk : decide ((k : Int) < (m : Int)) = false := by simp; omega
          go_wp2
          go_ret
          exact ⟨rfl, hb⟩
set_option maxRecDepth 100000 in
theorem told (W : World) (args : Array Value) (hE : Env W) (h : Fed Tryz.prog W [22, 9, 3] args) : Calls Tryz.prog 3 args W fun e W' => e = .returned (.bool true) ∧ Below W.heap.size W W' := by
  obtain ⟨v0, v1, v2, rfl⟩ := args3 h.count
  obtain ⟨⟨_, o0⟩, r0⟩ := h.each 0 22 v0 rfl rfl
  obtain ⟨⟨_, o1⟩, r1⟩ := h.each 1 9 v1 rfl rfl
  obtain ⟨⟨_, o2⟩, r2⟩ := h.each 2 3 v2 rfl rfl
  obtain ⟨a0, q0⟩ := r0 opens_times
  obtain ⟨A0, c0, L0, rfl, iL0, hL0, hc0, mL0⟩ := top_times o0 q0
  obtain ⟨a1, q1⟩ := r1 (opens_str Tryz.underlying9)
  obtain ⟨rfl, w1⟩ := top_str Tryz.underlying9 o1 q1
  obtain ⟨a2, q2⟩ := r2 (opens_int Tryz.underlying3)
  obtain ⟨rfl, w2⟩ := top_int Tryz.underlying3 o2 q2
  exact walkT A0 c0 L0 iL0 mL0 a1 w1 a2 w2 W hE hL0

/-! ### The row and the card -/
set_option maxRecDepth 100000 in
theorem lifted (os : Os) (started : os.Started) (H : Type) (enc : TypeId × Value → H) :
    ReturnsInHanded {} Tryz.checked os 3 .any (fun w args => (Rows.chainBytesSpec.pre enc Tryz.prog Tryz.f3 Rows.chainBytesRow.domain false w args ∧ laidMetH Tryz.prog Rows.chainBytesRow.laid w) ∧ sizedMet enc Tryz.prog Tryz.f3 (OpenSpec.ofChange Rows.chainBytesSpec) false w args) (Rows.chainBytesSpec.post enc Tryz.prog Tryz.f3 false true false false) :=
  liftL (ts := [22, 9, 3]) rfl started (by kernel_rfl) Tryz.func3 (by kernel_rfl) (by kernel_rfl) (by kernel_rfl) rfl
    (fun ds h => by
      match ds, h with
      | [_, _, _], _ => rfl)
    (ChangeSpec.witness_shaped (enc := enc) (C := Tryz.checked) (os := os) (X := fun w _ => laidMetH Tryz.prog laid7 w) false (Go.Proofs.YtmepiogoofmbbaaGreatDoor.stamp.start os) #[.slice none 0 0, .string ByteArray.empty, .int .i64 0] 8 (World.laidAll_os _ _ _)
      (World.shaped_of_ZipB (by kernel_rfl) (by kernel_rfl)) (by kernel_rfl) (by kernel_rfl) (by kernel_rfl) (start_met os _)) told

theorem over : Rows.ChainBytesSaid :=
  OpenClaim.holds_of_wide 3 Tryz.f3 rfl rfl rfl rfl rfl rfl rfl ⟨rfl, rfl, rfl, rfl, rfl⟩ rfl rfl rfl rfl rfl (by kernel_rfl) Tryz.func3 (by kernel_rfl)
    (of_decide_eq_true (by kernel_rfl)) (by unfold Func.isWrapper; first | (rw [if_pos (by decide +kernel)]; kernel_rfl) | (rw [if_neg (by decide +kernel)]; exact ⟨rfl, rfl⟩))
    (fun os started H enc _ => lifted os started H enc)

theorem proved : Rows.ChainBytesCardSaid :=
  Claim7.holds_tied_plain_at .later [] [.data, .data, .data] true (true, "ca05196074e8cefda9bba07719f260340d26c731c469ebe1be30024f9930aa1d") false
    over (fun _ h => by cases h) (by kernel_rfl) (fun _ h => by cases h) chainBytes_row_tie rfl ⟨rfl, rfl⟩ (by kernel_rfl) rfl
    (fun f fn hf hfn => by
      obtain rfl : f = 3 := Option.some.inj ((show Tryz.prog.funcNamed "watershed/watershedlaw06.ChainBytes" = some 3 by kernel_rfl).symm.trans hf) |>.symm
      obtain rfl : fn = Tryz.f3 := (Option.some.inj (Tryz.func3.symm.trans hfn)).symm
      exact ⟨by kernel_rfl, fun j t ht => by
        rw [Tryz.params3] at ht
        have hm : t ∈ [22, 9, 3] := by simpa using Array.mem_of_getElem? ht
        have hall : ([22, 9, 3].all fun u => !Tryz.prog.wantsStandIn u) = true := by kernel_rfl
        exact (show Tryz.prog.wantsStandIn t = false by simpa using List.all_eq_true.1 hall t hm)⟩)
    (by kernel_rfl)
#print axioms proved

end Go.Proofs.YtmepiogoofmbbaaGreatDoor.chainBytes
