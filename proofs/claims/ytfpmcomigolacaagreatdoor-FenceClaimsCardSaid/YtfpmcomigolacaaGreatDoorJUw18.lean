/-
  The contract of take.
  What take keeps; Remove, told by the blocks it may write; slices.Backward over a row of numbers.
-/
import Derived.Test.YtfpmcomigolacaaGreatDoorJUw16
import Derived.Test.YtfpmcomigolacaaGreatDoorJSq
import Derived.RangeFuncBox
import Derived.RangeFuncLeaves
import Derived.WalkKit
import Derived.TacticsInMore
import Derived.LoopNIn
import Derived.LoopIn
set_option linter.unusedSimpArgs false
set_option linter.unusedVariables false
namespace Go.Proofs.YtfpmcomigolacaaGreatDoor.wal
open Go.ChangeShapes Go.WideShapes Go.ChangeAt Go.RowKit Go.Maps Go.WideMaps
open Go.Proofs.YtfpmcomigolacaaGreatDoor.opened Go.Proofs.YtfpmcomigolacaaGreatDoor.block Go.Proofs.YtfpmcomigolacaaGreatDoor.words Go.Proofs.YtfpmcomigolacaaGreatDoor.disk Go.Proofs.YtfpmcomigolacaaGreatDoor.tailed Go.Proofs.YtfpmcomigolacaaGreatDoor.enc Go.Proofs.YtfpmcomigolacaaGreatDoor.code Go.Proofs.YtfpmcomigolacaaGreatDoor.region
theorem rv_le {D : Dk} (GD : GoodD D) (n : Bs) : (readV D n).length ≤ 262144 := by
  unfold readV
  split
  · simp
  · have := GD.room
    have h2 := old_len GD.srt n [] 0
    rw [List.append_nil, used_put] at h2
    have h3 : (oldB D.F n).length + used (del n D.F) = used D.F + 0 := h2
    omega
theorem frsF_len : ∀ (f : Nat) (s : Bs), (frsF f s).1.length ≤ s.length
  | 0, _ => Nat.zero_le _
  | f + 1, s => by
    unfold frsF
    by_cases e : (unfV s).2.2 = true
    · have hp := unf_pos e
      rw [if_pos e]
      have := frsF_len f (s.drop (unfV s).2.1)
      simp at this ⊢
      omega
    · rw [if_neg e]
      simp
theorem unf_short {s : Bs} (h : (unfV s).2.2 = true) : (unfV s).1.length ≤ 4096 := by
  generalize hu : unfV s = x at h
  obtain ⟨t, k, b⟩ := x
  obtain rfl : b = true := h
  obtain ⟨n, u, h1, h2, h3, h4, h5⟩ := unf_iff.1 hu
  have := (rInt_ok h1).2
  show t.length ≤ 4096
  rw [h4]
  unfold Go.Proofs.YtfpmcomigolacaaGreatDoor.crcm.openT
  rw [if_pos h3]
  simp
  omega
theorem frsF_4096 : ∀ (f : Nat) (s : Bs), ∀ t ∈ (frsF f s).1, t.length ≤ 4096
  | 0, _, _, h => by cases h
  | f + 1, s, t, h => by
    unfold frsF at h
    by_cases e : (unfV s).2.2 = true
    · rw [if_pos e] at h
      rcases List.mem_cons.1 h with rfl | h
      · exact unf_short e
      · exact frsF_4096 f _ t h
    · rw [if_neg e] at h
      cases h
theorem own_holds' {w : World} {base : Nat} {e : TypeId} {b m cap : Nat} {xs : List Value} (h : w.ownsRow base e 1 (.slice (some ⟨b, 0, none⟩) m cap) m xs) : m ≤ cap ∧ cap ≤ 9223372036854775807 := by
  rcases h.2 with ⟨hv, -⟩ | ⟨g, cap', cur, hv, hg, hh, hc, hm, hs, ht⟩
  · cases hv
  · injection hv with h1 h2 h3
    subst h3
    exact ⟨hc, by unfold maxLen at hm; omega⟩
theorem whole_cells2 {w : World} {g : Nat} {t : TypeId} {x0 x1 x2 x3 x6 x7 x8 y0 y1 y2 y3 y6 y7 y8 : Value} {A A' R R' : Option Addr} {n n' c c' m m' d d' : Nat} (h : Whole w g t #[x0, x1, x2, x3, .slice A n c, .slice R m d, x6, x7, x8]) (k : Whole w g t #[y0, y1, y2, y3, .slice A' n' c', .slice R' m' d', y6, y7, y8]) : A = A' ∧ R = R' := by
  have h4 := (h.read 4).symm.trans (k.read 4)
  have h5 := (h.read 5).symm.trans (k.read 5)
  simp at h4 h5
  exact ⟨h4.1, h5.1⟩
section
variable {gl gd : Nat} {L : Lg} {A : Option Addr} {c : Nat} {R : Option Addr} {d : Nat} {w : World} {B : Nat} {D : Dk}
theorem push_heads2 (h : LogE w gl gd L A c R d) (hD : DiskB w B gd D) (hB : B ≤ w.heap.size) (hlb : ∀ k, lblk gl A R k → B ≤ k) (x : Int) (hl : L.heads.length ≤ 100000) :
    ∃ A' c' w', (Builtin.append_ #[23, 23] 23 #[.slice A L.heads.length c, .slice (some ⟨w.heap.size, 0, none⟩) 1 1]).run Tryz.prog (w.alloc (.cells #[.int .i64 x] 3)) = .ok (.slice A' (L.heads.length + 1) c') w' ∧
      w'.cell? ⟨gl, 4, none⟩ = some (.slice A L.heads.length c) ∧ w'.frozen? ⟨gl, 4, none⟩ = false ∧
      LogE (w'.setCell ⟨gl, 4, none⟩ (.slice A' (L.heads.length + 1) c')) gl gd { L with heads := L.heads ++ [x] } A' c' R d ∧ LTurn B gl gd A R { L with heads := L.heads ++ [x] } D w (w'.setCell ⟨gl, 4, none⟩ (.slice A' (L.heads.length + 1) c')) := by
  obtain ⟨i0, hi, hz0, hz1, hz2⟩ := int_parts
  obtain ⟨n1, n2, n3⟩ := row_ne h
  have hgl := h.cells.inside
  have h2 : (w.alloc (.cells #[.int .i64 x] 3)).ownsRow 0 3 1 (.slice A L.heads.length c) L.heads.length (L.heads.map (Value.int .i64)) := own_same h.heads fun k hk => Below.heap_alloc w _ k (by
    obtain ⟨cs, q⟩ := own_type h.heads hk
    exact q.inside)
  obtain ⟨v', w3, hr, ho, hg, hnil, hat⟩ := run_append_own_at (P := Tryz.prog) (w.alloc (.cells #[.int .i64 x] 3)) 0 23 23 3 i0 (.int .i64 0) 1 8 Tryz.underlying23 hi hz0 hz1 hz2 rfl (by decide) _ _ _ h2 ⟨w.heap.size, 0, none⟩ 1 1 [.int .i64 x] rfl (cell_one_new _ _ _) (fun u hu => by rw [List.mem_singleton] at hu; subst hu; rfl) (by unfold maxLen; omega) (by omega) (Nat.zero_le _)
  obtain ⟨A', c', rfl⟩ := own_shape ho
  have row : ∀ k, (Value.slice A L.heads.length c).ownBlock = some k → lblk gl A R k := fun k hk => .inr (.inl (own_blk hk))
  have hrowA : ∀ k, (Value.slice A L.heads.length c).ownBlock = some k → k ≠ gl := fun k hk => by obtain ⟨a, e1, rfl⟩ := own_blk hk; exact n1 a e1
  have hA' : ∀ a, A' = some a → (∃ b, A = some b ∧ a.block = b.block) ∨ a.block = w.heap.size + 1 := fun a ha => by
    rcases hat with e | e
    · rw [blk_own ha] at e
      exact .inl (own_blk e.symm)
    · rw [blk_own ha] at e
      right
      simpa using e
  have C3 : Whole w3 gl 67 _ := ((hg.block gl (by simp; omega) (fun e => hrowA gl e.symm rfl)).trans (Below.heap_alloc w _ gl hgl)).trans h.cells
  have LE : LogE (w3.setCell ⟨gl, 4, none⟩ (.slice A' (L.heads.length + 1) c')) gl gd { L with heads := L.heads ++ [x] } A' c' R d := by
    refine ⟨?_, ?_, ?_⟩
    · have := C3.store 4 (.slice A' (L.heads.length + 1) c')
      show Whole _ gl 67 #[.pointer (some ⟨gd, 0, none⟩), sV L.nm, .int .i64 L.per, .int .i64 L.least, .slice A' (L.heads ++ [x]).length c', .slice R L.recs.length d, .bool L.torn, .int .i64 L.syn, .bool L.fail]
      rw [List.length_append]
      exact this
    · have : (L.heads ++ [x]).map (Value.int .i64) = L.heads.map (Value.int .i64) ++ [.int .i64 x] := by simp
      show World.ownsRow _ 0 3 1 (.slice A' (L.heads ++ [x]).length c') (L.heads ++ [x]).length _
      rw [this, List.length_append]
      refine own_same ho fun k hk => Below.heap_setCell w3 _ _ k fun e => ?_
      obtain ⟨cs, q⟩ := own_type ho hk
      have e' : k = gl := e
      rw [e'] at q
      exact absurd (whole_type q C3) (by decide)
    · refine own_same h.recs fun k hk => ?_
      obtain ⟨a, e1, rfl⟩ := own_blk hk
      have hlt : a.block < w.heap.size := by obtain ⟨cs, q⟩ := own_type h.recs hk; exact q.inside
      exact old_heap hg 4 _ hlt (n2 a e1) (fun e => by obtain ⟨b, e2, e3⟩ := own_blk e.symm; exact n3 b a e2 e1 e3.symm)
  refine ⟨A', c', w3, hr, C3.read 4, C3.soft 4, LE, ⟨A', c', R, d, LE, fun k hk => ?_⟩, ?_, ?_, ?_⟩
  · rcases hk with rfl | ⟨a, e1, rfl⟩ | ⟨a, e1, rfl⟩
    · exact .inl (.inl rfl)
    · rcases hA' a e1 with ⟨b, e2, e3⟩ | e3
      · exact .inl (.inr (.inl ⟨b, e2, e3⟩))
      · exact .inr (by omega)
    · exact .inl (.inr (.inr ⟨a, e1, rfl⟩))
  · exact (push_end h hD hB hlb hg row 4 _).1
  · exact (push_end h hD hB hlb hg row 4 _).2.1
  · exact (push_end h hD hB hlb hg row 4 _).2.2
set_option maxRecDepth 100000 in
set_option maxHeartbeats 4000000 in
theorem take_empty (G : GoodL L) (hn : nextN L ≤ 1125899906842624) (hr : L.recs.length ≤ 500000000) (hh : L.heads.length ≤ 1000) (GD : GoodD D) (hF : D.F.length ≤ 1000) (hE : EnvB B w) (h : LogE w gl gd L A c R d) (hD : DiskB w B gd D) (hlb : ∀ k, lblk gl A R k → B ≤ k) (k : Int) (k0 : 0 ≤ k) (k1 : k ≤ 1000) (hz : L.heads = []) :
    Calls Tryz.prog 33 #[.pointer (some ⟨gl, 0, none⟩), .int .i64 k] w fun e w' => e = .returned (.bool (takeB L D k)) ∧ LTurn B gl gd A R (if takeB L D k = true then takeV L D k else L) D w w' := by
  have hB := hE.le
  have hgl := hlb gl (.inl rfl)
  have HLB := Lib.hid hlb
  have H0 := Lib.hid h
  have HD0 := Lib.hid hD
  have HF : Hid (∀ w1, Below w.heap.size w w1 → Calls Tryz.prog 18 #[.pointer (some ⟨gl, 0, none⟩)] w1 fun e w' => e = .returned (.int .i64 (L.heads.length : Int)) ∧ Below w1.heap.size w1 w') := Lib.hid fun w1 b => files_any (h.below b)
  have HNF : Hid (∀ w1, Below w.heap.size w w1 → Calls Tryz.prog 57 #[.pointer (some ⟨gl, 0, none⟩)] w1 fun e w' => e = .returned (.int .i64 (nextF L)) ∧ Below w1.heap.size w1 w') := Lib.hid fun w1 b => nextFile_any G (h.below b)
  have hfl : (fn L.nm k).length ≤ 100000 := by have := fn_len (nm := L.nm) k0 (by omega); have := G.len; omega
  have HFi : Hid (∀ w1, Below w.heap.size w w1 → Calls Tryz.prog 36 #[.pointer (some ⟨gl, 0, none⟩), .int .i64 k] w1 fun e w' => e = .returned (sV (fn L.nm k)) ∧ Below w1.heap.size w1 w') := Lib.hid fun w1 b => file_any G.len k k0 (by omega) (h.below b) (hE.below b).env
  have HRd : Hid (∀ w1, Below w.heap.size w w1 → Calls Tryz.prog 58 #[.pointer (some ⟨gd, 0, none⟩), sV (fn L.nm k)] w1 fun e w' => e = .returned (.tuple #[sV (readV D (fn L.nm k)), .int .i64 (readE D (fn L.nm k))]) ∧ Below w1.heap.size w1 w') := Lib.hid fun w1 b => readB' _ hfl (hD.below b)
  have hrv := rv_le GD (fn L.nm k)
  have HPa : Hid (∀ w1, Calls Tryz.prog 59 #[sV (readV D (fn L.nm k))] w1 fun e w' => ∃ A c, e = .returned (.tuple #[.slice A (frsV (readV D (fn L.nm k))).1.length c, .bool (decide ((frsV (readV D (fn L.nm k))).2 < (readV D (fn L.nm k)).length))]) ∧ OwnS w' w1.heap.size (.slice A (frsV (readV D (fn L.nm k))).1.length c) (frsV (readV D (fn L.nm k))).1 ∧ Below w1.heap.size w1 w') := Lib.hid fun w1 => parse_any _ (by omega) w1
  have hfl1 : (frsV (readV D (fn L.nm k))).1.length ≤ 262144 := Nat.le_trans (frsF_len _ _) hrv
  have HTB : Hid (takeB L D k = if L.heads ≠ [] ∧ k ≠ nextF L then false else match (frsV (readV D (fn L.nm k))).1 with | [] => false | t :: _ => headB L t) := Lib.hid rfl
  have HTV : Hid (takeV L D k = { L with least := if L.heads = [] then k else L.least, heads := L.heads ++ [headV L ((frsV (readV D (fn L.nm k))).1.head?.getD [])], recs := L.recs ++ (frsV (readV D (fn L.nm k))).1.tail, torn := decide ((frsV (readV D (fn L.nm k))).2 < (readV D (fn L.nm k)).length) }) := Lib.hid rfl
  have HHd : Hid (∀ t, t.length ≤ 100000 → ∀ w1, Below w.heap.size w w1 → Calls Tryz.prog 60 #[.pointer (some ⟨gl, 0, none⟩), sV t] w1 fun e w' => e = .returned (.tuple #[.int .i64 (headV L t), .bool (headB L t)]) ∧ Below w1.heap.size w1 w') := Lib.hid fun t ht w1 b => head_any G hn t ht (h.below b)
  have hfs2 : Hid (∀ t ∈ (frsV (readV D (fn L.nm k))).1, t.length ≤ 4096) := Lib.hid fun t ht => frsF_4096 _ _ t ht
  have HT0 : Hid (∀ w1, Below w.heap.size w w1 → LTurn B gl gd A R L D w w1) := Lib.hid fun w1 b => lturn_of (h.below b) (hD.below b) (wt_below b _) (b.mono hB)
  have c0x : Hid (∀ w1, Below w.heap.size w w1 → w1.cell? ⟨gl, 0, none⟩ = some (.pointer (some ⟨gd, 0, none⟩)) ∧ w1.frozen? ⟨gl, 0, none⟩ = false) := Lib.hid fun w1 b => ⟨(h.below b).cells.read 0, (h.below b).cells.soft 0⟩
  have hnf0 : 0 ≤ nextF L := by have := G.lo; unfold nextF; omega
  have HSE := Lib.hid (show Below w.heap.size w w from Below.refl _ _)
  clear h hD hE G GD hF hfl hn
  generalize takeB L D k = tb0 at HTB ⊢
  generalize takeV L D k = tv at HTV ⊢
  obtain ⟨M, hM⟩ : ∃ M, (if tb0 = true then tv else L) = M := ⟨_, rfl⟩
  rw [hM]
  have HMM := Lib.hid hM
  clear hM
  generalize fn L.nm k = fname at HFi HRd HPa hrv hfl1 HTB HTV hfs2
  generalize readE D fname = re at HRd
  generalize readV D fname = rv at HRd HPa hrv hfl1 HTB HTV hfs2
  generalize decide ((frsV rv).2 < rv.length) = tb at HPa HTV
  generalize (frsV rv).1 = TX at HPa hfl1 HTB HTV hfs2
  generalize nextF L = nf at HNF HTB hnf0
  have hzl : L.heads.length = 0 := by rw [hz]; rfl
  rw [hzl] at HF
  have hb := HTB.out
  rw [if_neg (by intro hx; exact hx.1 hz)] at hb
  rw [if_pos hz] at HTV
  clear HNF HTB hnf0
  go_enter Tryz.func33, Tryz.ntmps33
  go_upto_region 3 with ((go_at_call 18; refine (HF.out _ (Below.refl _ _)).mono ?_; rintro e w1 ⟨rfl, b1⟩; have B1 := Lib.hid b1; clear b1))
  have c0y : ∀ x : Since w, x.1.cell? ⟨gl, 0, none⟩ = some (.pointer (some ⟨gd, 0, none⟩)) := fun x => (c0x.out _ x.2).1
  have f0y : ∀ x : Since w, x.1.frozen? ⟨gl, 0, none⟩ = false := fun x => (c0x.out _ x.2).2
  refine region_since w (by kernel_rfl) (by kernel_rfl) B1.out ?_
  repeat (go_big_quiet_step ((first
    | (go_at_call 36; with_reducible exact since_callW HFi.out _)
    | (go_at_call 58; with_reducible exact since_callW HRd.out _))))
  refine wpQuiet_nil ?_
  rintro w3 ⟨z, rfl⟩
  have B3 := Lib.hid z.2
  obtain ⟨w4, hw4⟩ : ∃ w4, w4 = z.1 := ⟨_, rfl⟩
  rw [← hw4] at B3 ⊢
  clear hw4 z c0y f0y HFi HRd
  have hs4 := B3.out.size
  cases TX with
  | nil =>
    subst hb
    go_wp2_with (go_at_call 59; refine (HPa.out _).mono ?_; rintro e w5 ⟨TA, tc, rfl, o5, b5⟩; have O5 := Lib.hid o5; have B5 := Lib.hid (then_below B3.out b5); have hs5 := b5.size; clear o5 b5)
    go_ret
    obtain rfl : L = M := by have := HMM.out; rwa [if_neg (by simp)] at this
    exact ⟨rfl, HT0.out _ B5.out⟩
  | cons t0 TT =>
    have ht0 := hfs2.out t0 (by simp)
    have HH := Lib.hid (HHd.out t0 (by omega))
    have hb2 : tb0 = headB L t0 := hb
    clear hb HHd
    have hlenq : (((t0 :: TT).length : Int) == 0) = false := by simp; omega
    have hlen1 : 1 ≤ (t0 :: TT).length := by simp
    have HTail : Hid ((t0 :: TT).tail = TT) := Lib.hid rfl
    have HHead : Hid ((t0 :: TT).head?.getD [] = t0) := Lib.hid rfl
    have HLen : Hid ((t0 :: TT).length = TT.length + 1) := Lib.hid rfl
    have HX0 : Hid ((t0 :: TT)[0]? = some t0) := Lib.hid rfl
    have HXd : Hid (∀ j, (t0 :: TT)[j + 1]? = TT[j]?) := Lib.hid fun j => rfl
    rw [HHead.out, HTail.out] at HTV
    clear hfs2 HHead HTail
    generalize hTX : t0 :: TT = TX at *
    generalize headB L t0 = hbb at HH hb2
    generalize headV L t0 = hv at HH HTV
    cases hbb
    · subst hb2
      go_upto_region 7 with (go_at_call 59; refine (HPa.out _).mono ?_; rintro e w5 ⟨TA, tc, rfl, o5, b5⟩; have O5 := Lib.hid o5; have B5 := Lib.hid (then_below B3.out b5); have hs5 := b5.size; clear o5 b5)
      obtain ⟨gt, hTA, -, hct⟩ := own_at O5.out (k := 0) (x := sV t0) (by rw [List.getElem?_map, HX0.out]; rfl)
      subst hTA
      clear hTX
      generalize TX.length = tm at *
      go_wp2_with (go_at_call 60; refine (HH.out _ B5.out).mono ?_; rintro e w6 ⟨rfl, b6⟩; have B6 := Lib.hid (then_below B5.out b6); clear b6)
      go_ret
      obtain rfl : L = M := by have := HMM.out; rwa [if_neg (by simp)] at this
      exact ⟨rfl, HT0.out _ B6.out⟩
    · subst hb2
      have HM2 : Hid (M = tv) := Lib.hid (by have := HMM.out; rw [if_pos rfl] at this; exact this.symm)
      clear HMM
      go_upto_region 7 with (go_at_call 59; refine (HPa.out _).mono ?_; rintro e w5 ⟨TA, tc, rfl, o5, b5⟩; have O5 := Lib.hid o5; have B5 := Lib.hid (then_below B3.out b5); have hs5 := b5.size; clear o5 b5)
      obtain ⟨gt, hTA, hgt, hct⟩ := own_at O5.out (k := 0) (x := sV t0) (by rw [List.getElem?_map, HX0.out]; rfl)
      subst hTA
      clear hTX
      have hgt2 : w.heap.size ≤ gt := Nat.le_trans hs4 (O5.out.lt gt rfl).1
      have hslice := slice_one gt TX.length tc hlen1 (by have := (own_holds' O5.out).1; omega) (by have := (own_holds' O5.out).2; omega)
      obtain ⟨at2, tc2, hat, hsl⟩ := hslice
      have HSl := Lib.hid hsl
      have Hat := Lib.hid hat
      clear hsl hat
      go_upto_region 11 with (first
        | (go_at_call 60; refine (HH.out _ B5.out).mono ?_; rintro e w6 ⟨rfl, b6⟩; have B6 := Lib.hid (then_below B5.out b6); have O6 := Lib.hid (own_below O5.out b6); clear b6)
        | (go_at_call 18; refine (HF.out _ B6.out).mono ?_; rintro e w7 ⟨rfl, b7⟩; have B7 := Lib.hid (then_below B6.out b7); have O7 := Lib.hid (own_below O6.out b7); clear b7))
      have L7 := Lib.hid (H0.out.below B7.out)
      have T7 := Lib.hid (HT0.out _ B7.out)
      have hz7 : w.heap.size ≤ w7.heap.size := B7.out.size
      have hB7 : B ≤ w7.heap.size := Nat.le_trans hB hz7
      have hglt := H0.out.cells.inside
      have hRlt : ∀ a, R = some a → a.block < w.heap.size := fun a ha => H0.out.inside (.inr (.inr ⟨a, ha, rfl⟩))
      have hAlt : ∀ a, A = some a → a.block < w.heap.size := fun a ha => H0.out.inside (.inr (.inl ⟨a, ha, rfl⟩))
      have hnot : ¬ lblk gl A R gt := fun hx => by
        have := H0.out.inside hx
        omega
      have c3 : w7.cell? ⟨gl, 3, none⟩ = some (.int .i64 L.least) := L7.out.cells.read 3
      have f3 : w7.frozen? ⟨gl, 3, none⟩ = false := L7.out.cells.soft 3
      obtain ⟨l8, g8⟩ := L7.out.set 3 (.int .i64 k) { L with least := k } rfl rfl rfl
      have L8 := Lib.hid l8
      have T8 := Lib.hid (T7.out.own_set hB hgl (fun j hj => .inl hj) L7.out l8 g8)
      have O8 := Lib.hid (own_same O7.out fun j hj => g8.block j (by obtain ⟨cs, q⟩ := own_type O7.out hj; exact q.inside) fun e => by
        have e2 : gl = j := (Option.some.inj e).symm
        subst e2
        obtain ⟨cs, q⟩ := own_type O7.out hj
        exact absurd (whole_type q L7.out.cells) (by decide))
      have hz8 : w7.heap.size ≤ (w7.setCell ⟨gl, 3, none⟩ (.int .i64 k)).heap.size := g8.size
      clear l8 g8
      go_upto_region 12 with fail
      generalize w7.setCell ⟨gl, 3, none⟩ (.int .i64 k) = w8 at L8 T8 O8 hz8 ⊢
      clear c3 f3
      obtain ⟨A2, c2, w9, hap, c4, f4, l10, t10⟩ := push_heads2 L8.out T8.out.disk (Nat.le_trans hB7 hz8) HLB.out hv (by show L.heads.length ≤ 100000; omega)
      dsimp only at hap c4 f4 l10 t10
      clear hz hzl
      have c4x : w8.cell? ⟨gl, 4, none⟩ = some (.slice A L.heads.length c) := L8.out.cells.read 4
      have f4x : w8.frozen? ⟨gl, 4, none⟩ = false := L8.out.cells.soft 4
      have L10 := Lib.hid l10
      have T10 := Lib.hid t10
      clear l10 t10
      go_upto_region 13 with (at_builtin; refine wpList_append_run rfl _ _ 23 23 rfl rfl rfl hap ?_)
      have hblt : gt < w8.heap.size := Nat.lt_of_lt_of_le (O7.out.lt gt rfl).2 hz8
      have O10 := Lib.hid (own_same O8.out fun j hj => by
        obtain ⟨cs, q⟩ := own_type O8.out hj
        have e2 : gt = j := by simpa [Value.ownBlock] using hj
        subst e2
        exact (Whole.wt q T10.out.wt hnot (by decide) (by decide)).trans q.symm)
      generalize w9.setCell ⟨gl, 4, none⟩ (.slice A2 (L.heads.length + 1) c2) = wx at L10 T10 O10 ⊢
      clear hap c4 f4 c4x f4x
      have hzx : w8.heap.size ≤ wx.heap.size := T10.out.wt.size
      have LC := Lib.hid L10.out.cells
      have HR0 : Hid (RE wx gl R (fun v => #[.pointer (some ⟨gd, 0, none⟩), sV L.nm, .int .i64 L.per, .int .i64 k, .slice A2 (L.heads ++ [hv]).length c2, v, .bool L.torn, .int .i64 L.syn, .bool L.fail]) wx) := Lib.hid ⟨fun _ => rfl, fun _ _ => rfl, (row_ne L10.out).2.1, rfl, rfl, rfl, Nat.le_refl _, by omega, fun a ha => by have := hRlt a ha; omega, fun _ _ _ _ => rfl, ⟨_, L10.out.cells⟩⟩
      have HO4 : Hid (wx.cell? ⟨gl, 5, none⟩ = some (.slice R L.recs.length d)) := Lib.hid (L10.out.cells.read 5)
      have HO7 : Hid (OwnD R d L.recs.length L.recs wx) := Lib.hid L10.out.recs
      have HAdd : Hid (∀ w7, RE wx gl R (fun v => #[.pointer (some ⟨gd, 0, none⟩), sV L.nm, .int .i64 L.per, .int .i64 k, .slice A2 (L.heads ++ [hv]).length c2, v, .bool L.torn, .int .i64 L.syn, .bool L.fail]) w7 → OwnD R d L.recs.length L.recs w7 → ∃ v' w', (Builtin.append_ #[45, 45] 45 #[.slice R L.recs.length d, .slice (some at2) (TX.length - 1) tc2]).run Tryz.prog w7 = .ok v' w' ∧ RE wx gl R (fun v => #[.pointer (some ⟨gd, 0, none⟩), sV L.nm, .int .i64 L.per, .int .i64 k, .slice A2 (L.heads ++ [hv]).length c2, v, .bool L.torn, .int .i64 L.syn, .bool L.fail]) w' ∧ AddR wx R (L.recs.length + TT.length) (L.recs ++ TT) v' w' ∧ w7.grownBy w' (Value.slice R L.recs.length d).ownBlock) := Lib.hid fun w7 hre hown => by
        have hl2 : TX.length - 1 = TT.length := by have := HLen.out; omega
        rw [hl2]
        refine add_run hre hown (by omega) (by have := HLen.out; omega) fun j u hj => ?_
        have hjl : j < TT.length := by have := (List.getElem?_eq_some_iff.1 hj).1; simpa using this
        have ha2 := Hat.out (by have := HLen.out; omega)
        obtain ⟨g2, hg2, hg2l, hg2c⟩ := own_at O10.out (k := j + 1) (x := u) (by rw [List.getElem?_map, HXd.out, ← List.getElem?_map]; exact hj)
        injection hg2 with hg2
        injection hg2 with hg2
        subst hg2
        have hadd : (at2.add j) = ⟨gt, j + 1, none⟩ := by
          rw [ha2]
          cases j with
          | zero => rfl
          | succ j => simp [Addr.add]; omega
        rw [hadd]
        exact (World.cell?_of_block (a := ⟨gt, j + 1, none⟩) (hre.old gt hg2l (fun e => by omega) (fun a ha e => by have := hRlt a ha; omega))).trans hg2c
      have HFin : Hid (∀ w7, RE wx gl R (fun v => #[.pointer (some ⟨gd, 0, none⟩), sV L.nm, .int .i64 L.per, .int .i64 k, .slice A2 (L.heads ++ [hv]).length c2, v, .bool L.torn, .int .i64 L.syn, .bool L.fail]) w7 → AddF wx gl R (L.recs.length + TT.length) (L.recs ++ TT) (fun v => #[.pointer (some ⟨gd, 0, none⟩), sV L.nm, .int .i64 L.per, .int .i64 k, .slice A2 (L.heads ++ [hv]).length c2, v, .bool L.torn, .int .i64 L.syn, .bool L.fail]) w7 →
          w7.cell? ⟨gl, 6, none⟩ = some (.bool L.torn) ∧ w7.frozen? ⟨gl, 6, none⟩ = false ∧ LTurn B gl gd A R M D w (w7.setCell ⟨gl, 6, none⟩ (.bool tb))) := Lib.hid fun w7 hre ⟨A3, c3, q1, q2, q3⟩ => by
        have old : ∀ j, j < wx.heap.size → ¬ lblk gl A2 R j → w7.heap[j]? = wx.heap[j]? := fun j hj hne => hre.old j hj (fun e => hne (.inl e)) (fun a ha e => hne (.inr (.inr ⟨a, ha, e⟩)))
        have hi8 : ∀ j, lblk gl A2 R j → lblk gl A R j ∨ w8.heap.size ≤ j := fun j hj => by
          obtain ⟨A4, c4, R4, d4, k1, k2⟩ := T10.out.log
          have e1 := k1.cells
          have e2 := L10.out.cells
          have e3 := whole_cells2 e1 e2
          obtain ⟨e4, e5⟩ := e3
          rw [← e4, ← e5] at hj
          exact k2 j hj
        have hlb2 : ∀ j, lblk gl A2 R j → B ≤ j := fun j hj => by
          rcases hi8 j hj with q | q
          · exact HLB.out j q
          · omega
        obtain ⟨u1, u2, u3⟩ := frame_old L10.out T10.out.disk hlb2 hre.os hre.tape hre.output hre.size (by omega) old
        have LE : LogE w7 gl gd { L with least := k, heads := L.heads ++ [hv], recs := L.recs ++ TT } A2 c2 A3 c3 := by
          have hlen3 : (L.recs ++ TT).length = L.recs.length + TT.length := List.length_append
          refine ⟨?_, own_same L10.out.heads fun j hj => ?_, ?_⟩
          · show Whole w7 gl _ #[.pointer (some ⟨gd, 0, none⟩), sV L.nm, .int .i64 L.per, .int .i64 k, .slice A2 (L.heads ++ [hv]).length c2, .slice A3 (L.recs ++ TT).length c3, .bool L.torn, .int .i64 L.syn, .bool L.fail]
            rw [hlen3]
            exact q1
          · obtain ⟨a, ha, rfl⟩ := own_blk hj
            obtain ⟨m1, m2, m3⟩ := row_ne L10.out
            exact hre.old a.block (L10.out.inside (.inr (.inl ⟨a, ha, rfl⟩))) (m1 a ha) (fun b hb e => m3 a b ha hb e)
          · show w7.ownsRow 0 9 1 (.slice A3 (L.recs ++ TT).length c3) (L.recs ++ TT).length _
            rw [hlen3]
            exact q2
        obtain ⟨v1, v2⟩ := LE.set 6 (.bool tb) { L with least := k, heads := L.heads ++ [hv], recs := L.recs ++ TT, torn := tb } rfl rfl rfl
        have hM : M = { L with least := k, heads := L.heads ++ [hv], recs := L.recs ++ TT, torn := tb } := by rw [HM2.out, HTV.out]
        rw [hM]
        have hi3 : ∀ j, lblk gl A2 A3 j → lblk gl A2 R j ∨ wx.heap.size ≤ j := fun j hj => by
          rcases hj with rfl | ⟨a, e1, rfl⟩ | ⟨a, e1, rfl⟩
          · exact .inl (.inl rfl)
          · exact .inl (.inr (.inl ⟨a, e1, rfl⟩))
          · rcases q3 a e1 with ⟨b, e2, e3⟩ | e3
            · exact .inl (.inr (.inr ⟨b, e2, e3⟩))
            · exact .inr e3
        have TA : LTurn B gl gd A2 R { L with least := k, heads := L.heads ++ [hv], recs := L.recs ++ TT } D wx w7 := ⟨⟨A2, c2, A3, c3, LE, hi3⟩, u1, u2, u3⟩
        have TB : LTurn B gl gd A2 R { L with least := k, heads := L.heads ++ [hv], recs := L.recs ++ TT, torn := tb } D wx (w7.setCell ⟨gl, 6, none⟩ (.bool tb)) := TA.own_set (by omega) hgl hi3 LE v1 v2
        exact ⟨LE.cells.read 6, LE.cells.soft 6, T8.out.then_ (fun j hj => .inl hj) (T10.out.then_ hi8 TB)⟩
      clear HTV HM2 HLen HX0 HXd Hat T8 T10 O10 LC L8 L7 T7 HLB H0 HD0 HT0 O7 O6 O5 O8 HH HF B5 B6 B7 B3 hct hnot hAlt hRlt hglt hblt c0x HPa
      generalize hC5 : (fun v => #[.pointer (some ⟨gd, 0, none⟩), sV L.nm, .int .i64 L.per, .int .i64 k, .slice A2 (L.heads ++ [hv]).length c2, v, .bool L.torn, .int .i64 L.syn, .bool L.fail] : Value → Array Value) = C5 at HR0 HAdd HFin
      clear hC5
      generalize L.recs ++ TT = N2 at HAdd HFin
      generalize L.recs.length + TT.length = M0 at HAdd HFin
      generalize L.recs.length = rl at *
      generalize L.recs = N at *
      generalize TX.length - 1 = tl2 at HSl HAdd
      generalize TX.length = tm at *
      clear L10 hlenq hlen1
      refine region_full 80 [(7, 10)] [(10, 4), (10, 7), (7, 4)] (fun k => k == 4 || k == 7 || k == 10) (RE wx gl R C5) ?hR ?r0 [pdOne 0 (Is (.pointer (some ⟨gl, 0, none⟩))), pdOne 1 (Is (.pointer (some ⟨gl, 0, none⟩))), pdOne 2 (Is (.pointer (some ⟨gl, 0, none⟩))), pdOne 3 (Is (.pointer (some ⟨gl, 5, none⟩))), pdOne 4 (Is (.slice R rl d)), pdOne 5 (Is (.slice (some ⟨gt, 0, none⟩) tm tc)), pdOne 6 (Is (.slice (some at2) tl2 tc2)), pdOne 7 (AddR wx R M0 N2), pdOne 8 (Is (.pointer (some ⟨gl, 0, none⟩))), pdOne 9 (Is (.pointer (some ⟨gl, 5, none⟩))), pdOne 10 (fun _ w => AddF wx gl R M0 N2 C5 w)] (fun k w7 => (k = 4 → w7.cell? ⟨gl, 5, none⟩ = some (.slice R rl d)) ∧ (k = 7 → OwnD R d rl N w7) ∧ (k = 10 → True)) (by kernel_rfl) rfl (by kernel_rfl) (by kernel_rfl) (by kernel_rfl) (by kernel_rfl) ?keep ?hO ?h0 ?tell
      case hR => exact fun _ _ hb h => RE.below h hb
      case r0 => exact HR0.out
      case keep => exact ⟨keep_one (keeps_is _), keep_one (keeps_is _), keep_one (keeps_is _), keep_one (keeps_is _), keep_one (keeps_is _), keep_one (keeps_is _), keep_one (keeps_is _), keep_one (keeps_addR _ _ _ _), keep_one (keeps_is _), keep_one (keeps_is _), keep_one (fun _ _ _ hb h => AddF.below h hb), trivial⟩
      case hO => exact fun k w7 w8 hb ⟨q1, q2, q3⟩ => ⟨fun e => (hb.cell (p := ⟨gl, 5, none⟩) (cell_lt (q1 e))).trans (q1 e), fun e => OwnD.below (q2 e) hb, q3⟩
      case h0 => exact fun _ _ => ⟨fun _ => HO4.out, fun _ => HO7.out, fun _ => trivial⟩
      case tell =>
        intro fin hfin
        simp [lexPut, Act.put] at hfin
        simp only [TellF]
        refine ⟨⟨?_, ?_, ?_, ?_, ?_, ?_, ?_, ?_, ?_, ?_, ?_, trivial⟩, ?_⟩
        · intro v w7 hr hd
          refine yields_run (u := .pointer (some ⟨gl, 0, none⟩)) (w' := w7) ?_ (Below.refl _ _) rfl
          unfold execOp
          simp [go_sem, Act.eval]
        · intro v w7 hr hd
          refine yields_run (u := .pointer (some ⟨gl, 0, none⟩)) (w' := w7) ?_ (Below.refl _ _) rfl
          unfold execOp
          simp [go_sem, Act.eval, Act.put]
        · intro v w7 hr hd
          have h1 : v 1 = _ := hd 1 (by kernel_rfl)
          refine yields_run (u := .pointer (some ⟨gl, 0, none⟩)) (w' := w7) ?_ (Below.refl _ _) rfl
          unfold execOp
          simp [go_sem, Act.eval, Act.put, h1]
        · intro v w7 hr hd
          have h2 : v 2 = _ := hd 2 (by kernel_rfl)
          refine yields_run (u := .pointer (some ⟨gl, 5, none⟩)) (w' := w7) ?_ (Below.refl _ _) rfl
          unfold execOp
          simp [go_sem, Act.eval, Act.put, h2]
        · intro v w7 hr ho hd
          have h3 : v 3 = _ := hd 3 (by kernel_rfl)
          have c5 := ho.1 trivial
          refine .inl (.inl ⟨.slice R rl d, w7, ?_, hr, fun _ _ _ _ hu => hu, fun _ _ _ _ hu => hu, rfl⟩)
          unfold execOp
          simp [go_sem, Act.eval, Act.put, h3, c5]
        · intro v w7 hr hd
          refine yields_run (u := .slice (some ⟨gt, 0, none⟩) tm tc) (w' := w7) ?_ (Below.refl _ _) rfl
          unfold execOp
          simp [go_sem, Act.eval, Act.put]
        · intro v w7 hr hd
          have h5 : v 5 = _ := hd 5 (by kernel_rfl)
          have hsl := HSl.out w7
          refine yields_run (u := .slice (some at2) tl2 tc2) (w' := w7) ?_ (Below.refl _ _) rfl
          unfold execOp
          simp only [Act.eval, Act.put, h5, Sem.run_bind]
          simp [go_sem, Act.eval, Act.put, h5, hsl]
        · intro v w7 hr ho hd
          have h4 : v 4 = _ := hd 4 (by kernel_rfl)
          have h6 : v 6 = _ := hd 6 (by kernel_rfl)
          obtain ⟨v9, w9, hr9, hre9, hadd9, hg9⟩ := HAdd.out w7 hr (ho.2.1 trivial)
          refine .inl (yieldsW_append (v := .slice R rl d) (y := .slice (some at2) tl2 tc2) rfl (by simp [Act.eval, Act.put, h4, h6]) (by simp [Act.eval, Act.put, h4, h6]) hr9 ⟨hre9, ?_, ?_, hadd9⟩)
          · intro k2 v' hk2 hc hu
            exact match k2, hk2, hc, hu with
              | 0, hk2, hc, hu => hu
              | 1, hk2, hc, hu => hu
              | 2, hk2, hc, hu => hu
              | 3, hk2, hc, hu => hu
              | 4, hk2, hc, hu => hu
              | 5, hk2, hc, hu => hu
              | 6, hk2, hc, hu => hu
              | 7, hk2, hc, hu => absurd rfl hk2
              | 8, hk2, hc, hu => hu
              | 9, hk2, hc, hu => hu
              | 10, hk2, hc, hu => absurd hc (by decide)
              | _ + 11, _, _, _ => trivial
          · intro k2 hk2 hn hc2 ⟨h1, h2, h3⟩
            exact ⟨fun e => by subst e; exact absurd hc2 (by decide), fun e => absurd e hk2, fun _ => trivial⟩
        · intro v w7 hr hd
          have h0 : v 0 = _ := hd 0 (by kernel_rfl)
          refine yields_run (u := .pointer (some ⟨gl, 0, none⟩)) (w' := w7) ?_ (Below.refl _ _) rfl
          unfold execOp
          simp [go_sem, Act.eval, Act.put, h0]
        · intro v w7 hr hd
          have h8 : v 8 = _ := hd 8 (by kernel_rfl)
          refine yields_run (u := .pointer (some ⟨gl, 5, none⟩)) (w' := w7) ?_ (Below.refl _ _) rfl
          unfold execOp
          simp [go_sem, Act.eval, Act.put, h8]
        · intro v w7 hr ho hd
          have h9 : v 9 = _ := hd 9 (by kernel_rfl)
          obtain ⟨A2, c2, h7, hown, hA2⟩ : AddR wx R M0 N2 (v 7) w7 := hd 7 (by kernel_rfl)
          obtain ⟨v5, c5⟩ := hr.get5
          have f5 := hr.soft5
          refine .inr ⟨w7.setCell ⟨gl, 5, none⟩ (.slice A2 M0 c2), ?_, hr.store _, ?_, fun k hk hn hc => ?_, AddF.made hr hown hA2⟩
          · unfold execOp
            simp [go_sem, Act.eval, Act.put, h9, h7, c5, f5]
          · intro k2 v' hk2 hc hu
            exact match k2, hk2, hc, hu with
              | 0, hk2, hc, hu => hu
              | 1, hk2, hc, hu => hu
              | 2, hk2, hc, hu => hu
              | 3, hk2, hc, hu => hu
              | 4, hk2, hc, hu => hu
              | 5, hk2, hc, hu => hu
              | 6, hk2, hc, hu => hu
              | 7, hk2, hc, hu => AddR.store hu hr.cells
              | 8, hk2, hc, hu => hu
              | 9, hk2, hc, hu => hu
              | 10, hk2, hc, hu => absurd rfl hk2
              | _ + 11, _, _, _ => trivial
          · have hk4 : k = 4 ∨ k = 7 ∨ k = 10 := by simpa [or_assoc] using hn
            rcases hk4 with rfl | rfl | rfl
            · exact absurd hc (by decide)
            · exact absurd hc (by decide)
            · exact absurd rfl hk
        · intro v w7 hr hv7
          have hF : AddF wx gl R M0 N2 C5 w7 := hv7 10 (by simp)
          obtain ⟨c6, f6, t11⟩ := HFin.out w7 hr hF
          have T11 := Lib.hid t11
          rw [hfin]
          clear hfin hv7 hr hF t11 HFin HAdd HR0 HO4 HO7 HSl
          generalize v 7 = v7
          go_wp2_with fail
          go_ret
          exact ⟨rfl, T11.out⟩

set_option maxRecDepth 100000 in
set_option maxHeartbeats 4000000 in
theorem take_full (G : GoodL L) (hn : nextN L ≤ 1125899906842624) (hr : L.recs.length ≤ 500000000) (hh : L.heads.length ≤ 1000) (GD : GoodD D) (hF : D.F.length ≤ 1000) (hE : EnvB B w) (h : LogE w gl gd L A c R d) (hD : DiskB w B gd D) (hlb : ∀ k, lblk gl A R k → B ≤ k) (k : Int) (k0 : 0 ≤ k) (k1 : k ≤ 1000) (hz : ¬ L.heads = []) :
    Calls Tryz.prog 33 #[.pointer (some ⟨gl, 0, none⟩), .int .i64 k] w fun e w' => e = .returned (.bool (takeB L D k)) ∧ LTurn B gl gd A R (if takeB L D k = true then takeV L D k else L) D w w' := by
  have hB := hE.le
  have hgl := hlb gl (.inl rfl)
  have HLB := Lib.hid hlb
  have H0 := Lib.hid h
  have HD0 := Lib.hid hD
  have HF : Hid (∀ w1, Below w.heap.size w w1 → Calls Tryz.prog 18 #[.pointer (some ⟨gl, 0, none⟩)] w1 fun e w' => e = .returned (.int .i64 (L.heads.length : Int)) ∧ Below w1.heap.size w1 w') := Lib.hid fun w1 b => files_any (h.below b)
  have HNF : Hid (∀ w1, Below w.heap.size w w1 → Calls Tryz.prog 57 #[.pointer (some ⟨gl, 0, none⟩)] w1 fun e w' => e = .returned (.int .i64 (nextF L)) ∧ Below w1.heap.size w1 w') := Lib.hid fun w1 b => nextFile_any G (h.below b)
  have hfl : (fn L.nm k).length ≤ 100000 := by have := fn_len (nm := L.nm) k0 (by omega); have := G.len; omega
  have HFi : Hid (∀ w1, Below w.heap.size w w1 → Calls Tryz.prog 36 #[.pointer (some ⟨gl, 0, none⟩), .int .i64 k] w1 fun e w' => e = .returned (sV (fn L.nm k)) ∧ Below w1.heap.size w1 w') := Lib.hid fun w1 b => file_any G.len k k0 (by omega) (h.below b) (hE.below b).env
  have HRd : Hid (∀ w1, Below w.heap.size w w1 → Calls Tryz.prog 58 #[.pointer (some ⟨gd, 0, none⟩), sV (fn L.nm k)] w1 fun e w' => e = .returned (.tuple #[sV (readV D (fn L.nm k)), .int .i64 (readE D (fn L.nm k))]) ∧ Below w1.heap.size w1 w') := Lib.hid fun w1 b => readB' _ hfl (hD.below b)
  have hrv := rv_le GD (fn L.nm k)
  have HPa : Hid (∀ w1, Calls Tryz.prog 59 #[sV (readV D (fn L.nm k))] w1 fun e w' => ∃ A c, e = .returned (.tuple #[.slice A (frsV (readV D (fn L.nm k))).1.length c, .bool (decide ((frsV (readV D (fn L.nm k))).2 < (readV D (fn L.nm k)).length))]) ∧ OwnS w' w1.heap.size (.slice A (frsV (readV D (fn L.nm k))).1.length c) (frsV (readV D (fn L.nm k))).1 ∧ Below w1.heap.size w1 w') := Lib.hid fun w1 => parse_any _ (by omega) w1
  have hfl1 : (frsV (readV D (fn L.nm k))).1.length ≤ 262144 := Nat.le_trans (frsF_len _ _) hrv
  have HTB : Hid (takeB L D k = if L.heads ≠ [] ∧ k ≠ nextF L then false else match (frsV (readV D (fn L.nm k))).1 with | [] => false | t :: _ => headB L t) := Lib.hid rfl
  have HTV : Hid (takeV L D k = { L with least := if L.heads = [] then k else L.least, heads := L.heads ++ [headV L ((frsV (readV D (fn L.nm k))).1.head?.getD [])], recs := L.recs ++ (frsV (readV D (fn L.nm k))).1.tail, torn := decide ((frsV (readV D (fn L.nm k))).2 < (readV D (fn L.nm k)).length) }) := Lib.hid rfl
  have HHd : Hid (∀ t, t.length ≤ 100000 → ∀ w1, Below w.heap.size w w1 → Calls Tryz.prog 60 #[.pointer (some ⟨gl, 0, none⟩), sV t] w1 fun e w' => e = .returned (.tuple #[.int .i64 (headV L t), .bool (headB L t)]) ∧ Below w1.heap.size w1 w') := Lib.hid fun t ht w1 b => head_any G hn t ht (h.below b)
  have hfs2 : Hid (∀ t ∈ (frsV (readV D (fn L.nm k))).1, t.length ≤ 4096) := Lib.hid fun t ht => frsF_4096 _ _ t ht
  have HT0 : Hid (∀ w1, Below w.heap.size w w1 → LTurn B gl gd A R L D w w1) := Lib.hid fun w1 b => lturn_of (h.below b) (hD.below b) (wt_below b _) (b.mono hB)
  have c0x : Hid (∀ w1, Below w.heap.size w w1 → w1.cell? ⟨gl, 0, none⟩ = some (.pointer (some ⟨gd, 0, none⟩)) ∧ w1.frozen? ⟨gl, 0, none⟩ = false) := Lib.hid fun w1 b => ⟨(h.below b).cells.read 0, (h.below b).cells.soft 0⟩
  have hnf0 : 0 ≤ nextF L := by have := G.lo; unfold nextF; omega
  have HSE := Lib.hid (show Below w.heap.size w w from Below.refl _ _)
  clear h hD hE G GD hF hfl hn
  generalize takeB L D k = tb0 at HTB ⊢
  generalize takeV L D k = tv at HTV ⊢
  obtain ⟨M, hM⟩ : ∃ M, (if tb0 = true then tv else L) = M := ⟨_, rfl⟩
  rw [hM]
  have HMM := Lib.hid hM
  clear hM
  generalize fn L.nm k = fname at HFi HRd HPa hrv hfl1 HTB HTV hfs2
  generalize readE D fname = re at HRd
  generalize readV D fname = rv at HRd HPa hrv hfl1 HTB HTV hfs2
  generalize decide ((frsV rv).2 < rv.length) = tb at HPa HTV
  generalize (frsV rv).1 = TX at HPa hfl1 HTB HTV hfs2
  generalize nextF L = nf at HNF HTB hnf0
  have hzn : (0 : Int) < (L.heads.length : Int) := by
    have : L.heads.length ≠ 0 := fun e => hz (List.eq_nil_of_length_eq_zero e)
    omega
  have hzq : ((L.heads.length : Int) == 0) = false := by simp; exact hz
  have hb := HTB.out
  rw [if_neg hz] at HTV
  clear HTB
  by_cases hk : k = nf
  case neg =>
    rw [if_pos ⟨hz, hk⟩] at hb
    subst hb
    have hk2 : (k != nf) = true := by simpa using hk
    clear HFi HRd HPa HHd HTV hk hz hzq
    generalize L.heads.length = n at HF hzn
    go_enter Tryz.func33, Tryz.ntmps33
    go_wp2_with (first
      | (go_at_call 18; refine (HF.out _ (Below.refl _ _)).mono ?_; rintro e w1 ⟨rfl, b1⟩; have B1 := Lib.hid b1; clear b1)
      | (go_at_call 57; refine (HNF.out _ B1.out).mono ?_; rintro e w2 ⟨rfl, b2⟩; have B2 := Lib.hid (then_below B1.out b2); clear b2))
    go_ret
    obtain rfl : L = M := by have := HMM.out; rwa [if_neg (by simp)] at this
    exact ⟨rfl, HT0.out _ B2.out⟩
  rw [if_neg (by intro hx; exact hx.2 hk)] at hb
  subst hk
  go_enter Tryz.func33, Tryz.ntmps33
  go_upto_region 3 with (first
        | (go_at_call 18; refine (HF.out _ (Below.refl _ _)).mono ?_; rintro e w1 ⟨rfl, b1⟩; have B1 := Lib.hid b1; clear b1)
        | (go_at_call 57; refine (HNF.out _ B1.out).mono ?_; rintro e w2 ⟨rfl, b2⟩; have B2 := Lib.hid (then_below B1.out b2); clear b2))
  have c0y : ∀ x : Since w, x.1.cell? ⟨gl, 0, none⟩ = some (.pointer (some ⟨gd, 0, none⟩)) := fun x => (c0x.out _ x.2).1
  have f0y : ∀ x : Since w, x.1.frozen? ⟨gl, 0, none⟩ = false := fun x => (c0x.out _ x.2).2
  refine region_since w (by kernel_rfl) (by kernel_rfl) B2.out ?_
  repeat (go_big_quiet_step ((first
    | (go_at_call 36; with_reducible exact since_callW HFi.out _)
    | (go_at_call 58; with_reducible exact since_callW HRd.out _))))
  refine wpQuiet_nil ?_
  rintro w3 ⟨z, rfl⟩
  have B3 := Lib.hid z.2
  obtain ⟨w4, hw4⟩ : ∃ w4, w4 = z.1 := ⟨_, rfl⟩
  rw [← hw4] at B3 ⊢
  clear hw4 z c0y f0y HFi HRd
  have hs4 := B3.out.size
  cases TX with
  | nil =>
    subst hb
    go_wp2_with (go_at_call 59; refine (HPa.out _).mono ?_; rintro e w5 ⟨TA, tc, rfl, o5, b5⟩; have O5 := Lib.hid o5; have B5 := Lib.hid (then_below B3.out b5); have hs5 := b5.size; clear o5 b5)
    go_ret
    obtain rfl : L = M := by have := HMM.out; rwa [if_neg (by simp)] at this
    exact ⟨rfl, HT0.out _ B5.out⟩
  | cons t0 TT =>
    have ht0 := hfs2.out t0 (by simp)
    have HH := Lib.hid (HHd.out t0 (by omega))
    have hb2 : tb0 = headB L t0 := hb
    clear hb HHd
    have hlenq : (((t0 :: TT).length : Int) == 0) = false := by simp; omega
    have hlen1 : 1 ≤ (t0 :: TT).length := by simp
    have HTail : Hid ((t0 :: TT).tail = TT) := Lib.hid rfl
    have HHead : Hid ((t0 :: TT).head?.getD [] = t0) := Lib.hid rfl
    have HLen : Hid ((t0 :: TT).length = TT.length + 1) := Lib.hid rfl
    have HX0 : Hid ((t0 :: TT)[0]? = some t0) := Lib.hid rfl
    have HXd : Hid (∀ j, (t0 :: TT)[j + 1]? = TT[j]?) := Lib.hid fun j => rfl
    rw [HHead.out, HTail.out] at HTV
    clear hfs2 HHead HTail
    generalize hTX : t0 :: TT = TX at *
    generalize headB L t0 = hbb at HH hb2
    generalize headV L t0 = hv at HH HTV
    cases hbb
    · subst hb2
      go_upto_region 7 with (go_at_call 59; refine (HPa.out _).mono ?_; rintro e w5 ⟨TA, tc, rfl, o5, b5⟩; have O5 := Lib.hid o5; have B5 := Lib.hid (then_below B3.out b5); have hs5 := b5.size; clear o5 b5)
      obtain ⟨gt, hTA, -, hct⟩ := own_at O5.out (k := 0) (x := sV t0) (by rw [List.getElem?_map, HX0.out]; rfl)
      subst hTA
      clear hTX
      generalize TX.length = tm at *
      go_wp2_with (go_at_call 60; refine (HH.out _ B5.out).mono ?_; rintro e w6 ⟨rfl, b6⟩; have B6 := Lib.hid (then_below B5.out b6); clear b6)
      go_ret
      obtain rfl : L = M := by have := HMM.out; rwa [if_neg (by simp)] at this
      exact ⟨rfl, HT0.out _ B6.out⟩
    · subst hb2
      have HM2 : Hid (M = tv) := Lib.hid (by have := HMM.out; rw [if_pos rfl] at this; exact this.symm)
      clear HMM
      go_upto_region 7 with (go_at_call 59; refine (HPa.out _).mono ?_; rintro e w5 ⟨TA, tc, rfl, o5, b5⟩; have O5 := Lib.hid o5; have B5 := Lib.hid (then_below B3.out b5); have hs5 := b5.size; clear o5 b5)
      obtain ⟨gt, hTA, hgt, hct⟩ := own_at O5.out (k := 0) (x := sV t0) (by rw [List.getElem?_map, HX0.out]; rfl)
      subst hTA
      clear hTX
      have hgt2 : w.heap.size ≤ gt := Nat.le_trans hs4 (O5.out.lt gt rfl).1
      have hslice := slice_one gt TX.length tc hlen1 (by have := (own_holds' O5.out).1; omega) (by have := (own_holds' O5.out).2; omega)
      obtain ⟨at2, tc2, hat, hsl⟩ := hslice
      have HSl := Lib.hid hsl
      have Hat := Lib.hid hat
      clear hsl hat
      go_upto_region 12 with (first
        | (go_at_call 60; refine (HH.out _ B5.out).mono ?_; rintro e w6 ⟨rfl, b6⟩; have B6 := Lib.hid (then_below B5.out b6); have O6 := Lib.hid (own_below O5.out b6); clear b6)
        | (go_at_call 18; refine (HF.out _ B6.out).mono ?_; rintro e w7 ⟨rfl, b7⟩; have B7 := Lib.hid (then_below B6.out b7); have O7 := Lib.hid (own_below O6.out b7); clear b7))
      have L7 := Lib.hid (H0.out.below B7.out)
      have T7 := Lib.hid (HT0.out _ B7.out)
      have hz7 : w.heap.size ≤ w7.heap.size := B7.out.size
      have hB7 : B ≤ w7.heap.size := Nat.le_trans hB hz7
      have hglt := H0.out.cells.inside
      have hRlt : ∀ a, R = some a → a.block < w.heap.size := fun a ha => H0.out.inside (.inr (.inr ⟨a, ha, rfl⟩))
      have hAlt : ∀ a, A = some a → a.block < w.heap.size := fun a ha => H0.out.inside (.inr (.inl ⟨a, ha, rfl⟩))
      have hnot : ¬ lblk gl A R gt := fun hx => by
        have := H0.out.inside hx
        omega
      obtain ⟨w8, hw8⟩ : ∃ x, x = w7 := ⟨_, rfl⟩
      have L8 : Hid (LogE w8 gl gd L A c R d) := hw8 ▸ L7
      have T8 : Hid (LTurn B gl gd A R L D w w8) := hw8 ▸ T7
      have O8 : Hid (OwnS w8 w4.heap.size (.slice (some ⟨gt, 0, none⟩) TX.length tc) TX) := hw8 ▸ O7
      have hz8 : w7.heap.size ≤ w8.heap.size := by rw [hw8]; exact Nat.le_refl _
      rw [← hw8]
      clear hw8
      obtain ⟨A2, c2, w9, hap, c4, f4, l10, t10⟩ := push_heads2 L8.out T8.out.disk (Nat.le_trans hB7 hz8) HLB.out hv (by show L.heads.length ≤ 100000; omega)
      have c4x : w8.cell? ⟨gl, 4, none⟩ = some (.slice A L.heads.length c) := L8.out.cells.read 4
      have f4x : w8.frozen? ⟨gl, 4, none⟩ = false := L8.out.cells.soft 4
      have L10 := Lib.hid l10
      have T10 := Lib.hid t10
      clear l10 t10
      go_upto_region 13 with (at_builtin; refine wpList_append_run rfl _ _ 23 23 rfl rfl rfl hap ?_)
      have hblt : gt < w8.heap.size := Nat.lt_of_lt_of_le (O7.out.lt gt rfl).2 hz8
      have O10 := Lib.hid (own_same O8.out fun j hj => by
        obtain ⟨cs, q⟩ := own_type O8.out hj
        have e2 : gt = j := by simpa [Value.ownBlock] using hj
        subst e2
        exact (Whole.wt q T10.out.wt hnot (by decide) (by decide)).trans q.symm)
      generalize w9.setCell ⟨gl, 4, none⟩ (.slice A2 (L.heads.length + 1) c2) = wx at L10 T10 O10 ⊢
      clear hap c4 f4 c4x f4x
      have hzx : w8.heap.size ≤ wx.heap.size := T10.out.wt.size
      have LC := Lib.hid L10.out.cells
      have HR0 : Hid (RE wx gl R (fun v => #[.pointer (some ⟨gd, 0, none⟩), sV L.nm, .int .i64 L.per, .int .i64 L.least, .slice A2 (L.heads ++ [hv]).length c2, v, .bool L.torn, .int .i64 L.syn, .bool L.fail]) wx) := Lib.hid ⟨fun _ => rfl, fun _ _ => rfl, (row_ne L10.out).2.1, rfl, rfl, rfl, Nat.le_refl _, by omega, fun a ha => by have := hRlt a ha; omega, fun _ _ _ _ => rfl, ⟨_, L10.out.cells⟩⟩
      have HO4 : Hid (wx.cell? ⟨gl, 5, none⟩ = some (.slice R L.recs.length d)) := Lib.hid (L10.out.cells.read 5)
      have HO7 : Hid (OwnD R d L.recs.length L.recs wx) := Lib.hid L10.out.recs
      have HAdd : Hid (∀ w7, RE wx gl R (fun v => #[.pointer (some ⟨gd, 0, none⟩), sV L.nm, .int .i64 L.per, .int .i64 L.least, .slice A2 (L.heads ++ [hv]).length c2, v, .bool L.torn, .int .i64 L.syn, .bool L.fail]) w7 → OwnD R d L.recs.length L.recs w7 → ∃ v' w', (Builtin.append_ #[45, 45] 45 #[.slice R L.recs.length d, .slice (some at2) (TX.length - 1) tc2]).run Tryz.prog w7 = .ok v' w' ∧ RE wx gl R (fun v => #[.pointer (some ⟨gd, 0, none⟩), sV L.nm, .int .i64 L.per, .int .i64 L.least, .slice A2 (L.heads ++ [hv]).length c2, v, .bool L.torn, .int .i64 L.syn, .bool L.fail]) w' ∧ AddR wx R (L.recs.length + TT.length) (L.recs ++ TT) v' w' ∧ w7.grownBy w' (Value.slice R L.recs.length d).ownBlock) := Lib.hid fun w7 hre hown => by
        have hl2 : TX.length - 1 = TT.length := by have := HLen.out; omega
        rw [hl2]
        refine add_run hre hown (by omega) (by have := HLen.out; omega) fun j u hj => ?_
        have hjl : j < TT.length := by have := (List.getElem?_eq_some_iff.1 hj).1; simpa using this
        have ha2 := Hat.out (by have := HLen.out; omega)
        obtain ⟨g2, hg2, hg2l, hg2c⟩ := own_at O10.out (k := j + 1) (x := u) (by rw [List.getElem?_map, HXd.out, ← List.getElem?_map]; exact hj)
        injection hg2 with hg2
        injection hg2 with hg2
        subst hg2
        have hadd : (at2.add j) = ⟨gt, j + 1, none⟩ := by
          rw [ha2]
          cases j with
          | zero => rfl
          | succ j => simp [Addr.add]; omega
        rw [hadd]
        exact (World.cell?_of_block (a := ⟨gt, j + 1, none⟩) (hre.old gt hg2l (fun e => by omega) (fun a ha e => by have := hRlt a ha; omega))).trans hg2c
      have HFin : Hid (∀ w7, RE wx gl R (fun v => #[.pointer (some ⟨gd, 0, none⟩), sV L.nm, .int .i64 L.per, .int .i64 L.least, .slice A2 (L.heads ++ [hv]).length c2, v, .bool L.torn, .int .i64 L.syn, .bool L.fail]) w7 → AddF wx gl R (L.recs.length + TT.length) (L.recs ++ TT) (fun v => #[.pointer (some ⟨gd, 0, none⟩), sV L.nm, .int .i64 L.per, .int .i64 L.least, .slice A2 (L.heads ++ [hv]).length c2, v, .bool L.torn, .int .i64 L.syn, .bool L.fail]) w7 →
          w7.cell? ⟨gl, 6, none⟩ = some (.bool L.torn) ∧ w7.frozen? ⟨gl, 6, none⟩ = false ∧ LTurn B gl gd A R M D w (w7.setCell ⟨gl, 6, none⟩ (.bool tb))) := Lib.hid fun w7 hre ⟨A3, c3, q1, q2, q3⟩ => by
        have old : ∀ j, j < wx.heap.size → ¬ lblk gl A2 R j → w7.heap[j]? = wx.heap[j]? := fun j hj hne => hre.old j hj (fun e => hne (.inl e)) (fun a ha e => hne (.inr (.inr ⟨a, ha, e⟩)))
        have hi8 : ∀ j, lblk gl A2 R j → lblk gl A R j ∨ w8.heap.size ≤ j := fun j hj => by
          obtain ⟨A4, c4, R4, d4, k1, k2⟩ := T10.out.log
          have e1 := k1.cells
          have e2 := L10.out.cells
          have e3 := whole_cells2 e1 e2
          obtain ⟨e4, e5⟩ := e3
          rw [← e4, ← e5] at hj
          exact k2 j hj
        have hlb2 : ∀ j, lblk gl A2 R j → B ≤ j := fun j hj => by
          rcases hi8 j hj with q | q
          · exact HLB.out j q
          · omega
        obtain ⟨u1, u2, u3⟩ := frame_old L10.out T10.out.disk hlb2 hre.os hre.tape hre.output hre.size (by omega) old
        have LE : LogE w7 gl gd { L with least := L.least, heads := L.heads ++ [hv], recs := L.recs ++ TT } A2 c2 A3 c3 := by
          have hlen3 : (L.recs ++ TT).length = L.recs.length + TT.length := List.length_append
          refine ⟨?_, own_same L10.out.heads fun j hj => ?_, ?_⟩
          · show Whole w7 gl _ #[.pointer (some ⟨gd, 0, none⟩), sV L.nm, .int .i64 L.per, .int .i64 L.least, .slice A2 (L.heads ++ [hv]).length c2, .slice A3 (L.recs ++ TT).length c3, .bool L.torn, .int .i64 L.syn, .bool L.fail]
            rw [hlen3]
            exact q1
          · obtain ⟨a, ha, rfl⟩ := own_blk hj
            obtain ⟨m1, m2, m3⟩ := row_ne L10.out
            exact hre.old a.block (L10.out.inside (.inr (.inl ⟨a, ha, rfl⟩))) (m1 a ha) (fun b hb e => m3 a b ha hb e)
          · show w7.ownsRow 0 9 1 (.slice A3 (L.recs ++ TT).length c3) (L.recs ++ TT).length _
            rw [hlen3]
            exact q2
        obtain ⟨v1, v2⟩ := LE.set 6 (.bool tb) { L with least := L.least, heads := L.heads ++ [hv], recs := L.recs ++ TT, torn := tb } rfl rfl rfl
        have hM : M = { L with least := L.least, heads := L.heads ++ [hv], recs := L.recs ++ TT, torn := tb } := by rw [HM2.out, HTV.out]
        rw [hM]
        have hi3 : ∀ j, lblk gl A2 A3 j → lblk gl A2 R j ∨ wx.heap.size ≤ j := fun j hj => by
          rcases hj with rfl | ⟨a, e1, rfl⟩ | ⟨a, e1, rfl⟩
          · exact .inl (.inl rfl)
          · exact .inl (.inr (.inl ⟨a, e1, rfl⟩))
          · rcases q3 a e1 with ⟨b, e2, e3⟩ | e3
            · exact .inl (.inr (.inr ⟨b, e2, e3⟩))
            · exact .inr e3
        have TA : LTurn B gl gd A2 R { L with least := L.least, heads := L.heads ++ [hv], recs := L.recs ++ TT } D wx w7 := ⟨⟨A2, c2, A3, c3, LE, hi3⟩, u1, u2, u3⟩
        have TB : LTurn B gl gd A2 R { L with least := L.least, heads := L.heads ++ [hv], recs := L.recs ++ TT, torn := tb } D wx (w7.setCell ⟨gl, 6, none⟩ (.bool tb)) := TA.own_set (by omega) hgl hi3 LE v1 v2
        exact ⟨LE.cells.read 6, LE.cells.soft 6, T8.out.then_ (fun j hj => .inl hj) (T10.out.then_ hi8 TB)⟩
      clear HTV HM2 HLen HX0 HXd Hat T8 T10 O10 LC L8 L7 T7 HLB H0 HD0 HT0 O7 O6 O5 O8 HH HF B5 B6 B7 B3 hct hnot hAlt hRlt hglt hblt c0x HPa
      generalize hC5 : (fun v => #[.pointer (some ⟨gd, 0, none⟩), sV L.nm, .int .i64 L.per, .int .i64 L.least, .slice A2 (L.heads ++ [hv]).length c2, v, .bool L.torn, .int .i64 L.syn, .bool L.fail] : Value → Array Value) = C5 at HR0 HAdd HFin
      clear hC5
      generalize L.recs ++ TT = N2 at HAdd HFin
      generalize L.recs.length + TT.length = M0 at HAdd HFin
      generalize L.recs.length = rl at *
      generalize L.recs = N at *
      generalize TX.length - 1 = tl2 at HSl HAdd
      generalize TX.length = tm at *
      clear L10 hlenq hlen1
      refine region_full 80 [(7, 10)] [(10, 4), (10, 7), (7, 4)] (fun k => k == 4 || k == 7 || k == 10) (RE wx gl R C5) ?hR ?r0 [pdOne 0 (Is (.pointer (some ⟨gl, 0, none⟩))), pdOne 1 (Is (.pointer (some ⟨gl, 0, none⟩))), pdOne 2 (Is (.pointer (some ⟨gl, 0, none⟩))), pdOne 3 (Is (.pointer (some ⟨gl, 5, none⟩))), pdOne 4 (Is (.slice R rl d)), pdOne 5 (Is (.slice (some ⟨gt, 0, none⟩) tm tc)), pdOne 6 (Is (.slice (some at2) tl2 tc2)), pdOne 7 (AddR wx R M0 N2), pdOne 8 (Is (.pointer (some ⟨gl, 0, none⟩))), pdOne 9 (Is (.pointer (some ⟨gl, 5, none⟩))), pdOne 10 (fun _ w => AddF wx gl R M0 N2 C5 w)] (fun k w7 => (k = 4 → w7.cell? ⟨gl, 5, none⟩ = some (.slice R rl d)) ∧ (k = 7 → OwnD R d rl N w7) ∧ (k = 10 → True)) (by kernel_rfl) rfl (by kernel_rfl) (by kernel_rfl) (by kernel_rfl) (by kernel_rfl) ?keep ?hO ?h0 ?tell
      case hR => exact fun _ _ hb h => RE.below h hb
      case r0 => exact HR0.out
      case keep => exact ⟨keep_one (keeps_is _), keep_one (keeps_is _), keep_one (keeps_is _), keep_one (keeps_is _), keep_one (keeps_is _), keep_one (keeps_is _), keep_one (keeps_is _), keep_one (keeps_addR _ _ _ _), keep_one (keeps_is _), keep_one (keeps_is _), keep_one (fun _ _ _ hb h => AddF.below h hb), trivial⟩
      case hO => exact fun k w7 w8 hb ⟨q1, q2, q3⟩ => ⟨fun e => (hb.cell (p := ⟨gl, 5, none⟩) (cell_lt (q1 e))).trans (q1 e), fun e => OwnD.below (q2 e) hb, q3⟩
      case h0 => exact fun _ _ => ⟨fun _ => HO4.out, fun _ => HO7.out, fun _ => trivial⟩
      case tell =>
        intro fin hfin
        simp [lexPut, Act.put] at hfin
        simp only [TellF]
        refine ⟨⟨?_, ?_, ?_, ?_, ?_, ?_, ?_, ?_, ?_, ?_, ?_, trivial⟩, ?_⟩
        · intro v w7 hr hd
          refine yields_run (u := .pointer (some ⟨gl, 0, none⟩)) (w' := w7) ?_ (Below.refl _ _) rfl
          unfold execOp
          simp [go_sem, Act.eval]
        · intro v w7 hr hd
          refine yields_run (u := .pointer (some ⟨gl, 0, none⟩)) (w' := w7) ?_ (Below.refl _ _) rfl
          unfold execOp
          simp [go_sem, Act.eval, Act.put]
        · intro v w7 hr hd
          have h1 : v 1 = _ := hd 1 (by kernel_rfl)
          refine yields_run (u := .pointer (some ⟨gl, 0, none⟩)) (w' := w7) ?_ (Below.refl _ _) rfl
          unfold execOp
          simp [go_sem, Act.eval, Act.put, h1]
        · intro v w7 hr hd
          have h2 : v 2 = _ := hd 2 (by kernel_rfl)
          refine yields_run (u := .pointer (some ⟨gl, 5, none⟩)) (w' := w7) ?_ (Below.refl _ _) rfl
          unfold execOp
          simp [go_sem, Act.eval, Act.put, h2]
        · intro v w7 hr ho hd
          have h3 : v 3 = _ := hd 3 (by kernel_rfl)
          have c5 := ho.1 trivial
          refine .inl (.inl ⟨.slice R rl d, w7, ?_, hr, fun _ _ _ _ hu => hu, fun _ _ _ _ hu => hu, rfl⟩)
          unfold execOp
          simp [go_sem, Act.eval, Act.put, h3, c5]
        · intro v w7 hr hd
          refine yields_run (u := .slice (some ⟨gt, 0, none⟩) tm tc) (w' := w7) ?_ (Below.refl _ _) rfl
          unfold execOp
          simp [go_sem, Act.eval, Act.put]
        · intro v w7 hr hd
          have h5 : v 5 = _ := hd 5 (by kernel_rfl)
          have hsl := HSl.out w7
          refine yields_run (u := .slice (some at2) tl2 tc2) (w' := w7) ?_ (Below.refl _ _) rfl
          unfold execOp
          simp only [Act.eval, Act.put, h5, Sem.run_bind]
          simp [go_sem, Act.eval, Act.put, h5, hsl]
        · intro v w7 hr ho hd
          have h4 : v 4 = _ := hd 4 (by kernel_rfl)
          have h6 : v 6 = _ := hd 6 (by kernel_rfl)
          obtain ⟨v9, w9, hr9, hre9, hadd9, hg9⟩ := HAdd.out w7 hr (ho.2.1 trivial)
          refine .inl (yieldsW_append (v := .slice R rl d) (y := .slice (some at2) tl2 tc2) rfl (by simp [Act.eval, Act.put, h4, h6]) (by simp [Act.eval, Act.put, h4, h6]) hr9 ⟨hre9, ?_, ?_, hadd9⟩)
          · intro k2 v' hk2 hc hu
            exact match k2, hk2, hc, hu with
              | 0, hk2, hc, hu => hu
              | 1, hk2, hc, hu => hu
              | 2, hk2, hc, hu => hu
              | 3, hk2, hc, hu => hu
              | 4, hk2, hc, hu => hu
              | 5, hk2, hc, hu => hu
              | 6, hk2, hc, hu => hu
              | 7, hk2, hc, hu => absurd rfl hk2
              | 8, hk2, hc, hu => hu
              | 9, hk2, hc, hu => hu
              | 10, hk2, hc, hu => absurd hc (by decide)
              | _ + 11, _, _, _ => trivial
          · intro k2 hk2 hn hc2 ⟨h1, h2, h3⟩
            exact ⟨fun e => by subst e; exact absurd hc2 (by decide), fun e => absurd e hk2, fun _ => trivial⟩
        · intro v w7 hr hd
          have h0 : v 0 = _ := hd 0 (by kernel_rfl)
          refine yields_run (u := .pointer (some ⟨gl, 0, none⟩)) (w' := w7) ?_ (Below.refl _ _) rfl
          unfold execOp
          simp [go_sem, Act.eval, Act.put, h0]
        · intro v w7 hr hd
          have h8 : v 8 = _ := hd 8 (by kernel_rfl)
          refine yields_run (u := .pointer (some ⟨gl, 5, none⟩)) (w' := w7) ?_ (Below.refl _ _) rfl
          unfold execOp
          simp [go_sem, Act.eval, Act.put, h8]
        · intro v w7 hr ho hd
          have h9 : v 9 = _ := hd 9 (by kernel_rfl)
          obtain ⟨A2, c2, h7, hown, hA2⟩ : AddR wx R M0 N2 (v 7) w7 := hd 7 (by kernel_rfl)
          obtain ⟨v5, c5⟩ := hr.get5
          have f5 := hr.soft5
          refine .inr ⟨w7.setCell ⟨gl, 5, none⟩ (.slice A2 M0 c2), ?_, hr.store _, ?_, fun k hk hn hc => ?_, AddF.made hr hown hA2⟩
          · unfold execOp
            simp [go_sem, Act.eval, Act.put, h9, h7, c5, f5]
          · intro k2 v' hk2 hc hu
            exact match k2, hk2, hc, hu with
              | 0, hk2, hc, hu => hu
              | 1, hk2, hc, hu => hu
              | 2, hk2, hc, hu => hu
              | 3, hk2, hc, hu => hu
              | 4, hk2, hc, hu => hu
              | 5, hk2, hc, hu => hu
              | 6, hk2, hc, hu => hu
              | 7, hk2, hc, hu => AddR.store hu hr.cells
              | 8, hk2, hc, hu => hu
              | 9, hk2, hc, hu => hu
              | 10, hk2, hc, hu => absurd rfl hk2
              | _ + 11, _, _, _ => trivial
          · have hk4 : k = 4 ∨ k = 7 ∨ k = 10 := by simpa [or_assoc] using hn
            rcases hk4 with rfl | rfl | rfl
            · exact absurd hc (by decide)
            · exact absurd hc (by decide)
            · exact absurd rfl hk
        · intro v w7 hr hv7
          have hF : AddF wx gl R M0 N2 C5 w7 := hv7 10 (by simp)
          obtain ⟨c6, f6, t11⟩ := HFin.out w7 hr hF
          have T11 := Lib.hid t11
          rw [hfin]
          clear hfin hv7 hr hF t11 HFin HAdd HR0 HO4 HO7 HSl
          generalize v 7 = v7
          go_wp2_with fail
          go_ret
          exact ⟨rfl, T11.out⟩

theorem take_any (G : GoodL L) (hn : nextN L ≤ 1125899906842624) (hr : L.recs.length ≤ 500000000) (hh : L.heads.length ≤ 1000) (GD : GoodD D) (hF : D.F.length ≤ 1000) (hE : EnvB B w) (h : LogE w gl gd L A c R d) (hD : DiskB w B gd D) (hlb : ∀ k, lblk gl A R k → B ≤ k) (k : Int) (k0 : 0 ≤ k) (k1 : k ≤ 1000) :
    Calls Tryz.prog 33 #[.pointer (some ⟨gl, 0, none⟩), .int .i64 k] w fun e w' => e = .returned (.bool (takeB L D k)) ∧ LTurn B gl gd A R (if takeB L D k = true then takeV L D k else L) D w w' := by
  by_cases hz : L.heads = []
  · exact take_empty G hn hr hh GD hF hE h hD hlb k k0 k1 hz
  · exact take_full G hn hr hh GD hF hE h hD hlb k k0 k1 hz
end
end Go.Proofs.YtfpmcomigolacaaGreatDoor.wal
set_option linter.unusedSimpArgs false
set_option linter.unusedVariables false
namespace Go.Proofs.YtfpmcomigolacaaGreatDoor.wal
open Go.ChangeShapes Go.WideShapes Go.ChangeAt Go.RowKit Go.Maps Go.WideMaps
open Go.Proofs.YtfpmcomigolacaaGreatDoor.opened Go.Proofs.YtfpmcomigolacaaGreatDoor.block Go.Proofs.YtfpmcomigolacaaGreatDoor.words Go.Proofs.YtfpmcomigolacaaGreatDoor.disk Go.Proofs.YtfpmcomigolacaaGreatDoor.tailed Go.Proofs.YtfpmcomigolacaaGreatDoor.enc Go.Proofs.YtfpmcomigolacaaGreatDoor.code Go.Proofs.YtfpmcomigolacaaGreatDoor.region Go.Proofs.YtfpmcomigolacaaGreatDoor.seqBox

/-! ### What take keeps -/
structure TK (L : Lg) : Prop where
  good : GoodL L
  bare : L.heads = [] → L.recs = []
  base : baseN L ≤ 1099511627776
  recs : L.recs.length ≤ L.heads.length * 262144
set_option maxRecDepth 4000 in
theorem tk_zero {nm : Bs} (per : Int) (h : nm.length ≤ 8) : TK (lg0 nm per) :=
  ⟨⟨h, (by show (1 : Int) ≤ 1; omega), (by show (1 : Int) + ((0 : Nat) : Int) ≤ 1000; omega), List.Pairwise.nil, (by show (0 : Int) ≤ 0; omega), fun x hx => nomatch hx⟩, fun _ => rfl, (by show (0 : Int) ≤ 1099511627776; omega), Nat.zero_le _⟩
theorem TK.next {L : Lg} (T : TK L) (h : L.heads.length ≤ 1000) : nextN L ≤ 1125899906842624 := by
  have h1 := T.base
  have h2 := T.recs
  unfold nextN
  omega
theorem TK.rl {L : Lg} (T : TK L) (h : L.heads.length ≤ 1000) : L.recs.length ≤ 500000000 := by
  have := T.recs
  omega
theorem tk_take {L : Lg} {D : Dk} (GD : GoodD D) {k : Int} (k0 : 1 ≤ k) (k1 : k ≤ 999) (T : TK L) (ht : takeB L D k = true) : TK (takeV L D k) := by
  have hrl : (takeV L D k).recs.length ≤ L.recs.length + 262144 := by
    show (L.recs ++ (textsV L D k).tail).length ≤ _
    have := frsF_len ((readV D (fn L.nm k)).length + 1) (readV D (fn L.nm k))
    have h2 := rv_le GD (fn L.nm k)
    have h3 : (textsV L D k).length ≤ (readV D (fn L.nm k)).length := this
    rw [List.length_append, List.length_tail]
    omega
  have hhl : (takeV L D k).heads.length = L.heads.length + 1 := by show (L.heads ++ [_]).length = _; simp
  by_cases hz : L.heads = []
  · have hb := T.bare hz
    have hH : (takeV L D k).heads = [headV L ((textsV L D k).head?.getD [])] := by show L.heads ++ [_] = _; rw [hz]; rfl
    have hL : (takeV L D k).least = k := by show (if L.heads = [] then k else L.least) = k; rw [if_pos hz]
    have hv : headV L ((textsV L D k).head?.getD []) = (rInt ((textsV L D k).head?.getD []) 0 1099511627776).1 := by unfold headV; rw [if_pos hz]
    have hr : 0 ≤ headV L ((textsV L D k).head?.getD []) ∧ headV L ((textsV L D k).head?.getD []) ≤ 1099511627776 := by
      rw [hv]
      obtain ⟨p1, p2, -⟩ := rInt_bd ((textsV L D k).head?.getD []) 0 1099511627776
      omega
    have hbase : baseN (takeV L D k) = headV L ((textsV L D k).head?.getD []) := by unfold baseN; rw [hH]; rfl
    refine ⟨⟨T.good.len, by rw [hL]; exact k0, by unfold nextF; rw [hL, hhl, hz]; simp; omega, by rw [hH]; exact List.pairwise_singleton _ _, by rw [hbase]; exact hr.1, fun x hx => ?_⟩, (fun e => by rw [hH] at e; cases e), (by rw [hbase]; exact hr.2), (by rw [hhl]; have := T.recs; omega)⟩
    rw [hH, List.mem_singleton] at hx
    unfold nextN
    rw [hbase, hx]
    omega
  · have hk : k = nextF L := by
      unfold takeB at ht
      by_cases e : k = nextF L
      · exact e
      · rw [if_pos ⟨hz, e⟩] at ht
        cases ht
    have hvn : headV L ((textsV L D k).head?.getD []) = nextN L := by unfold headV; rw [if_neg hz]
    obtain ⟨h1, h2⟩ := good_head (M := takeV L D k) T.good (by omega) rfl (by show (if L.heads = [] then k else L.least) = L.least; rw [if_neg hz]) (by show L.heads ++ [_] = _; rw [hvn]) T.bare ⟨_, rfl⟩
    rw [if_neg hz] at h2
    exact ⟨h1, (fun e => by have := hhl; rw [e] at this; cases this), (by rw [h2]; exact T.base), (by rw [hhl]; have := T.recs; omega)⟩
theorem tk_takes {D : Dk} (GD : GoodD D) : ∀ (N : List Int), (∀ k ∈ N, 1 ≤ k ∧ k ≤ 999) → ∀ L, TK L → TK (takesV D L N) ∧ (takesV D L N).nm = L.nm ∧ (takesV D L N).heads.length ≤ L.heads.length + N.length
  | [], _, L, T => ⟨T, rfl, by simp [takesV]⟩
  | k :: r, h, L, T => by
    unfold takesV
    split
    · rename_i ht
      obtain ⟨q0, q1⟩ := h k (by simp)
      obtain ⟨h1, h2, h3⟩ := tk_takes GD r (fun x hx => h x (List.mem_cons_of_mem _ hx)) (takeV L D k) (tk_take GD q0 q1 T ht)
      refine ⟨h1, h2, Nat.le_trans h3 ?_⟩
      show (L.heads ++ [_]).length + r.length ≤ _
      simp
      omega
    · exact ⟨T, rfl, by simp⟩
theorem takes_step {D : Dk} {L : Lg} {N : List Int} {j : Nat} {k : Int} (hj : N[j]? = some k) (ht : takeB L D k = true) : takesV D L (N.drop j) = takesV D (takeV L D k) (N.drop (j + 1)) := by
  obtain ⟨hlt, rfl⟩ := List.getElem?_eq_some_iff.1 hj
  rw [List.drop_eq_getElem_cons hlt]
  show (if takeB L D N[j] = true then _ else L) = _
  rw [if_pos ht]
theorem takes_stop {D : Dk} {L : Lg} {N : List Int} {j : Nat} {k : Int} (hj : N[j]? = some k) (ht : takeB L D k = false) : takesV D L (N.drop j) = L := by
  obtain ⟨hlt, rfl⟩ := List.getElem?_eq_some_iff.1 hj
  rw [List.drop_eq_getElem_cons hlt]
  show (if takeB L D N[j] = true then _ else L) = _
  rw [if_neg (by rw [ht]; decide)]

/-! ### Remove -/
theorem rem_len {D : Dk} (n : Bs) : (remV D n).F.length ≤ D.F.length := by
  unfold remV
  split
  · show (del n D.F).length ≤ _
    exact List.length_filter_le _ _
  · unfold onV
    exact Nat.le_of_eq (by split <;> (try split) <;> first | rfl | rw [stpV_F])
set_option maxRecDepth 100000 in
theorem remove_in {S : Nat → Prop} {g : Nat} {D : Dk} (G : GoodD D) (n : Bs) (hn : n.length ≤ 100000) (w : World) (h : DiskP w S g D) :
    Calls Tryz.prog 35 #[.pointer (some ⟨g, 0, none⟩), sV n] w fun e w' => e = .returned (.int .i64 (onE D n)) ∧ DiskP w' S g (remV D n) ∧ Turn w w' S ∧ WT w w' (fun _ => False) := by
  obtain ⟨mb, E, hE, hS⟩ := h
  have HO := Lib.hid (stepOn_any n hn G.hi w hE)
  have hblk : ∀ k, k = g → blk g mb E k := fun k e => .inl e
  have HW : Hid (∀ w', Turn w w' (blk g mb E) → Turn w w' S ∧ WT w w' (fun _ => False)) := Lib.hid fun w' ht => ⟨ht.wide hS, wt_turn hE ht _⟩
  by_cases hk : onE D n = 0
  · have hV : remV D n = { onV D n with F := del n (onV D n).F } := by unfold remV; rw [if_pos hk, on_stp hk, stpV_F]
    have HA : Hid (∀ w1, DiskE w1 g mb (onV D n) E → Turn w w1 (fun k => k = g) → w1.cell? ⟨g, 0, none⟩ = some (.map (some mb)) ∧ w1.frozen? ⟨g, 0, none⟩ = false ∧ ∃ w3, (Builtin.delete_ #[62, 9] 0 #[.map (some mb), sV n]).run Tryz.prog w1 = .ok (.tuple #[]) w3 ∧
          Hid (DiskP w3 S g (remV D n) ∧ Turn w w3 S ∧ WT w w3 (fun _ => False))) := Lib.hid (fun w1 h1 t1 => by
      refine ⟨h1.cells.read 0, h1.cells.soft 0, ?_⟩
      obtain ⟨w3, hrun, ho, hg, -⟩ := del_run h1.own hn 0
      have tt : Turn w w3 (blk g mb E) := (t1.wide hblk).trans (turn_grown hg (S := blk g mb E) fun k e => by cases e; exact .inr (.inl rfl)) fun j hj => .inl hj
      refine ⟨w3, hrun, Lib.hid ⟨?_, HW.out w3 tt⟩⟩
      rw [hV]
      exact ⟨mb, delE n E, h1.del ho hg, fun k hk => hS k (blk_del hk)⟩)
    rw [hk] at HO ⊢
    clear hE hV hk hS hblk HW
    generalize onV D n = D1 at HO HA
    generalize remV D n = D2 at HA ⊢
    go_enter Tryz.func35, Tryz.ntmps35
    go_upto_region 4 with (go_at_call 62; refine HO.out.mono ?_; rintro e w1 ⟨rfl, d1, t1⟩; have D1' := Lib.hid d1; have T1 := Lib.hid t1; clear d1 t1)
    obtain ⟨k0, k1, w3, hdel, HD⟩ := HA.out w1 D1'.out T1.out
    clear HA
    go_wp2_with fail
    go_ret
    exact ⟨rfl, HD.out⟩
  · have hV : remV D n = onV D n := by unfold remV; rw [if_neg hk]
    rw [hV]
    have hk' : (onE D n == 0) = false := by simpa using hk
    clear hE hk hV
    generalize onV D n = D1 at HO ⊢
    generalize onE D n = k at HO hk' ⊢
    go_enter Tryz.func35, Tryz.ntmps35
    go_wp2_with (go_at_call 62; refine HO.out.mono ?_; rintro e w1 ⟨rfl, d1, t1⟩; have D1' := Lib.hid d1; have T1 := Lib.hid t1; clear d1 t1)
    go_ret
    exact ⟨rfl, ⟨mb, E, D1'.out, hS⟩, HW.out _ (T1.out.wide hblk)⟩

/-! ### Backward -/
def bkF (N : List Int) : Nat → List (Nat × Int)
  | 0 => []
  | k + 1 => (k, (N[k]?).getD 0) :: bkF N k
def bkV (N : List Int) : List (Nat × Int) := bkF N N.length
theorem bk_snd (N : List Int) : ∀ k, k ≤ N.length → (bkF N k).map Prod.snd = (N.take k).reverse
  | 0, _ => by simp [bkF]
  | k + 1, h => by
    have hlt : k < N.length := h
    rw [bkF, List.map_cons, bk_snd N k (by omega), List.take_succ_eq_append_getElem hlt, List.reverse_append]
    rw [List.getElem?_eq_getElem hlt]
    rfl
theorem bk_all (N : List Int) : (bkV N).map Prod.snd = N.reverse := by
  unfold bkV
  rw [bk_snd N _ (Nat.le_refl _), List.take_length]
theorem backward_any (A : Option Addr) (m c : Nat) (w : World) : Calls Tryz.prog 34 #[.slice A m c] w fun e w' =>
    e = .returned (.func (.func 61) #[] #[.pointer (some ⟨w.heap.size, 0, none⟩)]) ∧ w' = w.alloc (.cells #[.slice A m c] 23) := by
  go_enter Tryz.func34, Tryz.ntmps34
  go_wp2_with fail
  go_ret
  exact ⟨rfl, rfl⟩
/-- A row of numbers that can be read. -/
def RowI (W : World) (v : Value) (N : List Int) : Prop := ∃ A c, v = .slice A N.length c ∧ ∀ j x, N[j]? = some x → ∃ a, A = some a ∧ W.cell? (a.add j) = some (.int .i64 x)
set_option maxRecDepth 100000 in
set_option maxHeartbeats 2000000 in
theorem back_box (n : Nat) (hn : 3 ≤ n) (b : Nat) (v : Value) (N : List Int) (hlen : N.length ≤ 1000000) (Kp : World → World → Prop) (hKp : ∀ X Y, Kp X Y → Y.cell? ⟨b, 0, none⟩ = X.cell? ⟨b, 0, none⟩ ∧ (RowI X v N → RowI Y v N)) (w : World) (hs : w.cell? ⟨b, 0, none⟩ = some v) (hr : RowI w v N) :
    SeqBox Fence.wide n Tryz.prog 61 #[.pointer (some ⟨b, 0, none⟩)] b (fun x : Nat × Int => #[.int .i64 (x.1 : Int), .int .i64 x.2]) Kp
      (fun xs => xs = bkV N) (fun pre => pre <+: bkV N) (fun pre => pre <+: bkV N) w := by
  intro l J Jx W hK hJ hJx hY h0
  obtain ⟨q1, q2⟩ := hKp _ _ hK
  have hs1 : W.cell? ⟨b, 0, none⟩ = some v := q1.trans hs
  have hr1 := Lib.hid (q2 hr)
  obtain ⟨A, c, rfl, -⟩ := hr
  have HN := Lib.hid (show bkV N = bkF N N.length from rfl)
  generalize hm : N.length = m at *
  refine callsIn_of_wp Tryz.func61 rfl trivial ?_ rfl
  simp only [Tryz.ntmps61, List.size_toArray, List.length_cons, List.length_nil, Nat.reduceAdd, Nat.reduceSub, Array.replicate_succ, Array.replicate_zero, List.push_toArray, List.append_toArray, List.nil_append, List.cons_append]
  gi_wp2
  gi_loopw [3] (fun e wr => ∃ (pre : List (Nat × Int)) (k : Nat), k ≤ m ∧ e = .int .i64 ((k : Int) - 1) ∧ Hid (bkV N = pre ++ bkF N k) ∧ wr.cell? ⟨b, 0, none⟩ = some (.slice A m c) ∧ Hid (RowI wr (.slice A m c) N) ∧ J pre wr)
    (fun e _ => (intOf e + 1).toNat)
  case atStart => exact ⟨[], m, Nat.le_refl _, rfl, Lib.hid HN.out, hs1, hr1, h0⟩
  case round =>
    obtain ⟨pre, k, hk, rfl, hc, hsr, hrr, hj⟩ := hrel
    have h1n : 1 ≤ n := by omega
    cases k with
    | zero =>
      have he : bkV N = pre := by rw [hc.out]; simp [bkF]
      rw [show ((0 : Nat) : Int) - 1 = -1 from rfl]
      gi_wp2
      refine bodyPost_end (results_none rfl _ _ _) rfl ?_
      exact ⟨⟨_, rfl⟩, .inl ⟨pre, he.symm, hj⟩⟩
    | succ k =>
      obtain ⟨x, hx⟩ : ∃ x, N[k]? = some x := ⟨_, List.getElem?_eq_getElem (by omega)⟩
      have hst : bkF N (k + 1) = (k, x) :: bkF N k := by rw [bkF, hx]; rfl
      have hc' := Lib.hid (show bkV N = pre ++ (k, x) :: bkF N k by rw [hc.out, hst])
      obtain ⟨A', c', hv, hcell⟩ := hrr.out
      injection hv with hv1 hv2 hv3
      subst hv1 hv3
      clear hv2
      obtain ⟨a, rfl, ca⟩ := hcell k x hx
      have hpre : Hid (pre ++ [(k, x)] <+: bkV N) := Lib.hid (by rw [hc'.out]; exact ⟨_, by rw [List.append_assoc]; rfl⟩)
      clear hst hc hcell hx
      rw [show ((k + 1 : Nat) : Int) - 1 = (k : Int) from by omega]
      clear hm
      have hkm : k < m := by omega
      have hk6 : (k : Int) ≤ 1000000 := by omega
      obtain ⟨fn, tmps, assign, body, hy, hR⟩ := hY pre (k, x) _ hj hpre.out
      dsimp only at hy
      clear hs q1 q2 hs1 hr1 h0 hK hY hlen HN
      have HKp := Lib.hid hKp
      clear hKp
      gi_wp2
      refine hR.mono ?_
      rintro e W3 (⟨rfl, hJ3, hk3⟩ | ⟨rfl, hJx3⟩)
      · obtain ⟨z1, z2⟩ := HKp.out _ _ hk3
        have c3 := z1.trans hsr
        have r3 := Lib.hid (z2 hrr.out)
        clear z1 z2 HKp hy hR ca hsr
        gi_wp2
        refine ⟨⟨pre ++ [(k, x)], k, by omega, rfl, Lib.hid (by rw [hc'.out, List.append_assoc]; rfl), c3, r3, hJ3⟩, ?_⟩
        simp [intOf]
      · gi_wp2
        refine bodyPost_ret (results_none rfl _ _ _) rfl ?_
        exact ⟨⟨_, rfl⟩, .inr ⟨_, hpre.out, hJx3⟩⟩
end Go.Proofs.YtfpmcomigolacaaGreatDoor.wal
