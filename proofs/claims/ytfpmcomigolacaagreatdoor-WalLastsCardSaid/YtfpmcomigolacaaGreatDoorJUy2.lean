/-
  Arm and Mend under a log; two logs on one disk.
  The walk of WalLasts.
-/
import Derived.Test.YtfpmcomigolacaaGreatDoorJUop
import Derived.Test.YtfpmcomigolacaaGreatDoorJUw25
set_option linter.unusedSimpArgs false
set_option linter.unusedVariables false
namespace Go.Proofs.YtfpmcomigolacaaGreatDoor.wal
open Go.ChangeShapes Go.WideShapes Go.ChangeAt Go.RowKit Go.Maps Go.WideMaps
open Go.Proofs.YtfpmcomigolacaaGreatDoor.opened Go.Proofs.YtfpmcomigolacaaGreatDoor.block Go.Proofs.YtfpmcomigolacaaGreatDoor.words Go.Proofs.YtfpmcomigolacaaGreatDoor.disk Go.Proofs.YtfpmcomigolacaaGreatDoor.tailed Go.Proofs.YtfpmcomigolacaaGreatDoor.enc Go.Proofs.YtfpmcomigolacaaGreatDoor.code
section
variable {B gd gl : Nat} {L : Lg} {D : Dk} {w w1 : World}
theorem armW (n : Int) (hB : B ≤ w.heap.size) (h : DiskB w B gd D) :
    Calls Tryz.prog 14 #[.pointer (some ⟨gd, 0, none⟩), .int .i64 n] w fun e w' => e = .returned (.tuple #[]) ∧ DiskB w' B gd (armV D n) ∧ WT w w' (fun _ => False) ∧ Below B w w' :=
  stepW hB h fun S hS => by
    obtain ⟨mb, E, h1, h2⟩ := hS
    exact (arm_any n w h1).mono fun _ _ ⟨e1, e2, e3, _⟩ => ⟨e1, DiskP.more ⟨mb, E, e2, h2⟩, turn_grown e3 (S := S) fun k e => by cases e; exact h2 gd (.inl rfl)⟩
theorem st_arm (h : St B gd gl L D w) (n : Int) (h0 : -9223372036854775808 ≤ n) (h1 : n ≤ 9223372036854775807) :
    Calls Tryz.prog 14 #[.pointer (some ⟨gd, 0, none⟩), .int .i64 n] w fun e w' => e = .returned (.tuple #[]) ∧ St B gd gl L (armV D n) w' ∧ Below B w w' := by
  obtain ⟨A, c, R, d, k1, k2⟩ := h.log
  exact (armW n h.le h.disk).mono fun e w' ⟨q1, q2, q3, q4⟩ => ⟨q1, ⟨⟨A, c, R, d, k1.wt q3 fun _ _ f => f, k2⟩, q2, h.env.step q4, h.good, good_arm h.gd h0 h1⟩, q4⟩
theorem mendN (G : GoodD D) (hF : D.F.length ≤ 1000) (K : Option Addr) (kc : Nat) (keep : List Int) (hk : ∀ x ∈ keep, x ≤ 9223372036854775807) (hkl : keep.length ≤ 100000) (hB : B ≤ w1.heap.size) (h : DiskB w1 B gd D) (hb : Below w1.heap.size w1 w) (hK : Lies w K (keep.map (Value.int .i64))) (hKn : ∀ a, K = some a → w1.heap.size ≤ a.block) :
    Calls Tryz.prog 15 #[.pointer (some ⟨gd, 0, none⟩), .slice K keep.length kc] w fun e w' => e = .returned (.tuple #[]) ∧ DiskB w' B gd (mendV D keep) ∧ WT w1 w' (fun _ => False) ∧ Below B w1 w' := by
  obtain ⟨mb, E, h1, h2⟩ := h
  have h1' : DiskE w gd mb D E := h1.same fun k hk => hb.block k (h1.inside hk)
  refine (mend_any G hF K kc keep hk hkl w (S := blk gd mb E) ⟨mb, E, h1', fun k hk => hk⟩ hK (fun a ha hh => by have := hKn a ha; have := h1.inside hh; omega)).mono fun e w' ⟨e1, e2, ht⟩ => ?_
  obtain ⟨u1, u2⟩ := up (Nat.le_trans hB hb.size) e2 h2 ht
  exact ⟨e1, u1, (wt_below hb (fun _ => False)).trans (wt_turn h1' ht (fun _ => False)) (fun _ q => q.elim), (hb.mono hB).trans u2⟩
/-- A log, wherever its disk is. -/
def Lat (w : World) (gl gd : Nat) (L : Lg) : Prop := ∃ A c R d, LogE w gl gd L A c R d
theorem Lat.wt {w w' : World} {gl gd : Nat} {L : Lg} (h : Lat w gl gd L) (k : WT w w' (fun _ => False)) : Lat w' gl gd L := by
  obtain ⟨A, c, R, d, h1⟩ := h
  exact ⟨A, c, R, d, h1.wt k fun _ _ f => f⟩
theorem Lat.below {w w' : World} {gl gd : Nat} {L : Lg} (h : Lat w gl gd L) (k : Below w.heap.size w w') : Lat w' gl gd L := by
  obtain ⟨A, c, R, d, h1⟩ := h
  exact ⟨A, c, R, d, h1.below k⟩
theorem St.lat (h : St B gd gl L D w) : Lat w gl gd L := by
  obtain ⟨A, c, R, d, k1, -⟩ := h.log
  exact ⟨A, c, R, d, k1⟩
theorem lat_get (h : Lat w gl gd L) (G : GoodL L) (hn : nextN L ≤ 1125899906842624) (n : Int) (n0 : -9223372036854775808 ≤ n) (n1 : n ≤ 9223372036854775807) :
    Calls Tryz.prog 20 #[.pointer (some ⟨gl, 0, none⟩), .int .i64 n] w fun e w' => e = .returned (.tuple #[sV (gtV L n), .int .i64 (gtE L n)]) ∧ Below w.heap.size w w' := by
  obtain ⟨A, c, R, d, h1⟩ := h
  exact get_any G hn n n0 n1 h1
theorem lat_next (h : Lat w gl gd L) (G : GoodL L) (hn : nextN L ≤ 1125899906842624) : Calls Tryz.prog 16 #[.pointer (some ⟨gl, 0, none⟩)] w fun e w' => e = .returned (.int .i64 (nextN L)) ∧ Below w.heap.size w w' := by
  obtain ⟨A, c, R, d, h1⟩ := h
  exact next_any G hn h1
theorem lat_base (h : Lat w gl gd L) : Calls Tryz.prog 19 #[.pointer (some ⟨gl, 0, none⟩)] w fun e w' => e = .returned (.int .i64 (baseN L)) ∧ Below w.heap.size w w' := by
  obtain ⟨A, c, R, d, h1⟩ := h
  exact base_any h1
theorem lat_files (h : Lat w gl gd L) : Calls Tryz.prog 18 #[.pointer (some ⟨gl, 0, none⟩)] w fun e w' => e = .returned (.int .i64 (L.heads.length : Int)) ∧ Below w.heap.size w w' := by
  obtain ⟨A, c, R, d, h1⟩ := h
  exact files_any h1
theorem lat_synced (h : Lat w gl gd L) : Calls Tryz.prog 17 #[.pointer (some ⟨gl, 0, none⟩)] w fun e w' => e = .returned (.int .i64 L.syn) ∧ Below w.heap.size w w' := by
  obtain ⟨A, c, R, d, h1⟩ := h
  exact synced_any h1
end
/-- Two logs on a disk. -/
structure Pr (B gd ga gb : Nat) (L M : Lg) (D : Dk) (w : World) : Prop where
  logs : ∃ A c R d A' c' R' d', LogE w ga gd L A c R d ∧ LogE w gb gd M A' c' R' d' ∧ (∀ k, lblk ga A R k → B ≤ k) ∧ (∀ k, lblk gb A' R' k → B ≤ k) ∧ ∀ k, lblk ga A R k → ¬ lblk gb A' R' k
  disk : DiskB w B gd D
  env : EnvB B w
  a : GoodL L
  b : GoodL M
  gd : GoodD D
section
variable {B gd ga gb : Nat} {L M : Lg} {D : Dk} {w : World}
theorem Pr.le (h : Pr B gd ga gb L M D w) : B ≤ w.heap.size := h.env.le
theorem Pr.swap (h : Pr B gd ga gb L M D w) : Pr B gd gb ga M L D w := by
  obtain ⟨A, c, R, d, A', c', R', d', h1, h2, h3, h4, h5⟩ := h.logs
  exact ⟨⟨A', c', R', d', A, c, R, d, h2, h1, h4, h3, fun k k1 k2 => h5 k k2 k1⟩, h.disk, h.env, h.b, h.a, h.gd⟩
theorem Pr.below {w' : World} (h : Pr B gd ga gb L M D w) (hb : Below w.heap.size w w') : Pr B gd ga gb L M D w' := by
  obtain ⟨A, c, R, d, A', c', R', d', h1, h2, h3, h4, h5⟩ := h.logs
  exact ⟨⟨A, c, R, d, A', c', R', d', h1.below hb, h2.below hb, h3, h4, h5⟩, h.disk.below hb, h.env.below hb, h.a, h.b, h.gd⟩
theorem Pr.st (h : Pr B gd ga gb L M D w) : St B gd ga L D w := by
  obtain ⟨A, c, R, d, A', c', R', d', h1, h2, h3, h4, h5⟩ := h.logs
  exact ⟨⟨A, c, R, d, h1, h3⟩, h.disk, h.env, h.a, h.gd⟩
theorem pr_turn {L2 : Lg} {D2 : Dk} {A c R d A' c' R' d'} {w' : World} (h : Pr B gd ga gb L M D w) (h1 : LogE w ga gd L A c R d) (h2 : LogE w gb gd M A' c' R' d') (h3 : ∀ k, lblk ga A R k → B ≤ k) (h4 : ∀ k, lblk gb A' R' k → B ≤ k) (h5 : ∀ k, lblk ga A R k → ¬ lblk gb A' R' k)
    (ht : LTurn B ga gd A R L2 D2 w w') (G : GoodL L2) (GD : GoodD D2) : Pr B gd ga gb L2 M D2 w' := by
  obtain ⟨A2, c2, R2, d2, k1, k2⟩ := ht.log
  refine ⟨⟨A2, c2, R2, d2, A', c', R', d', k1, h2.wt ht.wt fun j hj hq => h5 j hq hj, lb_of h3 h.le k2, h4, fun k q1 q2 => ?_⟩, ht.disk, h.env.step ht.below, G, h.b, GD⟩
  rcases k2 k q1 with q | q
  · exact h5 k q q2
  · have := h2.inside q2
    omega
theorem pr_append (h : Pr B gd ga gb L M D w) (hp : 1 ≤ L.per ∧ L.per ≤ 64) (hn : nextN L ≤ 1125899906842624) (hr : L.recs.length ≤ 1000000000) (hF : D.F.length ≤ 998) (s : Bs) (hs : s.length ≤ 100000) (G : GoodL (apL L D s)) (GD : GoodD (apD L D s)) :
    Calls Tryz.prog 11 #[.pointer (some ⟨ga, 0, none⟩), sV s] w fun e w' => e = .returned (.tuple #[.int .i64 (apN L D s), .int .i64 (apE L D s)]) ∧ Pr B gd ga gb (apL L D s) M (apD L D s) w' ∧ Below B w w' := by
  obtain ⟨A, c, R, d, A', c', R', d', h1, h2, h3, h4, h5⟩ := h.logs
  exact (append_log h.a hp hn hr h.gd hF h.env h1 h.disk h3 s hs).mono fun e w' ⟨q1, q2⟩ => ⟨q1, pr_turn h h1 h2 h3 h4 h5 q2 G GD, q2.below⟩
theorem pr_drop (h : Pr B gd ga gb L M D w) (hn : nextN L ≤ 1125899906842624) (hF : D.F.length ≤ 998) (m : Int) (G : GoodL (drV L D m).2.1) (GD : GoodD (drV L D m).2.2) :
    Calls Tryz.prog 13 #[.pointer (some ⟨ga, 0, none⟩), .int .i64 m] w fun e w' => e = .returned (.int .i64 (drV L D m).1) ∧ Pr B gd ga gb (drV L D m).2.1 M (drV L D m).2.2 w' ∧ Below B w w' := by
  obtain ⟨A, c, R, d, A', c', R', d', h1, h2, h3, h4, h5⟩ := h.logs
  exact (drop_log h.a hn h.gd hF h.env h1 h.disk h3 m).mono fun e w' ⟨q1, q2⟩ => ⟨q1, pr_turn h h1 h2 h3 h4 h5 q2 G GD, q2.below⟩
theorem pr_sync (h : Pr B gd ga gb L M D w) (hn : nextN L ≤ 1125899906842624) (hF : D.F.length ≤ 998) :
    Calls Tryz.prog 12 #[.pointer (some ⟨ga, 0, none⟩)] w fun e w' => e = .returned (.int .i64 (syE L D)) ∧ Pr B gd ga gb (syL L D) M (syD L D) w' ∧ Below B w w' := by
  obtain ⟨A, c, R, d, A', c', R', d', h1, h2, h3, h4, h5⟩ := h.logs
  exact (sync_log h.a hn h.gd (by omega) h.env h1 h.disk (h3 ga (.inl rfl))).mono fun e w' ⟨q1, q2, q3, q4, q5⟩ =>
    ⟨q1, ⟨⟨A, c, R, d, A', c', R', d', q2, h2.wt q4 (fun j hj hq => h5 j (by rw [hq]; exact .inl rfl) hj), h3, h4, h5⟩, q3, h.env.step q5, good_sy h.a D, h.b, (good_syD h.gd L).1⟩, q5⟩
/-- A second log is opened. -/
theorem pr_open (h : St B gd ga L D w) (hF : D.F.length ≤ 998) (nm : Bs) (hnm : nm.length ≤ 100000) (per : Int) {X : Int × Lg × Dk} (hX : opnV D nm per (srtI (numsU nm D.F)) = X) (hok : X.1 = 0) (G : GoodL X.2.1) (GD2 : GoodD X.2.2) :
    Calls Tryz.prog 9 #[.pointer (some ⟨gd, 0, none⟩), sV nm, .int .i64 per] w fun e w' => ∃ g2, e = .returned (.tuple #[.pointer (some ⟨g2, 0, none⟩), .int .i64 0]) ∧ Pr B gd ga g2 L X.2.1 X.2.2 w' ∧ Below B w w' := by
  obtain ⟨A, c, R, d, k1, k2⟩ := h.log
  refine (open_log h.gd hF h.env h.disk nm hnm per).mono fun e w' hp => ?_
  rw [hX] at hp
  obtain ⟨g2, h1, h2, h3⟩ := hp
  rw [hok, if_pos rfl] at h1
  obtain ⟨A', c', R', d', j1, j2⟩ := h2 hok
  exact ⟨g2, h1, ⟨⟨A, c, R, d, A', c', R', d', k1.wt h3.wt fun _ _ f => f, j1, k2, fun k hk => Nat.le_trans h.le (j2 k hk), fun k q1 q2 => by
    have := k1.inside q1
    have := j2 k q2
    omega⟩, h3.disk, h.env.step h3.below, h.good, G, GD2⟩, h3.below⟩
end
end Go.Proofs.YtfpmcomigolacaaGreatDoor.wal
set_option linter.unusedSimpArgs false
set_option linter.unusedVariables false
namespace Go.Proofs.YtfpmcomigolacaaGreatDoor.wal
open Go.ChangeShapes Go.WideShapes Go.ChangeAt Go.RowKit Go.Maps Go.WideMaps
open Go.Proofs.YtfpmcomigolacaaGreatDoor.opened Go.Proofs.YtfpmcomigolacaaGreatDoor.block Go.Proofs.YtfpmcomigolacaaGreatDoor.words Go.Proofs.YtfpmcomigolacaaGreatDoor.disk Go.Proofs.YtfpmcomigolacaaGreatDoor.tailed Go.Proofs.YtfpmcomigolacaaGreatDoor.enc Go.Proofs.YtfpmcomigolacaaGreatDoor.code
theorem per_of8 (per : Int) : ∃ P : Nat, 1 ≤ P ∧ P ≤ 8 ∧ wrap64 (1 + wrap64 ((IntKind.u64.wrap per).tmod 8)) = (P : Int) := by
  have h0 : 0 ≤ IntKind.u64.wrap per := by
    show 0 ≤ per % 18446744073709551616
    omega
  have h1 : (IntKind.u64.wrap per).tmod 8 = IntKind.u64.wrap per % 8 := Int.tmod_eq_emod_of_nonneg h0
  rw [h1]
  generalize IntKind.u64.wrap per = x at h0
  refine ⟨(1 + x % 8).toNat, by omega, by omega, ?_⟩
  rw [IntWalk.wrap64_in (x % 8) (by omega), IntWalk.wrap64_in _ (by omega)]
  omega
theorem infoOw : (Tryz.prog.info? 33).map (·.size) = some 5 := by kernel_rfl
abbrev cOw (o : Ow) : Array Value := #[.int .i64 o.k, sV o.s, .int .i64 o.m, sV o.n, .slice o.K o.keep.length o.kc]
/-- Of a log that was opened anew, against the one that there was. -/
theorem anew_get {L M : Lg} {D D' : Dk} {fs gs : List Fi} {X : Int × Lg × Dk} (h : Anew L D D' fs gs X) (hM : M = X.2.1) {i : Int} (h0 : baseN M ≤ i) (h1 : i < nextN M) : gtE M i = 0 ∧ gtE L i = 0 ∧ gtV L i = gtV M i := by
  subst hM
  have hne : X.2.1.heads ≠ [] := fun e => by
    have hb := h.run.bare e
    have hbase : baseN X.2.1 = 0 := by unfold baseN; rw [e]; rfl
    unfold nextN at h1
    rw [hb, hbase] at h1
    rw [hbase] at h0
    have : i < 0 := h1
    omega
  have hb := h.base hne
  obtain ⟨t, ht⟩ := h.pre
  have hup := h.upto
  have e1 : ¬ (i < baseN X.2.1 ∨ nextN X.2.1 ≤ i) := by omega
  have e2 : ¬ (i < baseN L ∨ nextN L ≤ i) := by omega
  unfold gtE gtV
  rw [if_neg e1, if_neg e1, if_neg e2, if_neg e2]
  refine ⟨rfl, rfl, ?_⟩
  rw [hb, ht, List.getElem?_append_left]
  unfold nextN at h1
  omega
section
variable {w : World}
set_option maxRecDepth 100000 in
set_option maxHeartbeats 8000000 in
theorem walkLasts (per : Int) (A : Option Addr) (c : Nat) (l : List Ow) (K : Option Addr) (kc : Nat) (keep : List Int) (hl : l.length ≤ 4611686018427387903) (hw : Env w) (hL : Actw w A l) (hki : ∀ x ∈ keep, IntIn x) (hkl : keep.length ≤ 140737488351232) (hK : Lies w K (keep.map (Value.int .i64))) :
    Calls Tryz.prog 3 #[.int .i64 per, .slice A l.length c, .slice K keep.length kc] w fun e w' => e = .returned (.bool true) ∧ Below w.heap.size w w' := by
  have HW := Lib.hid (works_any hw)
  have HE := Lib.hid (EnvB.start hw)
  obtain ⟨P, P1, P8, hP⟩ := per_of8 per
  have HL := Lib.hid hL
  have HKL := Lib.hid hK
  have HKI := Lib.hid hki
  clear hL hw hK hki
  go_enter Tryz.func3, Tryz.ntmps3
  go_upto_region 3 with (go_at_call 7; refine HW.out.mono ?_; rintro e w1 ⟨rfl, b1⟩; have B1 := Lib.hid b1; clear b1)
  by_cases hk100 : 100 < keep.length
  · have hk100i : (100 : Int) < (keep.length : Int) := by omega
    go_wp2_with fail
    go_ret
    exact ⟨rfl, B1.out⟩
  have hk100i : ¬ (100 : Int) < (keep.length : Int) := by omega
  go_upto_region 6 with fail
  rw [hP]
  clear hP hk100i
  generalize wrap64 ((IntKind.u64.wrap per).tmod 8) = g1
  generalize (IntKind.u64.wrap per).tmod 8 = g2
  generalize IntKind.u64.wrap per = g3
  have hpP : (1 : Int) ≤ (P : Int) ∧ (P : Int) ≤ 64 := by omega
  have HOp := Lib.hid (opn_new (nm := [113]) (per := (P : Int)) (by decide) (by decide) (by decide) hpP)
  have HK0 : Hid (Kp [113] (P : Int) 0 (lg0 [113] (P : Int))) := Lib.hid (kp_new _ (by decide))
  have HI0 : Hid (∃ fs, Inv (lg0 [113] (P : Int)) K0 fs) := Lib.hid ⟨_, inv_new [113] (P : Int)⟩
  have HN := Lib.hid (Go.Proofs.YtfpmcomigolacaaGreatDoor.disk.newB w1 w.heap.size B1.out.size)
  go_upto_region 7 with (go_at_call 8; refine HN.out.mono ?_; rintro e w2 ⟨rfl, d2, b2⟩; have DK2 := Lib.hid d2; have B2 := Lib.hid (B1.out.trans b2); clear d2 b2)
  generalize w1.heap.size + 1 = gd at *
  have HO1 := Lib.hid (open_st DK2.out (HE.out.step B2.out) good_new (Nat.zero_le _) [113] (by decide) (P : Int) HOp.out rfl HK0.out.good good_new)
  go_upto_region 8 with (go_at_call 9; refine HO1.out.mono ?_; rintro e w3 ⟨ga, rfl, s3, -, b3⟩; have S3 : Hid (St w.heap.size gd ga (lg0 [113] (P : Int)) K0 w3) := Lib.hid s3; have B3 := Lib.hid (B2.out.trans b3); clear s3 b3)
  clear HO1 HN HW B1 B2 DK2 HOp
  have HZ0 : Hid (Sz 0 K0) := Lib.hid sz_new
  generalize lg0 [113] (P : Int) = L0 at *
  generalize K0 = D0 at *
  go_upto_block 0 with fail
  go_cut [10, 11] from 44 to 83 (fun _ _ wx => ∃ (L : Lg) (D : Dk), Hid (Kp [113] (P : Int) 60 L) ∧ Hid (Sz 60 D) ∧ Hid (∃ fs, Inv L D fs) ∧ Hid (St w.heap.size gd ga L D wx) ∧ Hid (Below w.heap.size w wx))
  case first =>
    go_wp2_with fail
    go_loopw [10, 11] (fun i _ wr => ∃ (j : Nat) (L : Lg) (D : Dk), j ≤ l.length ∧ j ≤ 60 ∧ i = .int .i64 (j : Int) ∧ Hid (Kp [113] (P : Int) j L) ∧ Hid (Sz j D) ∧ Hid (∃ fs, Inv L D fs) ∧ Hid (St w.heap.size gd ga L D wr) ∧ Hid (Below w.heap.size w wr)) (fun i _ _ => l.length - (intOf i).toNat)
    case atStart => exact ⟨0, L0, D0, Nat.zero_le _, Nat.zero_le _, rfl, HK0, HZ0, HI0, S3, B3⟩
    case round =>
      obtain ⟨j, L, D, hjl, hj1, rfl, HKp, HSz, HInv, HS, HB⟩ := hrel
      clear HK0 HZ0 HI0 S3 B3
      by_cases h1 : j < l.length
      · by_cases h2 : j < 60
        · obtain ⟨o, ho⟩ : ∃ o, l[j]? = some o := ⟨_, List.getElem?_eq_getElem h1⟩
          have HLr := HL.out.below (HB.out : Below w.heap.size w wr)
          obtain ⟨b, off, hA, hb, c0, c1, c2, c3, c4⟩ := HLr.at ho
          obtain ⟨oi, -⟩ := HLr.keep ho
          subst hA
          have h1i : (j : Int) < (l.length : Int) := by omega
          have h2i : (j : Int) < 60 := by omega
          have HG := Lib.hid (fun W => greatw_any o oi W)
          have HNO := Lib.hid (greatw_no (o := o))
          have HIm := Lib.hid oi.m
          have hz := HB.out.size
          have B2 := Lib.hid (HB.out.alloc hz (.cells (cOw o) 33))
          have S2 := Lib.hid (HS.out.below (fresh1' wr (.cells (cOw o) 33)))
          have OZ := Lib.hid (Whole.fresh wr 33 (cOw o))
          clear HLr ho oi HS hz
          go_upto_region 14 with fail
          change Code.wp _ _ _ _ (wr.alloc (.cells (cOw o) 33))
          generalize wr.alloc (.cells (cOw o) 33) = W2 at B2 S2 OZ ⊢
          generalize wr.heap.size = gz at OZ ⊢
          clear c0 c1 c2 c3 c4 hb HB
          cases hgr : greatwB o with
          | true =>
            rw [hgr] at HG
            clear hgr HNO
            go_wp2_with (first | (refine get rfl 33 (.tmp 11) rfl rfl OZ.out Tryz.underlying33 rfl infoOw ?_) | (go_at_call 10; refine (HG.out _).mono ?_; rintro e w3 ⟨rfl, b3⟩; have B3 := Lib.hid (B2.out.trans (b3.mono B2.out.size)); clear b3))
            go_ret
            exact ⟨rfl, B3.out⟩
          | false =>
            rw [hgr] at HG
            obtain ⟨os, on, -⟩ := HNO.out hgr
            clear hgr HNO
            go_upto_region 16 with (first | (refine get rfl 33 (.tmp 11) rfl rfl OZ.out Tryz.underlying33 rfl infoOw ?_) | (go_at_call 10; refine (HG.out _).mono ?_; rintro e w3 ⟨rfl, b3⟩; have B3 := Lib.hid (B2.out.trans (b3.mono B2.out.size)); have S3 := Lib.hid (S2.out.below b3); have OZ3 := Lib.hid (OZ.out.below b3 OZ.out.inside); clear b3))
            have z0 : w3.cell? ⟨gz, 0, none⟩ = some (.int .i64 o.k) := OZ3.out.read 0
            have y0 : w3.frozen? ⟨gz, 0, none⟩ = false := OZ3.out.soft 0
            have z1 : w3.cell? ⟨gz, 1, none⟩ = some (sV o.s) := OZ3.out.read 1
            have y1 : w3.frozen? ⟨gz, 1, none⟩ = false := OZ3.out.soft 1
            have z2 : w3.cell? ⟨gz, 2, none⟩ = some (.int .i64 o.m) := OZ3.out.read 2
            have y2 : w3.frozen? ⟨gz, 2, none⟩ = false := OZ3.out.soft 2
            clear HG B2 S2 OZ OZ3 on
            have hnx : nextN L ≤ 60 := by have := HKp.out.next; omega
            have hrl : L.recs.length ≤ 60 := by have := HKp.out.recs; omega
            have hlen : D.F.length ≤ 120 := by have := HSz.out.len; omega
            have hper : L.per = (P : Int) := HKp.out.per
            by_cases q0 : o.k = 0
            · rw [q0] at z0
              clear q0
              have HAp := Lib.hid (st_append S3.out (by rw [hper]; omega) (by omega) (by omega) (by omega) o.s (by omega) (HKp.out.app D o.s).good (ap_sz HSz.out o.s).gd)
              have K2 : Hid (Kp [113] (P : Int) (j + 1) (apL L D o.s)) := Lib.hid (HKp.out.app D o.s)
              have Z2 : Hid (Sz (j + 1) (apD L D o.s)) := Lib.hid (ap_sz HSz.out o.s)
              have I2 : Hid (∃ fs, Inv (apL L D o.s) (apD L D o.s) fs) := Lib.hid (by
                obtain ⟨fs, hi⟩ := HInv.out
                exact hi.app HKp.out.good HSz.out.gd HKp.out.bare o.s)
              clear HKp HSz HInv S3 hnx hrl hlen hper os
              generalize apN L D o.s = an at HAp
              generalize apE L D o.s = ae at HAp
              generalize apL L D o.s = L' at HAp K2 I2
              generalize apD L D o.s = D' at HAp Z2 I2
              generalize o.s = s at z1 HAp
              go_wp2_with (go_at_call 11; refine HAp.out.mono ?_; rintro e w4 ⟨rfl, s4, b4⟩; have S4 := Lib.hid s4; have B4 := Lib.hid (B3.out.trans b4); clear s4 b4)
              go_roundw
              case rel => exact ⟨j + 1, L', D', by omega, by omega, by go_num, K2, Z2, I2, S4, B4⟩
              case measure => simp [intOf]; omega
            · have p0 : (o.k == 0) = false := by simpa using q0
              by_cases q1 : o.k = 1
              · rw [q1] at z0
                clear q0 q1 p0
                have HAp := Lib.hid (st_sync S3.out (by omega) (by omega))
                have K2 : Hid (Kp [113] (P : Int) (j + 1) (syL L D)) := Lib.hid ((HKp.out.sync D).more (Nat.le_succ _))
                have Z2 : Hid (Sz (j + 1) (syD L D)) := Lib.hid (sy_sz HSz.out)
                have I2 : Hid (∃ fs, Inv (syL L D) (syD L D) fs) := Lib.hid (by
                  obtain ⟨fs, hi⟩ := HInv.out
                  exact ⟨fs, (hi.sync HKp.out.good HSz.out.gd).1⟩)
                clear HKp HSz HInv S3 hnx hrl hlen hper os
                generalize syE L D = ae at HAp
                generalize syL L D = L' at HAp K2 I2
                generalize syD L D = D' at HAp Z2 I2
                go_wp2_with (go_at_call 12; refine HAp.out.mono ?_; rintro e w4 ⟨rfl, s4, b4⟩; have S4 := Lib.hid s4; have B4 := Lib.hid (B3.out.trans b4); clear s4 b4)
                go_roundw
                case rel => exact ⟨j + 1, L', D', by omega, by omega, by go_num, K2, Z2, I2, S4, B4⟩
                case measure => simp [intOf]; omega
              · have p1 : (o.k == 1) = false := by simpa using q1
                by_cases q2 : o.k = 2
                · rw [q2] at z0
                  clear q0 q1 q2 p0 p1
                  have HAp := Lib.hid (st_drop S3.out (by omega) (by omega) o.m (HKp.out.drop HSz.out.gd o.m).good (dr_sz HKp.out HSz.out o.m).gd)
                  have K2 : Hid (Kp [113] (P : Int) (j + 1) (drV L D o.m).2.1) := Lib.hid ((HKp.out.drop HSz.out.gd o.m).more (Nat.le_succ _))
                  have Z2 : Hid (Sz (j + 1) (drV L D o.m).2.2) := Lib.hid (dr_sz HKp.out HSz.out o.m)
                  have I2 : Hid (∃ fs, Inv (drV L D o.m).2.1 (drV L D o.m).2.2 fs) := Lib.hid (by
                    obtain ⟨fs, hi⟩ := HInv.out
                    exact hi.drop HKp.out.good HSz.out.gd o.m)
                  clear HKp HSz HInv S3 hnx hrl hlen hper os
                  generalize (drV L D o.m).1 = ae at HAp
                  generalize (drV L D o.m).2.1 = L' at HAp K2 I2
                  generalize (drV L D o.m).2.2 = D' at HAp Z2 I2
                  generalize o.m = m at z2 HAp
                  go_wp2_with (go_at_call 13; refine HAp.out.mono ?_; rintro e w4 ⟨rfl, s4, b4⟩; have S4 := Lib.hid s4; have B4 := Lib.hid (B3.out.trans b4); clear s4 b4)
                  go_roundw
                  case rel => exact ⟨j + 1, L', D', by omega, by omega, by go_num, K2, Z2, I2, S4, B4⟩
                  case measure => simp [intOf]; omega
                · have p2 : (o.k == 2) = false := by simpa using q2
                  by_cases q3 : o.k = 3
                  · rw [q3] at z0
                    clear q0 q1 q2 q3 p0 p1 p2
                    have hm0 := HIm.out.1
                    have hm1 := HIm.out.2
                    have HAp := Lib.hid (st_arm S3.out o.m hm0 hm1)
                    have K2 : Hid (Kp [113] (P : Int) (j + 1) L) := Lib.hid (HKp.out.more (Nat.le_succ _))
                    have Z2 : Hid (Sz (j + 1) (armV D o.m)) := Lib.hid ((arm_sz HSz.out hm0 hm1).more (Nat.le_succ _))
                    have I2 : Hid (∃ fs, Inv L (armV D o.m) fs) := Lib.hid (by
                      obtain ⟨fs, hi⟩ := HInv.out
                      exact ⟨fs, hi.disk HKp.out.good fun _ _ _ => rfl⟩)
                    clear HKp HSz HInv S3 hnx hrl hlen hper os hm0 hm1 HIm
                    generalize armV D o.m = D' at HAp Z2 I2
                    generalize o.m = m at z2 HAp
                    go_wp2_with (go_at_call 14; refine HAp.out.mono ?_; rintro e w4 ⟨rfl, s4, b4⟩; have S4 := Lib.hid s4; have B4 := Lib.hid (B3.out.trans b4); clear s4 b4)
                    go_roundw
                    case rel => exact ⟨j + 1, L, D', by omega, by omega, by go_num, K2, Z2, I2, S4, B4⟩
                    case measure => simp [intOf]; omega
                  · have p3 : (o.k == 3) = false := by simpa using q3
                    have K2 : Hid (Kp [113] (P : Int) (j + 1) L) := Lib.hid (HKp.out.more (Nat.le_succ _))
                    have Z2 : Hid (Sz (j + 1) D) := Lib.hid (HSz.out.more (Nat.le_succ _))
                    clear q0 q1 q2 q3 HKp HSz hnx hrl hlen hper os HIm
                    go_wp2_with fail
                    go_roundw
                    case rel => exact ⟨j + 1, L, D, by omega, by omega, by go_num, K2, Z2, HInv, S3, B3⟩
                    case measure => simp [intOf]; omega
        · have h2i : ¬ (j : Int) < 60 := by omega
          have h1i : (j : Int) < (l.length : Int) := by omega
          have hj : j = 60 := by omega
          subst hj
          go_wp2_with fail
          go_meet
          case rel => exact ⟨L, D, HKp, HSz, HInv, HS, HB⟩
      · have h1i : ¬ (j : Int) < (l.length : Int) := by omega
        have K2 : Hid (Kp [113] (P : Int) 60 L) := Lib.hid (HKp.out.more hj1)
        have Z2 : Hid (Sz 60 D) := Lib.hid (HSz.out.more hj1)
        go_wp2_with fail
        go_meet
        case rel => exact ⟨L, D, K2, Z2, HInv, HS, HB⟩
  case rest =>
    obtain ⟨L, D, HKp, HSz, HInv, HS, HB⟩ := hcut
    clear HK0 HZ0 HI0 S3 B3 HL
    have HLo := Lib.hid HS.out.lat
    have HKw := Lib.hid (lies_below HKL.out HB.out)
    obtain ⟨A', c', w4, hap, hl4, hn4, b4⟩ := own_ints wc K kc keep (by omega) HKw.out 23
    have hnx := HKp.out.next
    have hlen : D.F.length ≤ 120 := by have := HSz.out.len; omega
    have HM := Lib.hid (mendN HSz.out.gd (by omega) A' c' keep (fun x hx => (HKI.out x hx).2) (by omega) HS.out.le HS.out.disk b4 hl4 hn4)
    obtain ⟨fs, hinv⟩ := HInv.out
    have HX := anew hinv HKp.out.good (by omega) (cut_mend HSz.out.gd keep) (good_mend HSz.out.gd keep) (by rw [HKp.out.nm]; decide) (by rw [HKp.out.nm]; decide) (by rw [HKp.out.per]; omega)
    rw [HKp.out.nm, HKp.out.per] at HX
    obtain ⟨gs, X, hX, hA⟩ := HX
    have HAn := Lib.hid hA
    have HOX := Lib.hid hX
    have hsz := mend_sz HSz.out keep
    have HDsz := Lib.hid hsz
    have hFm : (mendV D keep).F.length ≤ 120 := by have := hsz.len; omega
    have HG := Lib.hid HKp.out.good
    clear hl4 hn4 HKw HKL HKI hinv HInv hX hA hsz
    have HSw := Lib.hid HS.out
    go_upto_region 26 with (first | (at_builtin; refine wpList_append_run rfl _ _ 23 23 rfl rfl rfl hap ?_) | (go_at_call 15; refine HM.out.mono ?_; rintro e w5 ⟨rfl, d5, t5, b5⟩; have DK5 := Lib.hid d5; have LA5 := Lib.hid (HLo.out.wt t5); have B5 := Lib.hid (HB.out.trans b5); clear d5 t5 b5))
    clear hap b4 HM HLo HS HSw
    have HO := Lib.hid (open_st DK5.out (HE.out.step B5.out) HDsz.out.gd (by omega) [113] (by decide) (P : Int) HOX.out HAn.out.ok HAn.out.run.good HAn.out.run.gd)
    go_upto_region 27 with (go_at_call 9; refine HO.out.mono ?_; rintro e w6 ⟨gb, rfl, s6, t6, b6⟩; have S6 := Lib.hid s6; have LA6 := Lib.hid (LA5.out.wt t6); have B6 := Lib.hid (B5.out.trans b6); clear s6 t6 b6)
    clear HO DK5 LA5 B5 HOX
    have hlasts := HAn.out.lasts
    have hupto := HAn.out.upto
    have hbase := HAn.out.base
    have hrg := HAn.out.run.good
    have hb0 := hrg.base
    have hbn := base_le hrg
    have HNb : Hid (∀ w1, Lat w1 gb gd X.2.1 → Calls Tryz.prog 16 #[.pointer (some ⟨gb, 0, none⟩)] w1 fun e w' => e = .returned (.int .i64 (nextN X.2.1)) ∧ Below w1.heap.size w1 w') := Lib.hid fun w1 h => lat_next h hrg (by omega)
    have HNa : Hid (∀ w1, Lat w1 ga gd L → Calls Tryz.prog 16 #[.pointer (some ⟨ga, 0, none⟩)] w1 fun e w' => e = .returned (.int .i64 (nextN L)) ∧ Below w1.heap.size w1 w') := Lib.hid fun w1 h => lat_next h HG.out (by omega)
    have HSa : Hid (∀ w1, Lat w1 ga gd L → Calls Tryz.prog 17 #[.pointer (some ⟨ga, 0, none⟩)] w1 fun e w' => e = .returned (.int .i64 L.syn) ∧ Below w1.heap.size w1 w') := Lib.hid fun w1 h => lat_synced h
    have HFb : Hid (∀ w1, Lat w1 gb gd X.2.1 → Calls Tryz.prog 18 #[.pointer (some ⟨gb, 0, none⟩)] w1 fun e w' => e = .returned (.int .i64 (X.2.1.heads.length : Int)) ∧ Below w1.heap.size w1 w') := Lib.hid fun w1 h => lat_files h
    have HBb : Hid (∀ w1, Lat w1 gb gd X.2.1 → Calls Tryz.prog 19 #[.pointer (some ⟨gb, 0, none⟩)] w1 fun e w' => e = .returned (.int .i64 (baseN X.2.1)) ∧ Below w1.heap.size w1 w') := Lib.hid fun w1 h => lat_base h
    have HBa : Hid (∀ w1, Lat w1 ga gd L → Calls Tryz.prog 19 #[.pointer (some ⟨ga, 0, none⟩)] w1 fun e w' => e = .returned (.int .i64 (baseN L)) ∧ Below w1.heap.size w1 w') := Lib.hid fun w1 h => lat_base h
    have HGb : Hid (∀ w1 i, Lat w1 gb gd X.2.1 → baseN X.2.1 ≤ i → i < nextN X.2.1 → Calls Tryz.prog 20 #[.pointer (some ⟨gb, 0, none⟩), .int .i64 i] w1 fun e w' => e = .returned (.tuple #[sV (gtV X.2.1 i), .int .i64 0]) ∧ Below w1.heap.size w1 w') := Lib.hid fun w1 i h i0 i1 => by
      have := lat_get h hrg (by omega) i (by omega) (by omega)
      rwa [(anew_get HAn.out rfl i0 i1).1] at this
    have HGa : Hid (∀ w1 i, Lat w1 ga gd L → baseN X.2.1 ≤ i → i < nextN X.2.1 → Calls Tryz.prog 20 #[.pointer (some ⟨ga, 0, none⟩), .int .i64 i] w1 fun e w' => e = .returned (.tuple #[sV (gtV X.2.1 i), .int .i64 0]) ∧ Below w1.heap.size w1 w') := Lib.hid fun w1 i h i0 i1 => by
      have := lat_get h HG.out (by omega) i (by omega) (by omega)
      obtain ⟨-, e2, e3⟩ := anew_get HAn.out rfl i0 i1
      rwa [e2, e3] at this
    have hu : used X.2.2.F ≤ 248040 := by
      have h1 := HAn.out.used
      have h2 := HDsz.out.used
      omega
    have hnf : nextF X.2.1 ≤ 61 := by
      have h1 := HAn.out.next
      have h2 := HKp.out.files
      omega
    have hF6 : X.2.2.F.length ≤ 121 := by
      have := HAn.out.files
      omega
    have hper : X.2.1.per = (P : Int) := HAn.out.per.trans HKp.out.per
    have hrun := HAn.out.run
    have hmore := hrun.app (s := [109, 111, 114, 101]) (by decide) (by omega) (by show used X.2.2.F + (4 + 38) ≤ 262144; omega)
    have hrl : X.2.1.recs.length ≤ 60 := by
      unfold nextN at hupto hnx
      have : nextN X.2.1 ≤ 60 := by unfold nextN; omega
      unfold nextN at this
      omega
    obtain ⟨m1, m2, m3, m4, m5, m6, m7, m8, m9, -⟩ := hmore
    obtain ⟨x1, x2, x3, x4⟩ := ap_next (D := X.2.2) hrun.bare [109, 111, 114, 101]
    rw [m1, if_pos rfl] at x2
    have HAp := Lib.hid (fun w1 (h : St w.heap.size gd gb X.2.1 X.2.2 w1) => st_append h (by rw [hper]; omega) (by omega) (by omega) (by omega) [109, 111, 114, 101] (by decide) m2.good m2.gd)
    have hapn : apN X.2.1 X.2.2 [109, 111, 114, 101] = nextN X.2.1 := by unfold apN; rw [m1, if_pos rfl]
    rw [m1, hapn] at HAp
    have hgl : gtE (apL X.2.1 X.2.2 [109, 111, 114, 101]) (nextN X.2.1) = 0 ∧ gtV (apL X.2.1 X.2.2 [109, 111, 114, 101]) (nextN X.2.1) = [109, 111, 114, 101] := by
      have e1 : ¬ (nextN X.2.1 < baseN (apL X.2.1 X.2.2 [109, 111, 114, 101]) ∨ nextN (apL X.2.1 X.2.2 [109, 111, 114, 101]) ≤ nextN X.2.1) := by rw [x1, x2]; omega
      unfold gtE gtV
      rw [if_neg e1, if_neg e1, x1, m5]
      refine ⟨rfl, ?_⟩
      have e2 : (nextN X.2.1 - baseN X.2.1).toNat = X.2.1.recs.length := by unfold nextN; omega
      rw [e2, List.getElem?_append_right (Nat.le_refl _)]
      simp
    have HGl : Hid (∀ w1, St w.heap.size gd gb (apL X.2.1 X.2.2 [109, 111, 114, 101]) (apD X.2.1 X.2.2 [109, 111, 114, 101]) w1 → Calls Tryz.prog 20 #[.pointer (some ⟨gb, 0, none⟩), .int .i64 (nextN X.2.1)] w1 fun e w' => e = .returned (.tuple #[sV [109, 111, 114, 101], .int .i64 0]) ∧ Below w1.heap.size w1 w') := Lib.hid fun w1 h => by
      have := st_get h (by rw [x2]; omega) (nextN X.2.1) (by omega) (by omega)
      rwa [hgl.1, hgl.2] at this
    have HNl : Hid (∀ w1, St w.heap.size gd gb (apL X.2.1 X.2.2 [109, 111, 114, 101]) (apD X.2.1 X.2.2 [109, 111, 114, 101]) w1 → Calls Tryz.prog 16 #[.pointer (some ⟨gb, 0, none⟩)] w1 fun e w' => e = .returned (.int .i64 (nextN X.2.1 + 1)) ∧ Below w1.heap.size w1 w') := Lib.hid fun w1 h => by
      have := st_next h (by rw [x2]; omega)
      rwa [x2] at this
    clear m1 m2 m3 m4 m5 m6 m7 m8 m9 x1 x2 x3 x4 hapn hgl hrun hu hnf hF6 hper hrl hrg HAn HDsz HKp HSz HG hlen hFm
    have hzb : X.2.1.heads.length = 0 ∨ (0 < X.2.1.heads.length ∧ baseN X.2.1 = baseN L) := by
      cases e : X.2.1.heads with
      | nil => exact .inl rfl
      | cons a r => exact .inr ⟨by simp, hbase (by rw [e]; simp)⟩
    clear hbase
    generalize apL X.2.1 X.2.2 [109, 111, 114, 101] = M2 at HAp HGl HNl
    generalize apD X.2.1 X.2.2 [109, 111, 114, 101] = D2 at HAp HGl HNl
    generalize X.2.2 = D1 at *
    have HGV : ∃ gv : Int → Bs, gv = gtV X.2.1 := ⟨_, rfl⟩
    obtain ⟨gv, hgv⟩ := HGV
    rw [← hgv] at HGa HGb
    clear hgv
    generalize X.2.1 = M at *
    generalize M.heads.length = fl at *
    have S6' := S6
    generalize baseN M = bb at *
    generalize nextN M = nb at *
    generalize baseN L = ba at *
    generalize nextN L = na at *
    generalize L.syn = sy at *
    have LB6 := Lib.hid S6.out.lat
    clear S6'
    have hn1 : ¬ nb < sy := by omega
    have hn2 : ¬ na < nb := by omega
    have CNb : ∀ w1, Hid (Lat w1 gb gd M) → Calls Tryz.prog 16 #[.pointer (some ⟨gb, 0, none⟩)] w1 fun e w' => e = .returned (.int .i64 nb) ∧ Below w1.heap.size w1 w' := fun w1 h => HNb.out w1 h.out
    clear CNb
    have step : ∀ {w1 w2 : World}, Lat w1 gb gd M ∧ Lat w1 ga gd L ∧ St w.heap.size gd gb M D1 w1 ∧ Below w.heap.size w w1 → Below w1.heap.size w1 w2 → Lat w2 gb gd M ∧ Lat w2 ga gd L ∧ St w.heap.size gd gb M D1 w2 ∧ Below w.heap.size w w2 := fun ⟨h1, h2, h3, h4⟩ hb => ⟨h1.below hb, h2.below hb, h3.below hb, then_below h4 hb⟩
    have ALL := Lib.hid (show Lat w6 gb gd M ∧ Lat w6 ga gd L ∧ St w.heap.size gd gb M D1 w6 ∧ Below w.heap.size w w6 from ⟨LB6.out, LA6.out, S6.out, B6.out⟩)
    clear LB6 LA6 S6 B6 hlasts hupto
    have hflz : ((0 : Int) < (fl : Int)) ∧ bb = ba ∨ ¬ (0 : Int) < (fl : Int) := by
      rcases hzb with h | ⟨h1, h2⟩
      · right; omega
      · left; exact ⟨by omega, h2⟩
    clear hzb
    have hib : -9223372036854775808 ≤ bb ∧ bb ≤ 9223372036854775807 ∧ nb ≤ 60 := by omega
    rcases hflz with ⟨hz, hbe⟩ | hz
    · subst hbe
      go_wp2_with (first
        | (go_at_call 16; (with_reducible refine (HNb.out _ ALL.out.1).mono ?_); rintro e w7 ⟨rfl, b⟩; replace ALL := Lib.hid (step ALL.out b); clear b)
        | (go_at_call 16; (with_reducible refine (HNa.out _ ALL.out.2.1).mono ?_); rintro e w7 ⟨rfl, b⟩; replace ALL := Lib.hid (step ALL.out b); clear b)
        | (go_at_call 17; (with_reducible refine (HSa.out _ ALL.out.2.1).mono ?_); rintro e w7 ⟨rfl, b⟩; replace ALL := Lib.hid (step ALL.out b); clear b)
        | (go_at_call 18; (with_reducible refine (HFb.out _ ALL.out.1).mono ?_); rintro e w7 ⟨rfl, b⟩; replace ALL := Lib.hid (step ALL.out b); clear b)
        | (go_at_call 19; (with_reducible refine (HBb.out _ ALL.out.1).mono ?_); rintro e w7 ⟨rfl, b⟩; replace ALL := Lib.hid (step ALL.out b); clear b)
        | (go_at_call 19; (with_reducible refine (HBa.out _ ALL.out.2.1).mono ?_); rintro e w7 ⟨rfl, b⟩; replace ALL := Lib.hid (step ALL.out b); clear b))
      clear HNa HSa HFb HBb HBa hz
      go_loopw [13] (fun i wr => ∃ iv : Int, bb ≤ iv ∧ iv ≤ nb ∧ i = .int .i64 iv ∧ Hid (Lat wr gb gd M ∧ Lat wr ga gd L ∧ St w.heap.size gd gb M D1 wr ∧ Below w.heap.size w wr)) (fun i _ => (nb - intOf i).toNat)
      case atStart => exact ⟨bb, Int.le_refl _, hbn, rfl, ALL⟩
      case round =>
        clear ALL
        obtain ⟨iv, hi0, hi1, rfl, ALL⟩ := hrel
        by_cases h1 : iv < nb
        · have hss : ((⟨(gv iv).toArray⟩ : ByteArray) != ⟨(gv iv).toArray⟩) = false := by
            have e : ((⟨(gv iv).toArray⟩ : ByteArray) == ⟨(gv iv).toArray⟩) = true := by first | (show ((gv iv).toArray == (gv iv).toArray) = true; simp) | exact beq_self_eq_true _
            rw [bne, e]; rfl
          have hwi : wrap64 (iv + 1) = iv + 1 := by unfold wrap64; omega
          go_wp2_with (first
            | (go_at_call 16; (with_reducible refine (HNb.out _ ALL.out.1).mono ?_); rintro e w8 ⟨rfl, b⟩; replace ALL := Lib.hid (step ALL.out b); clear b)
            | (go_at_call 20; (with_reducible refine (HGa.out _ iv ALL.out.2.1 hi0 h1).mono ?_); rintro e w9 ⟨rfl, b⟩; replace ALL := Lib.hid (step ALL.out b); clear b)
            | (go_at_call 20; (with_reducible refine (HGb.out _ iv ALL.out.1 hi0 h1).mono ?_); rintro e w9 ⟨rfl, b⟩; replace ALL := Lib.hid (step ALL.out b); clear b))
          go_roundw
          case rel => exact ⟨iv + 1, by omega, by omega, by first | rfl | go_num, ALL⟩
          case measure => simp [intOf]; omega
        · have h1e : iv = nb := by omega
          clear HGa HGb
          have hwn : wrap64 (nb + 1 - 1) = nb := by unfold wrap64; omega
          go_wp2_with (first
            | (go_at_call 16; (with_reducible refine (HNb.out _ ALL.out.1).mono ?_); rintro e w8 ⟨rfl, b⟩; have AL8 := Lib.hid (step ALL.out b); clear b)
            | (go_at_call 11; (with_reducible refine (HAp.out _ AL8.out.2.2.1).mono ?_); rintro e w9 ⟨rfl, s9, b9⟩; have S9 := Lib.hid s9; have B9 := Lib.hid (AL8.out.2.2.2.trans b9); clear s9 b9)
            | (go_at_call 20; (with_reducible refine (HGl.out _ S9.out).mono ?_); rintro e w10 ⟨rfl, b⟩; have S10 := Lib.hid (S9.out.below b); have B10 := Lib.hid (then_below B9.out b); clear b)
            | (go_at_call 16; (with_reducible refine (HNl.out _ S10.out).mono ?_); rintro e w11 ⟨rfl, b⟩; have B11 := Lib.hid (then_below B10.out b); clear b))
          go_ret
          exact ⟨rfl, B11.out⟩
    · go_wp2_with (first
        | (go_at_call 16; (with_reducible refine (HNb.out _ ALL.out.1).mono ?_); rintro e w7 ⟨rfl, b⟩; replace ALL := Lib.hid (step ALL.out b); clear b)
        | (go_at_call 16; (with_reducible refine (HNa.out _ ALL.out.2.1).mono ?_); rintro e w7 ⟨rfl, b⟩; replace ALL := Lib.hid (step ALL.out b); clear b)
        | (go_at_call 17; (with_reducible refine (HSa.out _ ALL.out.2.1).mono ?_); rintro e w7 ⟨rfl, b⟩; replace ALL := Lib.hid (step ALL.out b); clear b)
        | (go_at_call 18; (with_reducible refine (HFb.out _ ALL.out.1).mono ?_); rintro e w7 ⟨rfl, b⟩; replace ALL := Lib.hid (step ALL.out b); clear b)
        | (go_at_call 19; (with_reducible refine (HBb.out _ ALL.out.1).mono ?_); rintro e w7 ⟨rfl, b⟩; replace ALL := Lib.hid (step ALL.out b); clear b)
        | (go_at_call 19; (with_reducible refine (HBa.out _ ALL.out.2.1).mono ?_); rintro e w7 ⟨rfl, b⟩; replace ALL := Lib.hid (step ALL.out b); clear b))
      clear HNa HSa HFb HBb HBa hz
      go_loopw [13] (fun i wr => ∃ iv : Int, bb ≤ iv ∧ iv ≤ nb ∧ i = .int .i64 iv ∧ Hid (Lat wr gb gd M ∧ Lat wr ga gd L ∧ St w.heap.size gd gb M D1 wr ∧ Below w.heap.size w wr)) (fun i _ => (nb - intOf i).toNat)
      case atStart => exact ⟨bb, Int.le_refl _, hbn, rfl, ALL⟩
      case round =>
        clear ALL
        obtain ⟨iv, hi0, hi1, rfl, ALL⟩ := hrel
        by_cases h1 : iv < nb
        · have hss : ((⟨(gv iv).toArray⟩ : ByteArray) != ⟨(gv iv).toArray⟩) = false := by
            have e : ((⟨(gv iv).toArray⟩ : ByteArray) == ⟨(gv iv).toArray⟩) = true := by first | (show ((gv iv).toArray == (gv iv).toArray) = true; simp) | exact beq_self_eq_true _
            rw [bne, e]; rfl
          have hwi : wrap64 (iv + 1) = iv + 1 := by unfold wrap64; omega
          go_wp2_with (first
            | (go_at_call 16; (with_reducible refine (HNb.out _ ALL.out.1).mono ?_); rintro e w8 ⟨rfl, b⟩; replace ALL := Lib.hid (step ALL.out b); clear b)
            | (go_at_call 20; (with_reducible refine (HGa.out _ iv ALL.out.2.1 hi0 h1).mono ?_); rintro e w9 ⟨rfl, b⟩; replace ALL := Lib.hid (step ALL.out b); clear b)
            | (go_at_call 20; (with_reducible refine (HGb.out _ iv ALL.out.1 hi0 h1).mono ?_); rintro e w9 ⟨rfl, b⟩; replace ALL := Lib.hid (step ALL.out b); clear b))
          go_roundw
          case rel => exact ⟨iv + 1, by omega, by omega, by first | rfl | go_num, ALL⟩
          case measure => simp [intOf]; omega
        · have h1e : iv = nb := by omega
          clear HGa HGb
          have hwn : wrap64 (nb + 1 - 1) = nb := by unfold wrap64; omega
          go_wp2_with (first
            | (go_at_call 16; (with_reducible refine (HNb.out _ ALL.out.1).mono ?_); rintro e w8 ⟨rfl, b⟩; have AL8 := Lib.hid (step ALL.out b); clear b)
            | (go_at_call 11; (with_reducible refine (HAp.out _ AL8.out.2.2.1).mono ?_); rintro e w9 ⟨rfl, s9, b9⟩; have S9 := Lib.hid s9; have B9 := Lib.hid (AL8.out.2.2.2.trans b9); clear s9 b9)
            | (go_at_call 20; (with_reducible refine (HGl.out _ S9.out).mono ?_); rintro e w10 ⟨rfl, b⟩; have S10 := Lib.hid (S9.out.below b); have B10 := Lib.hid (then_below B9.out b); clear b)
            | (go_at_call 16; (with_reducible refine (HNl.out _ S10.out).mono ?_); rintro e w11 ⟨rfl, b⟩; have B11 := Lib.hid (then_below B10.out b); clear b))
          go_ret
          exact ⟨rfl, B11.out⟩
end
end Go.Proofs.YtfpmcomigolacaaGreatDoor.wal
