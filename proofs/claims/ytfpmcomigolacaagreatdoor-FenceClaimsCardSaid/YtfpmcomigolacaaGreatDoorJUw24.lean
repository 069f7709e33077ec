/-
  A log on its disk, in one word: the contracts for the laws.
  The card of works: what each of its calls does, reckoned by the kernel.
-/
import Derived.Test.YtfpmcomigolacaaGreatDoorJUw22
set_option linter.unusedSimpArgs false
set_option linter.unusedVariables false
namespace Go.Proofs.YtfpmcomigolacaaGreatDoor.wal
open Go.ChangeShapes Go.WideShapes Go.ChangeAt Go.RowKit Go.Maps Go.WideMaps
open Go.Proofs.YtfpmcomigolacaaGreatDoor.opened Go.Proofs.YtfpmcomigolacaaGreatDoor.block Go.Proofs.YtfpmcomigolacaaGreatDoor.words Go.Proofs.YtfpmcomigolacaaGreatDoor.disk Go.Proofs.YtfpmcomigolacaaGreatDoor.tailed Go.Proofs.YtfpmcomigolacaaGreatDoor.enc Go.Proofs.YtfpmcomigolacaaGreatDoor.code
structure St (B gd gl : Nat) (L : Lg) (D : Dk) (w : World) : Prop where
  log : ∃ A c R d, LogE w gl gd L A c R d ∧ ∀ k, lblk gl A R k → B ≤ k
  disk : DiskB w B gd D
  env : EnvB B w
  good : GoodL L
  gd : GoodD D
section
variable {B gd gl : Nat} {L : Lg} {D : Dk} {w w' : World}
theorem St.below (h : St B gd gl L D w) (hb : Below w.heap.size w w') : St B gd gl L D w' := by
  obtain ⟨A, c, R, d, h1, h2⟩ := h.log
  exact ⟨⟨A, c, R, d, h1.below hb, h2⟩, h.disk.below hb, h.env.below hb, h.good, h.gd⟩
theorem St.le (h : St B gd gl L D w) : B ≤ w.heap.size := h.env.le
theorem St.turn {M : Lg} {D2 : Dk} {A R : Option Addr} (h : St B gd gl L D w) (hlb : ∀ k, lblk gl A R k → B ≤ k) (hB : B ≤ w.heap.size) (ht : LTurn B gl gd A R M D2 w w') (G : GoodL M) (GD : GoodD D2) : St B gd gl M D2 w' := by
  obtain ⟨A', c', R', d', h1, h2⟩ := ht.log
  exact ⟨⟨A', c', R', d', h1, lb_of hlb hB h2⟩, ht.disk, h.env.step ht.below, G, GD⟩
theorem st_append (h : St B gd gl L D w) (hp : 1 ≤ L.per ∧ L.per ≤ 64) (hn : nextN L ≤ 1125899906842624) (hr : L.recs.length ≤ 1000000000) (hF : D.F.length ≤ 998) (s : Bs) (hs : s.length ≤ 100000) (G : GoodL (apL L D s)) (GD : GoodD (apD L D s)) :
    Calls Tryz.prog 11 #[.pointer (some ⟨gl, 0, none⟩), sV s] w fun e w' => e = .returned (.tuple #[.int .i64 (apN L D s), .int .i64 (apE L D s)]) ∧ St B gd gl (apL L D s) (apD L D s) w' ∧ Below B w w' := by
  obtain ⟨A, c, R, d, h1, h2⟩ := h.log
  exact (append_log h.good hp hn hr h.gd hF h.env h1 h.disk h2 s hs).mono fun e w' ⟨q1, q2⟩ => ⟨q1, h.turn h2 h.le q2 G GD, q2.below⟩
theorem st_sync (h : St B gd gl L D w) (hn : nextN L ≤ 1125899906842624) (hF : D.F.length ≤ 998) :
    Calls Tryz.prog 12 #[.pointer (some ⟨gl, 0, none⟩)] w fun e w' => e = .returned (.int .i64 (syE L D)) ∧ St B gd gl (syL L D) (syD L D) w' ∧ Below B w w' := by
  obtain ⟨A, c, R, d, h1, h2⟩ := h.log
  exact (sync_log h.good hn h.gd (by omega) h.env h1 h.disk (h2 gl (.inl rfl))).mono fun e w' ⟨q1, q2, q3, q4, q5⟩ => ⟨q1, ⟨⟨A, c, R, d, q2, h2⟩, q3, h.env.step q5, good_sy h.good D, (good_syD h.gd L).1⟩, q5⟩
theorem st_drop (h : St B gd gl L D w) (hn : nextN L ≤ 1125899906842624) (hF : D.F.length ≤ 998) (m : Int) (G : GoodL (drV L D m).2.1) (GD : GoodD (drV L D m).2.2) :
    Calls Tryz.prog 13 #[.pointer (some ⟨gl, 0, none⟩), .int .i64 m] w fun e w' => e = .returned (.int .i64 (drV L D m).1) ∧ St B gd gl (drV L D m).2.1 (drV L D m).2.2 w' ∧ Below B w w' := by
  obtain ⟨A, c, R, d, h1, h2⟩ := h.log
  exact (drop_log h.good hn h.gd hF h.env h1 h.disk h2 m).mono fun e w' ⟨q1, q2⟩ => ⟨q1, h.turn h2 h.le q2 G GD, q2.below⟩
theorem st_get (h : St B gd gl L D w) (hn : nextN L ≤ 1125899906842624) (n : Int) (n0 : -9223372036854775808 ≤ n) (n1 : n ≤ 9223372036854775807) :
    Calls Tryz.prog 20 #[.pointer (some ⟨gl, 0, none⟩), .int .i64 n] w fun e w' => e = .returned (.tuple #[sV (gtV L n), .int .i64 (gtE L n)]) ∧ Below w.heap.size w w' := by
  obtain ⟨A, c, R, d, h1, h2⟩ := h.log
  exact get_any h.good hn n n0 n1 h1
theorem st_next (h : St B gd gl L D w) (hn : nextN L ≤ 1125899906842624) : Calls Tryz.prog 16 #[.pointer (some ⟨gl, 0, none⟩)] w fun e w' => e = .returned (.int .i64 (nextN L)) ∧ Below w.heap.size w w' := by
  obtain ⟨A, c, R, d, h1, h2⟩ := h.log
  exact next_any h.good hn h1
theorem st_base (h : St B gd gl L D w) : Calls Tryz.prog 19 #[.pointer (some ⟨gl, 0, none⟩)] w fun e w' => e = .returned (.int .i64 (baseN L)) ∧ Below w.heap.size w w' := by
  obtain ⟨A, c, R, d, h1, h2⟩ := h.log
  exact base_any h1
theorem st_files (h : St B gd gl L D w) : Calls Tryz.prog 18 #[.pointer (some ⟨gl, 0, none⟩)] w fun e w' => e = .returned (.int .i64 (L.heads.length : Int)) ∧ Below w.heap.size w w' := by
  obtain ⟨A, c, R, d, h1, h2⟩ := h.log
  exact files_any h1
theorem st_synced (h : St B gd gl L D w) : Calls Tryz.prog 17 #[.pointer (some ⟨gl, 0, none⟩)] w fun e w' => e = .returned (.int .i64 L.syn) ∧ Below w.heap.size w w' := by
  obtain ⟨A, c, R, d, h1, h2⟩ := h.log
  exact synced_any h1
/-- A log is opened: another one, at gl, keeps. -/
theorem open_st (hD : DiskB w B gd D) (hE : EnvB B w) (GD : GoodD D) (hF : D.F.length ≤ 998) (nm : Bs) (hnm : nm.length ≤ 100000) (per : Int) {X : Int × Lg × Dk} (hX : opnV D nm per (srtI (numsU nm D.F)) = X) (hok : X.1 = 0) (G : GoodL X.2.1) (GD2 : GoodD X.2.2) :
    Calls Tryz.prog 9 #[.pointer (some ⟨gd, 0, none⟩), sV nm, .int .i64 per] w fun e w' => ∃ g2, e = .returned (.tuple #[.pointer (some ⟨g2, 0, none⟩), .int .i64 0]) ∧ St B gd g2 X.2.1 X.2.2 w' ∧ WT w w' (fun _ => False) ∧ Below B w w' := by
  refine (open_log GD hF hE hD nm hnm per).mono fun e w' hp => ?_
  rw [hX] at hp
  obtain ⟨g2, h1, h2, h3⟩ := hp
  rw [hok, if_pos rfl] at h1
  obtain ⟨A, c, R, d, k1, k2⟩ := h2 hok
  exact ⟨g2, h1, ⟨⟨A, c, R, d, k1, fun k hk => Nat.le_trans hE.le (k2 k hk)⟩, h3.disk, hE.step h3.below, G, GD2⟩, h3.wt, h3.below⟩
end
end Go.Proofs.YtfpmcomigolacaaGreatDoor.wal
set_option linter.unusedSimpArgs false
set_option linter.unusedVariables false
namespace Go.Proofs.YtfpmcomigolacaaGreatDoor.wal
open Go.ChangeShapes Go.WideShapes Go.ChangeAt Go.RowKit Go.Maps Go.WideMaps
open Go.Proofs.YtfpmcomigolacaaGreatDoor.opened Go.Proofs.YtfpmcomigolacaaGreatDoor.block Go.Proofs.YtfpmcomigolacaaGreatDoor.words Go.Proofs.YtfpmcomigolacaaGreatDoor.disk Go.Proofs.YtfpmcomigolacaaGreatDoor.tailed Go.Proofs.YtfpmcomigolacaaGreatDoor.enc Go.Proofs.YtfpmcomigolacaaGreatDoor.code
theorem srt_nil : srtI [] = [] := by simp [srtI]
theorem srt_one (x : Int) : srtI [x] = [x] := by simp [srtI]
theorem srt_two {x y : Int} (h : x ≤ y) : srtI [x, y] = [x, y] := by
  have := List.Perm.eq_of_pairwise (le := (· ≤ ·)) (fun a b _ _ h1 h2 => Int.le_antisymm h1 h2) (srt_sorted [x, y]) (by simp [h]) (srt_perm [x, y])
  exact this
def q0 : Bs := [113]
def A0 : Lg := (opnV K0 q0 1 []).2.1
theorem v0 : opnV K0 q0 1 (srtI (numsU q0 K0.F)) = (0, lg0 q0 1, K0) := by
  rw [show numsU q0 K0.F = [] from by kernel_rfl, srt_nil]
  kernel_rfl
def A1 : Lg := apL (lg0 q0 1) K0 [97]
def D1 : Dk := apD (lg0 q0 1) K0 [97]
theorem v1 : apE (lg0 q0 1) K0 [97] = 0 ∧ apN (lg0 q0 1) K0 [97] = 0 := ⟨by kernel_rfl, by kernel_rfl⟩
def A2 : Lg := apL A1 D1 [98]
def D2 : Dk := apD A1 D1 [98]
theorem v2 : apE A1 D1 [98] = 0 ∧ apN A1 D1 [98] = 1 := ⟨by kernel_rfl, by kernel_rfl⟩
theorem v2g : gtE A2 0 = 0 ∧ gtV A2 0 = [97] := ⟨by kernel_rfl, by kernel_rfl⟩
theorem v3 : (drV A2 D2 1).1 = 0 := by kernel_rfl
def A3 : Lg := (drV A2 D2 1).2.1
def D3 : Dk := (drV A2 D2 1).2.2
theorem v3g : gtE A3 0 = 1 := by kernel_rfl
theorem v4 : A3.heads.length = 1 ∧ baseN A3 = 1 ∧ A3.syn = 2 := ⟨by kernel_rfl, by kernel_rfl, by kernel_rfl⟩
def D4 : Dk := mendV D3 []
theorem v5 : numsU q0 D4.F = [2] := by kernel_rfl
def X5 : Int × Lg × Dk := opnV D4 q0 1 [2]
theorem v6 : opnV D4 q0 1 (srtI (numsU q0 D4.F)) = X5 := by rw [v5, srt_one]; rfl
theorem v7 : X5.1 = 0 ∧ nextN X5.2.1 = 2 ∧ baseN X5.2.1 = 1 := ⟨by kernel_rfl, by kernel_rfl, by kernel_rfl⟩
theorem v8 : chkE X5.2.2 [113, 49] 1 = 6 := by kernel_rfl
theorem v9 : K0.F.length = 0 ∧ D1.F.length = 1 ∧ D2.F.length = 2 ∧ D3.F.length = 1 ∧ D4.F.length = 1 ∧ X5.2.2.F.length = 1 := ⟨by kernel_rfl, by kernel_rfl, by kernel_rfl, by kernel_rfl, by kernel_rfl, by kernel_rfl⟩
theorem v10 : nextN (lg0 q0 1) = 0 ∧ nextN A1 = 1 ∧ nextN A2 = 2 ∧ nextN A3 = 2 := ⟨by kernel_rfl, by kernel_rfl, by kernel_rfl, by kernel_rfl⟩
theorem v11 : (lg0 q0 1).per = 1 ∧ A1.per = 1 ∧ (lg0 q0 1).recs.length = 0 ∧ A1.recs.length = 1 := ⟨by kernel_rfl, by kernel_rfl, by kernel_rfl, by kernel_rfl⟩
instance (L : Lg) : Decidable (L.nm.length ≤ 8 ∧ 1 ≤ L.least ∧ nextF L ≤ 1000 ∧ L.heads.Pairwise (· ≤ ·) ∧ 0 ≤ baseN L ∧ ∀ h ∈ L.heads, h ≤ nextN L) := inferInstance
theorem good_of {L : Lg} (h : decide (L.nm.length ≤ 8 ∧ 1 ≤ L.least ∧ nextF L ≤ 1000 ∧ L.heads.Pairwise (· ≤ ·) ∧ 0 ≤ baseN L ∧ ∀ h ∈ L.heads, h ≤ nextN L) = true) : GoodL L := by
  obtain ⟨h1, h2, h3, h4, h5, h6⟩ := of_decide_eq_true h
  exact ⟨h1, h2, h3, h4, h5, h6⟩
theorem gA0 : GoodL (lg0 q0 1) := good_of (by kernel_rfl)
theorem gA1 : GoodL A1 := good_of (by kernel_rfl)
theorem gA2 : GoodL A2 := good_of (by kernel_rfl)
theorem gA3 : GoodL A3 := good_of (by kernel_rfl)
theorem gA5 : GoodL X5.2.1 := good_of (by kernel_rfl)
end Go.Proofs.YtfpmcomigolacaaGreatDoor.wal
