/-
  The contracts of the paths of a depth that are made of another one.
  graph.Inner (by gen_in.py).
-/
import Derived.Test.YtpblpjopinllcaaGreatDoorJKn
import Derived.Deep.Cut
import Derived.Deep.CutRange
import Derived.Test.YtpblpjopinllcaaGreatDoorJGsc
namespace Go.Proofs.YtpblpjopinllcaaGreatDoor.path
open Go.ChangeShapes Go.WideShapes Go.ChangeAt Go.RowKit
open Go.Proofs.YtpblpjopinllcaaGreatDoor.tm Go.Proofs.YtpblpjopinllcaaGreatDoor.opened Go.Proofs.YtpblpjopinllcaaGreatDoor.block Go.Proofs.YtpblpjopinllcaaGreatDoor.stamp Go.Proofs.YtpblpjopinllcaaGreatDoor.pa

theorem goBy_any (d n : Int) (n0 : 0 ≤ n) (_n1 : n ≤ 4294967295) (w : World) : Calls Tryz.prog 98 #[.int .i64 d, .int .u32 n] w (Gives (goByV d n) (goByE d n) w) := by
  unfold goByV goByE
  split <;> rename_i hc
  · have h0 : 0 ≤ d := by omega
    have h1 : d ≤ 3 := by omega
    clear hc
    split <;> rename_i hn
    · go_enter Tryz.func98, Tryz.ntmps98
      go_wp2_with (first
        | (go_at_call 99; refine (stay_good d h0 h1 _).mono ?_; rintro e w1 ⟨rfl, b1⟩; obtain ⟨hR, hB, hx⟩ := res_of b1; clear b1; generalize hg : w.heap.size = g at hR hB hx ⊢; have HG := Lib.hid hg; clear hg)
        | (refine put rfl 53 (.tmp 4) _ rfl (g := g) rfl rfl (hR.alloc _) (by kernel_rfl) rfl (by simp [Value.oneCell']) (hB.alloc (by omega) _) (Nat.le_refl _) ?_; intro w2 hR2 hB2 hs2 ho2; clear hR hB))
      refine bodyPost_ret (two_path Tryz.results98 rfl rfl (P := Pa.mk d d n 0 0 0 0 0 0 0) hR2) rfl (gives_at HG hB2 rfl rfl)
    · go_enter Tryz.func98, Tryz.ntmps98
      go_wp2_with (first
        | (go_at_call 99; refine (stay_good d h0 h1 _).mono ?_; rintro e w1 ⟨rfl, b1⟩; obtain ⟨hR, hB, hx⟩ := res_of b1; clear b1; generalize hg : w.heap.size = g at hR hB hx ⊢; have HG := Lib.hid hg; clear hg)
        | (refine put rfl 53 (.tmp 4) _ rfl (g := g) rfl rfl (hR.alloc _) (by kernel_rfl) rfl (by simp [Value.oneCell']) (hB.alloc (by omega) _) (Nat.le_refl _) ?_; intro w2 hR2 hB2 hs2 ho2; clear hR hB))
      refine bodyPost_ret (two_path Tryz.results98 rfl rfl (P := P0) hR2) rfl (gives_at HG hB2 rfl rfl)
  · have h : d < 0 ∨ 3 < d := by omega
    clear hc
    go_enter Tryz.func98, Tryz.ntmps98
    go_wp2_with (first
      | (go_at_call 99; refine (stay_bad d h _).mono ?_; rintro e w1 ⟨rfl, b1⟩; obtain ⟨hR, hB, hx⟩ := res_of b1; clear b1; generalize hg : w.heap.size = g at hR hB hx ⊢; have HG := Lib.hid hg; clear hg)
      | (refine put rfl 53 (.tmp 4) _ rfl (g := g) rfl rfl (hR.alloc _) (by kernel_rfl) rfl (by simp [Value.oneCell']) (hB.alloc (by omega) _) (Nat.le_refl _) ?_; intro w2 hR2 hB2 hs2 ho2; clear hR hB))
    refine bodyPost_ret (two_path Tryz.results98 rfl rfl (P := P0) hR2) rfl (gives_at HG hB2 rfl rfl)
theorem goByR_any (d n : Int) (n0 : 0 ≤ n) (_n1 : n ≤ 4294967295) (w : World) : Calls Tryz.prog 195 #[.int .i64 d, .int .u32 n] w (Gives (goByV d n) (goByE d n) w) := by
  unfold goByV goByE
  split <;> rename_i hc
  · have h0 : 0 ≤ d := by omega
    have h1 : d ≤ 3 := by omega
    clear hc
    split <;> rename_i hn
    · go_enter Tryz.func195, Tryz.ntmps195
      go_wp2_with (first
        | (go_at_call 125; refine (stayR_good d h0 h1 _).mono ?_; rintro e w1 ⟨rfl, b1⟩; obtain ⟨hR, hB, hx⟩ := res_of b1; clear b1; generalize hg : w.heap.size = g at hR hB hx ⊢; have HG := Lib.hid hg; clear hg)
        | (refine put rfl 102 (.tmp 4) _ rfl (g := g) rfl rfl (hR.alloc _) (by kernel_rfl) rfl (by simp [Value.oneCell']) (hB.alloc (by omega) _) (Nat.le_refl _) ?_; intro w2 hR2 hB2 hs2 ho2; clear hR hB))
      refine bodyPost_ret (two_pathR Tryz.results195 rfl rfl (P := Pa.mk d d n 0 0 0 0 0 0 0) hR2) rfl (gives_at HG hB2 rfl rfl)
    · go_enter Tryz.func195, Tryz.ntmps195
      go_wp2_with (first
        | (go_at_call 125; refine (stayR_good d h0 h1 _).mono ?_; rintro e w1 ⟨rfl, b1⟩; obtain ⟨hR, hB, hx⟩ := res_of b1; clear b1; generalize hg : w.heap.size = g at hR hB hx ⊢; have HG := Lib.hid hg; clear hg)
        | (refine put rfl 102 (.tmp 4) _ rfl (g := g) rfl rfl (hR.alloc _) (by kernel_rfl) rfl (by simp [Value.oneCell']) (hB.alloc (by omega) _) (Nat.le_refl _) ?_; intro w2 hR2 hB2 hs2 ho2; clear hR hB))
      refine bodyPost_ret (two_pathR Tryz.results195 rfl rfl (P := P0) hR2) rfl (gives_at HG hB2 rfl rfl)
  · have h : d < 0 ∨ 3 < d := by omega
    clear hc
    go_enter Tryz.func195, Tryz.ntmps195
    go_wp2_with (first
      | (go_at_call 125; refine (stayR_bad d h _).mono ?_; rintro e w1 ⟨rfl, b1⟩; obtain ⟨hR, hB, hx⟩ := res_of b1; clear b1; generalize hg : w.heap.size = g at hR hB hx ⊢; have HG := Lib.hid hg; clear hg)
      | (refine put rfl 102 (.tmp 4) _ rfl (g := g) rfl rfl (hR.alloc _) (by kernel_rfl) rfl (by simp [Value.oneCell']) (hB.alloc (by omega) _) (Nat.le_refl _) ?_; intro w2 hR2 hB2 hs2 ho2; clear hR hB))
    refine bodyPost_ret (two_pathR Tryz.results195 rfl rfl (P := P0) hR2) rfl (gives_at HG hB2 rfl rfl)
theorem goInR_any (d : Int) (w : World) : Calls Tryz.prog 192 #[.int .i64 d] w (Gives (goInV d) (goInE d) w) := by
  unfold goInV goInE
  split <;> rename_i hc
  · have h0 : 0 ≤ d := by omega
    have h1 : d ≤ 3 := by omega
    have h3 : (d == 3) = false := by simp; omega
    clear hc
    go_enter Tryz.func192, Tryz.ntmps192
    go_wp2_with (first
      | (go_at_call 125; refine (stayR_good d h0 h1 _).mono ?_; rintro e w1 ⟨rfl, b1⟩; obtain ⟨hR, hB, hx⟩ := res_of b1; clear b1; generalize hg : w.heap.size = g at hR hB hx ⊢; have HG := Lib.hid hg; clear hg)
      | (refine put rfl 102 (.tmp 2) _ rfl (g := g) rfl rfl (hR.alloc _) (by kernel_rfl) rfl (by simp [Value.oneCell']) (hB.alloc (by omega) _) (Nat.le_refl _) ?_; intro w2 hR2 hB2 hs2 ho2; clear hR hB))
    refine bodyPost_ret (two_pathR Tryz.results192 rfl rfl (P := Pa.mk d d 0 0 0 0 1 0 0 0) hR2) rfl (gives_at HG hB2 rfl rfl)
  · by_cases h3 : d = 3
    · subst h3
      clear hc
      go_enter Tryz.func192, Tryz.ntmps192
      go_wp2_with (first
        | (go_at_call 125; refine (stayR_good 3 (by omega) (by omega) _).mono ?_; rintro e w1 ⟨rfl, b1⟩; obtain ⟨hR, hB, hx⟩ := res_of b1; clear b1; generalize hg : w.heap.size = g at hR hB hx ⊢; have HG := Lib.hid hg; clear hg)
        | (refine put rfl 102 (.tmp 2) _ rfl (g := g) rfl rfl (hR.alloc _) (by kernel_rfl) rfl (by simp [Value.oneCell']) (hB.alloc (by omega) _) (Nat.le_refl _) ?_; intro w2 hR2 hB2 hs2 ho2; clear hR hB))
      refine bodyPost_ret (two_pathR Tryz.results192 rfl rfl (P := P0) hR2) rfl (gives_at HG hB2 rfl rfl)
    · have h : d < 0 ∨ 3 < d := by omega
      clear hc h3
      go_enter Tryz.func192, Tryz.ntmps192
      go_wp2_with (first
        | (go_at_call 125; refine (stayR_bad d h _).mono ?_; rintro e w1 ⟨rfl, b1⟩; obtain ⟨hR, hB, hx⟩ := res_of b1; clear b1; generalize hg : w.heap.size = g at hR hB hx ⊢; have HG := Lib.hid hg; clear hg)
        | (refine put rfl 102 (.tmp 2) _ rfl (g := g) rfl rfl (hR.alloc _) (by kernel_rfl) rfl (by simp [Value.oneCell']) (hB.alloc (by omega) _) (Nat.le_refl _) ?_; intro w2 hR2 hB2 hs2 ho2; clear hR hB))
      refine bodyPost_ret (two_pathR Tryz.results192 rfl rfl (P := P0) hR2) rfl (gives_at HG hB2 rfl rfl)
theorem goOutR_any (d : Int) (w : World) : Calls Tryz.prog 193 #[.int .i64 d] w (Gives (goOutV d) (goOutE d) w) := by
  unfold goOutV goOutE
  split <;> rename_i hc
  · have h0 : 0 ≤ d := by omega
    have h1 : d ≤ 3 := by omega
    have h3 : (d == 0) = false := by simp; omega
    clear hc
    go_enter Tryz.func193, Tryz.ntmps193
    go_wp2_with (first
      | (go_at_call 125; refine (stayR_good d h0 h1 _).mono ?_; rintro e w1 ⟨rfl, b1⟩; obtain ⟨hR, hB, hx⟩ := res_of b1; clear b1; generalize hg : w.heap.size = g at hR hB hx ⊢; have HG := Lib.hid hg; clear hg)
      | (refine put rfl 102 (.tmp 2) _ rfl (g := g) rfl rfl (hR.alloc _) (by kernel_rfl) rfl (by simp [Value.oneCell']) (hB.alloc (by omega) _) (Nat.le_refl _) ?_; intro w2 hR2 hB2 hs2 ho2; clear hR hB))
    refine bodyPost_ret (two_pathR Tryz.results193 rfl rfl (P := Pa.mk d (d - 1) 0 0 0 0 0 0 0 0) hR2) rfl (gives_at HG hB2 rfl rfl)
  · by_cases h3 : d = 0
    · subst h3
      clear hc
      go_enter Tryz.func193, Tryz.ntmps193
      go_wp2_with (first
        | (go_at_call 125; refine (stayR_good 0 (by omega) (by omega) _).mono ?_; rintro e w1 ⟨rfl, b1⟩; obtain ⟨hR, hB, hx⟩ := res_of b1; clear b1; generalize hg : w.heap.size = g at hR hB hx ⊢; have HG := Lib.hid hg; clear hg)
        | (refine put rfl 102 (.tmp 2) _ rfl (g := g) rfl rfl (hR.alloc _) (by kernel_rfl) rfl (by simp [Value.oneCell']) (hB.alloc (by omega) _) (Nat.le_refl _) ?_; intro w2 hR2 hB2 hs2 ho2; clear hR hB))
      refine bodyPost_ret (two_pathR Tryz.results193 rfl rfl (P := P0) hR2) rfl (gives_at HG hB2 rfl rfl)
    · have h : d < 0 ∨ 3 < d := by omega
      clear hc h3
      go_enter Tryz.func193, Tryz.ntmps193
      go_wp2_with (first
        | (go_at_call 125; refine (stayR_bad d h _).mono ?_; rintro e w1 ⟨rfl, b1⟩; obtain ⟨hR, hB, hx⟩ := res_of b1; clear b1; generalize hg : w.heap.size = g at hR hB hx ⊢; have HG := Lib.hid hg; clear hg)
        | (refine put rfl 102 (.tmp 2) _ rfl (g := g) rfl rfl (hR.alloc _) (by kernel_rfl) rfl (by simp [Value.oneCell']) (hB.alloc (by omega) _) (Nat.le_refl _) ?_; intro w2 hR2 hB2 hs2 ho2; clear hR hB))
      refine bodyPost_ret (two_pathR Tryz.results193 rfl rfl (P := P0) hR2) rfl (gives_at HG hB2 rfl rfl)
theorem goOnR_any (d : Int) (w : World) : Calls Tryz.prog 194 #[.int .i64 d] w (Gives (goOnV d) (goOnE d) w) := by
  unfold goOnV goOnE
  split <;> rename_i hc
  · have hd : d = 1 ∨ d = 2 ∨ d = 3 := by omega
    clear hc
    rcases hd with rfl | rfl | rfl
    · go_enter Tryz.func194, Tryz.ntmps194
      go_wp2_with (first
        | (go_at_call 125; refine (stayR_good 1 (by omega) (by omega) _).mono ?_; rintro e w1 ⟨rfl, b1⟩; obtain ⟨hR, hB, hx⟩ := res_of b1; clear b1; generalize hg : w.heap.size = g at hR hB hx ⊢; have HG := Lib.hid hg; clear hg)
        | (refine put rfl 102 (.tmp 2) _ rfl (g := g) rfl rfl (hR.alloc _) (by kernel_rfl) rfl (by simp [Value.oneCell']) (hB.alloc (by omega) _) (Nat.le_refl _) ?_; intro w2 hR2 hB2 hs2 ho2; clear hR hB))
      refine bodyPost_ret (two_pathR Tryz.results194 rfl rfl (P := Pa.mk 1 1 0 1 0 0 0 0 0 0) hR2) rfl (gives_at HG hB2 rfl rfl)
    · go_enter Tryz.func194, Tryz.ntmps194
      go_wp2_with (first
        | (go_at_call 125; refine (stayR_good 2 (by omega) (by omega) _).mono ?_; rintro e w1 ⟨rfl, b1⟩; obtain ⟨hR, hB, hx⟩ := res_of b1; clear b1; generalize hg : w.heap.size = g at hR hB hx ⊢; have HG := Lib.hid hg; clear hg)
        | (refine put rfl 102 (.tmp 2) _ rfl (g := g) rfl rfl (hR.alloc _) (by kernel_rfl) rfl (by simp [Value.oneCell']) (hB.alloc (by omega) _) (Nat.le_refl _) ?_; intro w2 hR2 hB2 hs2 ho2; clear hR hB))
      refine bodyPost_ret (two_pathR Tryz.results194 rfl rfl (P := Pa.mk 2 2 0 0 1 0 0 0 0 0) hR2) rfl (gives_at HG hB2 rfl rfl)
    · go_enter Tryz.func194, Tryz.ntmps194
      go_wp2_with (first
        | (go_at_call 125; refine (stayR_good 3 (by omega) (by omega) _).mono ?_; rintro e w1 ⟨rfl, b1⟩; obtain ⟨hR, hB, hx⟩ := res_of b1; clear b1; generalize hg : w.heap.size = g at hR hB hx ⊢; have HG := Lib.hid hg; clear hg)
        | (refine put rfl 102 (.tmp 2) _ rfl (g := g) rfl rfl (hR.alloc _) (by kernel_rfl) rfl (by simp [Value.oneCell']) (hB.alloc (by omega) _) (Nat.le_refl _) ?_; intro w2 hR2 hB2 hs2 ho2; clear hR hB))
      refine bodyPost_ret (two_pathR Tryz.results194 rfl rfl (P := Pa.mk 3 3 0 0 0 1 0 0 0 0) hR2) rfl (gives_at HG hB2 rfl rfl)
  · by_cases h3 : d = 0
    · subst h3
      clear hc
      go_enter Tryz.func194, Tryz.ntmps194
      go_wp2_with (first
        | (go_at_call 125; refine (stayR_good 0 (by omega) (by omega) _).mono ?_; rintro e w1 ⟨rfl, b1⟩; obtain ⟨hR, hB, hx⟩ := res_of b1; clear b1; generalize hg : w.heap.size = g at hR hB hx ⊢; have HG := Lib.hid hg; clear hg)
        | (refine put rfl 102 (.tmp 2) _ rfl (g := g) rfl rfl (hR.alloc _) (by kernel_rfl) rfl (by simp [Value.oneCell']) (hB.alloc (by omega) _) (Nat.le_refl _) ?_; intro w2 hR2 hB2 hs2 ho2; clear hR hB))
      refine bodyPost_ret (two_pathR Tryz.results194 rfl rfl (P := P0) hR2) rfl (gives_at HG hB2 rfl rfl)
    · have h : d < 0 ∨ 3 < d := by omega
      clear hc h3
      go_enter Tryz.func194, Tryz.ntmps194
      go_wp2_with (first
        | (go_at_call 125; refine (stayR_bad d h _).mono ?_; rintro e w1 ⟨rfl, b1⟩; obtain ⟨hR, hB, hx⟩ := res_of b1; clear b1; generalize hg : w.heap.size = g at hR hB hx ⊢; have HG := Lib.hid hg; clear hg)
        | (refine put rfl 102 (.tmp 2) _ rfl (g := g) rfl rfl (hR.alloc _) (by kernel_rfl) rfl (by simp [Value.oneCell']) (hB.alloc (by omega) _) (Nat.le_refl _) ?_; intro w2 hR2 hB2 hs2 ho2; clear hR hB))
      refine bodyPost_ret (two_pathR Tryz.results194 rfl rfl (P := P0) hR2) rfl (gives_at HG hB2 rfl rfl)
end Go.Proofs.YtpblpjopinllcaaGreatDoor.path
namespace Go.Proofs.YtpblpjopinllcaaGreatDoor.graph
open Go.ChangeShapes Go.WideShapes Go.ChangeAt Go.RowKit
open Go.Proofs.YtpblpjopinllcaaGreatDoor.opened Go.Proofs.YtpblpjopinllcaaGreatDoor.block Go.Proofs.YtpblpjopinllcaaGreatDoor.words
open Go.Proofs.YtpblpjopinllcaaGreatDoor.pa Go.Proofs.YtpblpjopinllcaaGreatDoor.path
/-- The way through an operator of a kind, at a depth. -/
def wayV (k x d : Int) : Pa := if k = 7 then goInV d else if k = 8 then goOutV d else if k = 9 then goOnV d else if k = 10 then goByV d x else stayV d
def wayE (k x d : Int) : Int := if k = 7 then goInE d else if k = 8 then goOutE d else if k = 9 then goOnE d else if k = 10 then goByE d x else stayE d
def inV (g : Gr) (i : Int) : Pa := if checkE g ≠ 0 then P0 else if i < 0 ∨ (g.o.length : Int) ≤ i then P0 else match g.o[i.toNat]? with
  | none => P0
  | some x => wayV x.k x.x (deepL g.l (loopV g i.toNat false))
def inE (g : Gr) (i : Int) : Int := if checkE g ≠ 0 then checkE g else if i < 0 ∨ (g.o.length : Int) ≤ i then 1 else match g.o[i.toNat]? with
  | none => 0
  | some x => wayE x.k x.x (deepL g.l (loopV g i.toNat false))
theorem num_delay {g : Gr} {x : Oq} (h : opE g x = 0) (k : x.k = 10) : 0 ≤ x.x ∧ x.x ≤ 1000 := by
  have := (opE_parts h).2.2.2.2
  unfold numsB at this
  rw [k] at this
  simp at this
  omega
set_option maxRecDepth 100000 in
set_option maxHeartbeats 2000000 in
theorem inner_any (v : Gv) (g : Gr) (F : Fit v g) (I : g.In) (i : Int) (w : World) (h : Lies4 w v g) (K : KT w) :
    Calls Tryz.prog 24 #[gV v g, .int .i64 i] w (Gives (inV g i) (inE g i) w) := by
  have CK := fun w1 (h1 : Lies4 w1 v g) (k1 : KT w1) => check_any v g F I w1 h1 k1
  have IP := isOp_any v g i
  have LA := loopAt_walk v g
  have DA := depth_any v g g.l.length (Nat.le_refl _)
  obtain ⟨va, vb, vd, ve, vi, vj, vk, vm⟩ := v
  unfold gV at CK LA DA IP ⊢
  dsimp only at CK LA DA IP ⊢
  obtain ⟨E, hE⟩ : ∃ E, inE g i = E := ⟨_, rfl⟩
  obtain ⟨V, hV⟩ : ∃ V, inV g i = V := ⟨_, rfl⟩
  rw [hE, hV]
  unfold inV at hV
  unfold inE at hE
  have b1 := fresh1 w (.cells #[.slice va g.c.length vi, .slice vb g.l.length vj, .slice vd g.o.length vk, .slice ve g.h.length vm] 27)
  have OX := Whole.fresh w 27 #[.slice va g.c.length vi, .slice vb g.l.length vj, .slice vd g.o.length vk, .slice ve g.h.length vm]
  have hgg := OX.inside
  have H1 := h.below b1
  have K1 := K.below b1
  generalize hw1 : w.alloc (.cells #[.slice va g.c.length vi, .slice vb g.l.length vj, .slice vd g.o.length vk, .slice ve g.h.length vm] 27) = w1 at b1 OX hgg H1 K1
  have b2 := fresh1 w1 (.cells #[.int .i64 P0.f, .int .i64 P0.k, .int .u32 P0.p0, .int .u32 P0.p1, .int .u32 P0.p2, .int .u32 P0.p3, .int .i64 P0.u, .int .u32 P0.l0, .int .u32 P0.l1, .int .u32 P0.l2] 53)
  have OR := Whole.fresh w1 53 #[.int .i64 P0.f, .int .i64 P0.k, .int .u32 P0.p0, .int .u32 P0.p1, .int .u32 P0.p2, .int .u32 P0.p3, .int .i64 P0.u, .int .u32 P0.l0, .int .u32 P0.l1, .int .u32 P0.l2]
  have hgr := OR.inside
  have B1 := Lib.hid (b1.trans (b2.mono b1.size))
  have OX1 := Lib.hid (OX.below b2 OX.inside)
  have H2 := Lib.hid (H1.below b2)
  have K2 := Lib.hid (K1.below b2)
  replace CK := Lib.hid CK
  replace LA := Lib.hid LA
  replace DA := Lib.hid DA
  replace IP := Lib.hid IP
  clear h H1
  go_enter Tryz.func24, Tryz.ntmps24
  go_upto_region 1 with fail
  change Code.wp _ _ _ _ (w1.alloc (.cells #[.int .i64 P0.f, .int .i64 P0.k, .int .u32 P0.p0, .int .u32 P0.p1, .int .u32 P0.p2, .int .u32 P0.p3, .int .i64 P0.u, .int .u32 P0.l0, .int .u32 P0.l1, .int .u32 P0.l2] 53))
  have hsw : w1.heap.size = w.heap.size + 1 := by rw [← hw1, size_alloc]
  generalize w1.alloc (.cells #[.int .i64 P0.f, .int .i64 P0.k, .int .u32 P0.p0, .int .u32 P0.p1, .int .u32 P0.p2, .int .u32 P0.p3, .int .i64 P0.u, .int .u32 P0.l0, .int .u32 P0.l1, .int .u32 P0.l2] 53) = w2 at b2 OR hgr B1 OX1 H2 K2 ⊢
  obtain ⟨gg, hg⟩ : ∃ gg, w.heap.size = gg := ⟨_, rfl⟩
  rw [hg] at OX1 OX hgg hsw B1 ⊢
  replace hg := Lib.hid hg
  rw [hsw] at OR hgr hgg ⊢
  replace OR := Lib.hid OR
  clear hw1 b1 b2 OX hsw K1 K
  have k := OX1.out.read
  have k0 : w2.cell? ⟨gg, 0, none⟩ = some (.slice va g.c.length vi) := k 0
  have k1 : w2.cell? ⟨gg, 1, none⟩ = some (.slice vb g.l.length vj) := k 1
  have k2 : w2.cell? ⟨gg, 2, none⟩ = some (.slice vd g.o.length vk) := k 2
  have k3 : w2.cell? ⟨gg, 3, none⟩ = some (.slice ve g.h.length vm) := k 3
  clear k
  have hB0 : gg ≤ w2.heap.size := by rw [← hg.out]; exact B1.out.size
  replace CK := Lib.hid (CK.out w2 H2.out K2.out)
  by_cases q : checkE g = 0
  case neg =>
    have e0 : checkE g = E := by rw [← hE, if_pos q]
    obtain rfl : P0 = V := by rw [← hV, if_pos q]
    rw [e0] at CK q
    have nb : (E == 0) = false := by rw [beq_eq_false_iff_ne]; exact q
    clear hE hV q LA DA e0
    go_upto_region 3 with (go_at_call 23; refine CK.out.mono ?_; rintro e w3 ⟨rfl, b3⟩; have R3 := OR.out.below b3 OR.out.inside; have B3 := B1.out.trans (b3.mono hB0))
    go_wp2_with (refine put rfl 53 (.tmp 4) _ rfl (cells := #[.int .i64 0, .int .i64 0, .int .u32 0, .int .u32 0, .int .u32 0, .int .u32 0, .int .i64 0, .int .u32 0, .int .u32 0, .int .u32 0]) (g := gg + 1) rfl rfl R3 (by kernel_rfl) rfl (by simp [Value.oneCell']) B3 (by omega) ?_; intro w9 hR9 hB9 hs9 ho9)
    exact bodyPost_ret (v := .tuple #[.agg #[.int .i64 P0.f, .int .i64 P0.k, .int .u32 P0.p0, .int .u32 P0.p1, .int .u32 P0.p2, .int .u32 P0.p3, .int .i64 P0.u, .int .u32 P0.l0, .int .u32 P0.l1, .int .u32 P0.l2], .int .i64 E]) (two_path Tryz.results24 (by rfl) (by rfl) hR9) rfl (gives_at hg hB9 rfl rfl)
  rw [if_neg (by rw [q]; decide)] at hE hV
  obtain ⟨q1, q2, q3, q4, q5⟩ := check_parts q
  obtain ⟨z1, z2, z3, z4, z5, z6⟩ := sizes_of q1
  have HU := Lib.hid (up_of q3)
  have LR := loop_range q
  have OQ := Lib.hid (fun (j : Nat) (x : Oq) (hx : g.o[j]? = some x) => oq_parts q hx)
  have IL := Lib.hid (inLoops_of q4)
  rw [q] at CK
  clear q1 q2 q3 q4 q5 q
  go_upto_region 4 with (go_at_call 23; refine CK.out.mono ?_; rintro e w3 ⟨rfl, b3⟩)
  have R3 := Lib.hid (OR.out.below b3 OR.out.inside)
  have B3 := Lib.hid (B1.out.trans (b3.mono hB0))
  have H3 := Lib.hid (H2.out.below b3)
  have OX3 := Lib.hid (OX1.out.below b3 OX1.out.inside)
  have k := OX3.out.read
  clear k0 k1 k2 k3 CK b3 OR B1 H2 OX1
  have k0 : w3.cell? ⟨gg, 0, none⟩ = some (.slice va g.c.length vi) := k 0
  have k1 : w3.cell? ⟨gg, 1, none⟩ = some (.slice vb g.l.length vj) := k 1
  have k2 : w3.cell? ⟨gg, 2, none⟩ = some (.slice vd g.o.length vk) := k 2
  have k3 : w3.cell? ⟨gg, 3, none⟩ = some (.slice ve g.h.length vm) := k 3
  clear k
  replace hB0 : gg ≤ w3.heap.size := by rw [← hg.out]; exact B3.out.size
  by_cases hp : 0 ≤ i ∧ i < (g.o.length : Int)
  case neg =>
    obtain rfl : 1 = E := by rw [← hE, if_pos (by omega)]
    obtain rfl : P0 = V := by rw [← hV, if_pos (by omega)]
    clear hE hV LA DA LR
    rw [decide_eq_false hp] at IP
    clear hp
    go_upto_region 5 with (go_at_call 91; refine (IP.out _).mono ?_; rintro e w4 ⟨rfl, b4⟩; have R4 := R3.out.below b4 R3.out.inside; have B4 := B3.out.trans (b4.mono hB0))
    go_wp2_with (refine put rfl 53 (.tmp 4) _ rfl (cells := #[.int .i64 0, .int .i64 0, .int .u32 0, .int .u32 0, .int .u32 0, .int .u32 0, .int .i64 0, .int .u32 0, .int .u32 0, .int .u32 0]) (g := gg + 1) rfl rfl R4 (by kernel_rfl) rfl (by simp [Value.oneCell']) B4 (by omega) ?_; intro w9 hR9 hB9 hs9 ho9)
    exact bodyPost_ret (v := .tuple #[.agg #[.int .i64 P0.f, .int .i64 P0.k, .int .u32 P0.p0, .int .u32 P0.p1, .int .u32 P0.p2, .int .u32 P0.p3, .int .i64 P0.u, .int .u32 P0.l0, .int .u32 P0.l1, .int .u32 P0.l2], .int .i64 1]) (two_path Tryz.results24 (by rfl) (by rfl) hR9) rfl (gives_at hg hB9 rfl rfl)
  rw [decide_eq_true hp] at IP
  rw [if_neg (by omega)] at hE hV
  obtain ⟨n, rfl⟩ : ∃ n : Nat, i = n := ⟨i.toNat, by omega⟩
  have hil : n < g.o.length := by omega
  obtain ⟨x, hx⟩ : ∃ x, g.o[n]? = some x := ⟨g.o[n], List.getElem?_eq_getElem hil⟩
  rw [Int.toNat_natCast, hx] at hE hV
  dsimp only at hE hV
  have lr := LR n false
  have XP := (OQ.out _ _ hx).2
  have C1 := fun w (hw : Lies4 w ⟨va, vb, vd, ve, vi, vj, vk, vm⟩ g) => LA.out n x hx z3 (IL.out x (List.mem_of_getElem? hx)) (2 * (n : Int)) false (by simp) w hw
  generalize loopV g n false = L at C1 lr hE hV
  have C2 := fun w (hw : Lies4 w ⟨va, vb, vd, ve, vi, vj, vk, vm⟩ g) => DA.out HU.out L (by omega) (by omega) z2 w hw
  have hd : deepL g.l L ≤ 7 := by
    have := deep_le HU.out (L + 1).toNat L (by omega) (by omega)
    unfold deepL
    omega
  generalize deepL g.l L = D at C2 hd hE hV
  replace C1 := Lib.hid C1
  replace C2 := Lib.hid C2
  replace hE := Lib.hid hE
  replace hV := Lib.hid hV
  clear LR LA DA IL OQ
  go_upto_region 6 with (go_at_call 91; refine (IP.out _).mono ?_; rintro e w4 ⟨rfl, b4⟩)
  have R4 := Lib.hid (R3.out.below b4 R3.out.inside)
  have B4 := Lib.hid (B3.out.trans (b4.mono hB0))
  have H4 := Lib.hid (H3.out.below b4)
  have OX4 := Lib.hid (OX3.out.below b4 OX3.out.inside)
  clear k0 k1 k2 k3 IP b4 R3 B3 H3 OX3 hp
  replace hB0 : gg ≤ w4.heap.size := by rw [← hg.out]; exact B4.out.size
  have k := fun (y : Since w4) => (OX4.out.below y.2 OX4.out.inside).read
  have t0 : ∀ y : Since w4, y.1.cell? ⟨gg, 0, none⟩ = some (.slice va g.c.length vi) := fun y => k y 0
  have t1 : ∀ y : Since w4, y.1.cell? ⟨gg, 1, none⟩ = some (.slice vb g.l.length vj) := fun y => k y 1
  have t2 : ∀ y : Since w4, y.1.cell? ⟨gg, 2, none⟩ = some (.slice vd g.o.length vk) := fun y => k y 2
  have t3 : ∀ y : Since w4, y.1.cell? ⟨gg, 3, none⟩ = some (.slice ve g.h.length vm) := fun y => k y 3
  clear k
  have L1 : ∀ y : Since w4, Calls Tryz.prog 93 #[.agg #[.slice va g.c.length vi, .slice vb g.l.length vj, .slice vd g.o.length vk, .slice ve g.h.length vm], .int .i64 (2 * (n : Int))] y.1 fun e w' => e = .returned (.int .i64 L) ∧ ∃ z : Since w4, w' = z.1 := fun y => since_at y (C1.out y.1 (H4.out.below y.2))
  have L2 : ∀ y : Since w4, Calls Tryz.prog 92 #[.agg #[.slice va g.c.length vi, .slice vb g.l.length vj, .slice vd g.o.length vk, .slice ve g.h.length vm], .int .i64 L] y.1 fun e w' => e = .returned (.int .i64 (D : Int)) ∧ ∃ z : Since w4, w' = z.1 := fun y => since_at y (C2.out y.1 (H4.out.below y.2))
  replace L1 := Lib.hid L1
  replace L2 := Lib.hid L2
  have IN := Lib.hid (fun w => input_any n (by omega) w)
  have lr0 := Lib.hid lr
  clear lr
  refine region_since w4 (by kernel_rfl) (by kernel_rfl) (Below.refl _ _) ?_
  repeat (go_big_quiet_step ((first | (go_at_call 94; with_reducible exact since_same IN.out _) | (go_at_call 93; with_reducible exact L1.out _) | (go_at_call 92; with_reducible exact L2.out _))))
  refine wpQuiet_nil ?_
  rintro w5 ⟨y, hw⟩
  have b5 : Below w4.heap.size w4 w5 := hw ▸ y.2
  clear hw y t0 t1 t2 t3 L1 L2 C1 C2
  have R5 := Lib.hid (R4.out.below b5 R4.out.inside)
  have B5 := Lib.hid (B4.out.trans (b5.mono hB0))
  have H5 := Lib.hid (H4.out.below b5)
  have OX5 := Lib.hid (OX4.out.below b5 OX4.out.inside)
  clear b5 R4 B4 H4 OX4
  replace hB0 : gg ≤ w5.heap.size := by rw [← hg.out]; exact B5.out.size
  have k2 : w5.cell? ⟨gg, 2, none⟩ = some (.slice vd g.o.length vk) := OX5.out.read 2
  obtain ⟨bo, oo, hA, hbo, -, e1, -, -, e4, -⟩ := at_oq H5.out.o hx
  change vd = _ at hA
  subst hA
  have hx' := Lib.hid hx
  clear hx
  by_cases c7 : x.k = 7
  · have eV := hV.out
    have eE := hE.out
    unfold wayV at eV
    unfold wayE at eE
    rw [if_pos c7] at eV eE
    rw [c7] at e1
    have CC := fun w => goIn_any (D : Int) w
    rw [eV, eE] at CC
    replace CC := Lib.hid CC
    clear eV eE hV hE hx' c7
    go_upto_region 9 with fail
    go_wp2_with (first
      | (go_at_call 95; refine (CC.out _).mono ?_; rintro e w6 ⟨rfl, b6⟩; have R6 := R5.out.below b6 R5.out.inside; have B6 := B5.out.trans (b6.mono hB0))
      | (refine put rfl 53 (.tmp 4) _ rfl (cells := #[.int .i64 V.f, .int .i64 V.k, .int .u32 V.p0, .int .u32 V.p1, .int .u32 V.p2, .int .u32 V.p3, .int .i64 V.u, .int .u32 V.l0, .int .u32 V.l1, .int .u32 V.l2]) (g := gg + 1) rfl rfl R6 (by kernel_rfl) rfl (by simp [Value.oneCell']) B6 (by omega) ?_; intro w9 hR9 hB9 hs9 ho9))
    exact bodyPost_ret (v := .tuple #[.agg #[.int .i64 V.f, .int .i64 V.k, .int .u32 V.p0, .int .u32 V.p1, .int .u32 V.p2, .int .u32 V.p3, .int .i64 V.u, .int .u32 V.l0, .int .u32 V.l1, .int .u32 V.l2], .int .i64 E]) (two_path Tryz.results24 (by rfl) (by rfl) hR9) rfl (gives_at hg hB9 rfl rfl)
  by_cases c8 : x.k = 8
  · have eV := hV.out
    have eE := hE.out
    unfold wayV at eV
    unfold wayE at eE
    rw [if_neg c7, if_pos c8] at eV eE
    rw [c8] at e1
    have CC := fun w => goOut_any (D : Int) w
    rw [eV, eE] at CC
    replace CC := Lib.hid CC
    clear eV eE hV hE hx' c7 c8
    go_upto_region 11 with fail
    go_wp2_with (first
      | (go_at_call 96; refine (CC.out _).mono ?_; rintro e w6 ⟨rfl, b6⟩; have R6 := R5.out.below b6 R5.out.inside; have B6 := B5.out.trans (b6.mono hB0))
      | (refine put rfl 53 (.tmp 4) _ rfl (cells := #[.int .i64 V.f, .int .i64 V.k, .int .u32 V.p0, .int .u32 V.p1, .int .u32 V.p2, .int .u32 V.p3, .int .i64 V.u, .int .u32 V.l0, .int .u32 V.l1, .int .u32 V.l2]) (g := gg + 1) rfl rfl R6 (by kernel_rfl) rfl (by simp [Value.oneCell']) B6 (by omega) ?_; intro w9 hR9 hB9 hs9 ho9))
    exact bodyPost_ret (v := .tuple #[.agg #[.int .i64 V.f, .int .i64 V.k, .int .u32 V.p0, .int .u32 V.p1, .int .u32 V.p2, .int .u32 V.p3, .int .i64 V.u, .int .u32 V.l0, .int .u32 V.l1, .int .u32 V.l2], .int .i64 E]) (two_path Tryz.results24 (by rfl) (by rfl) hR9) rfl (gives_at hg hB9 rfl rfl)
  by_cases c9 : x.k = 9
  · have eV := hV.out
    have eE := hE.out
    unfold wayV at eV
    unfold wayE at eE
    rw [if_neg c7, if_neg c8, if_pos c9] at eV eE
    rw [c9] at e1
    have CC := fun w => goOn_any (D : Int) w
    rw [eV, eE] at CC
    replace CC := Lib.hid CC
    clear eV eE hV hE hx' c7 c8 c9
    go_upto_region 13 with fail
    go_wp2_with (first
      | (go_at_call 97; refine (CC.out _).mono ?_; rintro e w6 ⟨rfl, b6⟩; have R6 := R5.out.below b6 R5.out.inside; have B6 := B5.out.trans (b6.mono hB0))
      | (refine put rfl 53 (.tmp 4) _ rfl (cells := #[.int .i64 V.f, .int .i64 V.k, .int .u32 V.p0, .int .u32 V.p1, .int .u32 V.p2, .int .u32 V.p3, .int .i64 V.u, .int .u32 V.l0, .int .u32 V.l1, .int .u32 V.l2]) (g := gg + 1) rfl rfl R6 (by kernel_rfl) rfl (by simp [Value.oneCell']) B6 (by omega) ?_; intro w9 hR9 hB9 hs9 ho9))
    exact bodyPost_ret (v := .tuple #[.agg #[.int .i64 V.f, .int .i64 V.k, .int .u32 V.p0, .int .u32 V.p1, .int .u32 V.p2, .int .u32 V.p3, .int .i64 V.u, .int .u32 V.l0, .int .u32 V.l1, .int .u32 V.l2], .int .i64 E]) (two_path Tryz.results24 (by rfl) (by rfl) hR9) rfl (gives_at hg hB9 rfl rfl)
  by_cases c10 : x.k = 10
  · have eV := hV.out
    have eE := hE.out
    unfold wayV at eV
    unfold wayE at eE
    rw [if_neg c7, if_neg c8, if_neg c9, if_pos c10] at eV eE
    rw [c10] at e1
    obtain ⟨d0, d1⟩ := num_delay XP c10
    have CC := fun w => goBy_any (D : Int) x.x d0 (by omega) w
    rw [eV, eE] at CC
    replace CC := Lib.hid CC
    clear eV eE hV hE hx' c7 c8 c9 c10
    go_upto_region 15 with fail
    go_wp2_with (first
      | (go_at_call 98; refine (CC.out _).mono ?_; rintro e w6 ⟨rfl, b6⟩; have R6 := R5.out.below b6 R5.out.inside; have B6 := B5.out.trans (b6.mono hB0))
      | (refine put rfl 53 (.tmp 4) _ rfl (cells := #[.int .i64 V.f, .int .i64 V.k, .int .u32 V.p0, .int .u32 V.p1, .int .u32 V.p2, .int .u32 V.p3, .int .i64 V.u, .int .u32 V.l0, .int .u32 V.l1, .int .u32 V.l2]) (g := gg + 1) rfl rfl R6 (by kernel_rfl) rfl (by simp [Value.oneCell']) B6 (by omega) ?_; intro w9 hR9 hB9 hs9 ho9))
    exact bodyPost_ret (v := .tuple #[.agg #[.int .i64 V.f, .int .i64 V.k, .int .u32 V.p0, .int .u32 V.p1, .int .u32 V.p2, .int .u32 V.p3, .int .i64 V.u, .int .u32 V.l0, .int .u32 V.l1, .int .u32 V.l2], .int .i64 E]) (two_path Tryz.results24 (by rfl) (by rfl) hR9) rfl (gives_at hg hB9 rfl rfl)
  have eV := hV.out
  have eE := hE.out
  unfold wayV at eV
  unfold wayE at eE
  rw [if_neg c7, if_neg c8, if_neg c9, if_neg c10] at eV eE
  have n7 : (x.k == 7) = false := by rw [beq_eq_false_iff_ne]; exact c7
  have n8 : (x.k == 8) = false := by rw [beq_eq_false_iff_ne]; exact c8
  have n9 : (x.k == 9) = false := by rw [beq_eq_false_iff_ne]; exact c9
  have n10 : (x.k == 10) = false := by rw [beq_eq_false_iff_ne]; exact c10
  have CC := fun w => stay_any (D : Int) w
  rw [eV, eE] at CC
  replace CC := Lib.hid CC
  clear eV eE hV hE hx' c7 c8 c9 c10
  go_upto_region 16 with fail
  go_wp2_with (first
    | (go_at_call 99; refine (CC.out _).mono ?_; rintro e w6 ⟨rfl, b6⟩; have R6 := R5.out.below b6 R5.out.inside; have B6 := B5.out.trans (b6.mono hB0))
    | (refine put rfl 53 (.tmp 4) _ rfl (cells := #[.int .i64 V.f, .int .i64 V.k, .int .u32 V.p0, .int .u32 V.p1, .int .u32 V.p2, .int .u32 V.p3, .int .i64 V.u, .int .u32 V.l0, .int .u32 V.l1, .int .u32 V.l2]) (g := gg + 1) rfl rfl R6 (by kernel_rfl) rfl (by simp [Value.oneCell']) B6 (by omega) ?_; intro w9 hR9 hB9 hs9 ho9))
  exact bodyPost_ret (v := .tuple #[.agg #[.int .i64 V.f, .int .i64 V.k, .int .u32 V.p0, .int .u32 V.p1, .int .u32 V.p2, .int .u32 V.p3, .int .i64 V.u, .int .u32 V.l0, .int .u32 V.l1, .int .u32 V.l2], .int .i64 E]) (two_path Tryz.results24 (by rfl) (by rfl) hR9) rfl (gives_at hg hB9 rfl rfl)
end Go.Proofs.YtpblpjopinllcaaGreatDoor.graph
