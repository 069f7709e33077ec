/-
  The contracts of the paths of a depth that are made of another one.
-/
import Derived.Test.YtggdcnoonmepcaaMk
import Derived.Deep.Cut
import Derived.Deep.CutRange
namespace Go.Proofs.Ytggdcnoonmepcaa.path
open Go.ChangeShapes Go.WideShapes Go.ChangeAt Go.RowKit
open Go.Proofs.Ytggdcnoonmepcaa.tm Go.Proofs.Ytggdcnoonmepcaa.opened Go.Proofs.Ytggdcnoonmepcaa.block Go.Proofs.Ytggdcnoonmepcaa.stamp Go.Proofs.Ytggdcnoonmepcaa.pa

theorem goBy_any (d n : Int) (n0 : 0 ≤ n) (_n1 : n ≤ 4294967295) (w : World) : Calls Try.prog 20 #[.int .i64 d, .int .u32 n] w (Gives (goByV d n) (goByE d n) w) := by
  unfold goByV goByE
  split <;> rename_i hc
  · have h0 : 0 ≤ d := by omega
    have h1 : d ≤ 3 := by omega
    clear hc
    split <;> rename_i hn
    · go_enter Try.func20, Try.ntmps20
      go_wp2_with (first
        | (go_at_call 11; refine (stay_good d h0 h1 _).mono ?_; rintro e w1 ⟨rfl, b1⟩; obtain ⟨hR, hB, hx⟩ := res_of b1; clear b1; generalize hg : w.heap.size = g at hR hB hx ⊢; have HG := Lib.hid hg; clear hg)
        | (refine put rfl 26 (.tmp 4) _ rfl (g := g) rfl rfl (hR.alloc _) (by kernel_rfl) rfl (by simp [Value.oneCell']) (hB.alloc (by omega) _) (Nat.le_refl _) ?_; intro w2 hR2 hB2 hs2 ho2; clear hR hB))
      refine bodyPost_ret (two_path Try.results20 rfl rfl (P := Pa.mk d d n 0 0 0 0 0 0 0) hR2) rfl (gives_at HG hB2 rfl rfl)
    · go_enter Try.func20, Try.ntmps20
      go_wp2_with (first
        | (go_at_call 11; refine (stay_good d h0 h1 _).mono ?_; rintro e w1 ⟨rfl, b1⟩; obtain ⟨hR, hB, hx⟩ := res_of b1; clear b1; generalize hg : w.heap.size = g at hR hB hx ⊢; have HG := Lib.hid hg; clear hg)
        | (refine put rfl 26 (.tmp 4) _ rfl (g := g) rfl rfl (hR.alloc _) (by kernel_rfl) rfl (by simp [Value.oneCell']) (hB.alloc (by omega) _) (Nat.le_refl _) ?_; intro w2 hR2 hB2 hs2 ho2; clear hR hB))
      refine bodyPost_ret (two_path Try.results20 rfl rfl (P := P0) hR2) rfl (gives_at HG hB2 rfl rfl)
  · have h : d < 0 ∨ 3 < d := by omega
    clear hc
    go_enter Try.func20, Try.ntmps20
    go_wp2_with (first
      | (go_at_call 11; refine (stay_bad d h _).mono ?_; rintro e w1 ⟨rfl, b1⟩; obtain ⟨hR, hB, hx⟩ := res_of b1; clear b1; generalize hg : w.heap.size = g at hR hB hx ⊢; have HG := Lib.hid hg; clear hg)
      | (refine put rfl 26 (.tmp 4) _ rfl (g := g) rfl rfl (hR.alloc _) (by kernel_rfl) rfl (by simp [Value.oneCell']) (hB.alloc (by omega) _) (Nat.le_refl _) ?_; intro w2 hR2 hB2 hs2 ho2; clear hR hB))
    refine bodyPost_ret (two_path Try.results20 rfl rfl (P := P0) hR2) rfl (gives_at HG hB2 rfl rfl)
theorem goByR_any (d n : Int) (n0 : 0 ≤ n) (_n1 : n ≤ 4294967295) (w : World) : Calls Try.prog 21 #[.int .i64 d, .int .u32 n] w (Gives (goByV d n) (goByE d n) w) := by
  unfold goByV goByE
  split <;> rename_i hc
  · have h0 : 0 ≤ d := by omega
    have h1 : d ≤ 3 := by omega
    clear hc
    split <;> rename_i hn
    · go_enter Try.func21, Try.ntmps21
      go_wp2_with (first
        | (go_at_call 12; refine (stayR_good d h0 h1 _).mono ?_; rintro e w1 ⟨rfl, b1⟩; obtain ⟨hR, hB, hx⟩ := res_of b1; clear b1; generalize hg : w.heap.size = g at hR hB hx ⊢; have HG := Lib.hid hg; clear hg)
        | (refine put rfl 30 (.tmp 4) _ rfl (g := g) rfl rfl (hR.alloc _) (by kernel_rfl) rfl (by simp [Value.oneCell']) (hB.alloc (by omega) _) (Nat.le_refl _) ?_; intro w2 hR2 hB2 hs2 ho2; clear hR hB))
      refine bodyPost_ret (two_pathR Try.results21 rfl rfl (P := Pa.mk d d n 0 0 0 0 0 0 0) hR2) rfl (gives_at HG hB2 rfl rfl)
    · go_enter Try.func21, Try.ntmps21
      go_wp2_with (first
        | (go_at_call 12; refine (stayR_good d h0 h1 _).mono ?_; rintro e w1 ⟨rfl, b1⟩; obtain ⟨hR, hB, hx⟩ := res_of b1; clear b1; generalize hg : w.heap.size = g at hR hB hx ⊢; have HG := Lib.hid hg; clear hg)
        | (refine put rfl 30 (.tmp 4) _ rfl (g := g) rfl rfl (hR.alloc _) (by kernel_rfl) rfl (by simp [Value.oneCell']) (hB.alloc (by omega) _) (Nat.le_refl _) ?_; intro w2 hR2 hB2 hs2 ho2; clear hR hB))
      refine bodyPost_ret (two_pathR Try.results21 rfl rfl (P := P0) hR2) rfl (gives_at HG hB2 rfl rfl)
  · have h : d < 0 ∨ 3 < d := by omega
    clear hc
    go_enter Try.func21, Try.ntmps21
    go_wp2_with (first
      | (go_at_call 12; refine (stayR_bad d h _).mono ?_; rintro e w1 ⟨rfl, b1⟩; obtain ⟨hR, hB, hx⟩ := res_of b1; clear b1; generalize hg : w.heap.size = g at hR hB hx ⊢; have HG := Lib.hid hg; clear hg)
      | (refine put rfl 30 (.tmp 4) _ rfl (g := g) rfl rfl (hR.alloc _) (by kernel_rfl) rfl (by simp [Value.oneCell']) (hB.alloc (by omega) _) (Nat.le_refl _) ?_; intro w2 hR2 hB2 hs2 ho2; clear hR hB))
    refine bodyPost_ret (two_pathR Try.results21 rfl rfl (P := P0) hR2) rfl (gives_at HG hB2 rfl rfl)
theorem goInR_any (d : Int) (w : World) : Calls Try.prog 15 #[.int .i64 d] w (Gives (goInV d) (goInE d) w) := by
  unfold goInV goInE
  split <;> rename_i hc
  · have h0 : 0 ≤ d := by omega
    have h1 : d ≤ 3 := by omega
    have h3 : (d == 3) = false := by simp; omega
    clear hc
    go_enter Try.func15, Try.ntmps15
    go_wp2_with (first
      | (go_at_call 12; refine (stayR_good d h0 h1 _).mono ?_; rintro e w1 ⟨rfl, b1⟩; obtain ⟨hR, hB, hx⟩ := res_of b1; clear b1; generalize hg : w.heap.size = g at hR hB hx ⊢; have HG := Lib.hid hg; clear hg)
      | (refine put rfl 30 (.tmp 2) _ rfl (g := g) rfl rfl (hR.alloc _) (by kernel_rfl) rfl (by simp [Value.oneCell']) (hB.alloc (by omega) _) (Nat.le_refl _) ?_; intro w2 hR2 hB2 hs2 ho2; clear hR hB))
    refine bodyPost_ret (two_pathR Try.results15 rfl rfl (P := Pa.mk d d 0 0 0 0 1 0 0 0) hR2) rfl (gives_at HG hB2 rfl rfl)
  · by_cases h3 : d = 3
    · subst h3
      clear hc
      go_enter Try.func15, Try.ntmps15
      go_wp2_with (first
        | (go_at_call 12; refine (stayR_good 3 (by omega) (by omega) _).mono ?_; rintro e w1 ⟨rfl, b1⟩; obtain ⟨hR, hB, hx⟩ := res_of b1; clear b1; generalize hg : w.heap.size = g at hR hB hx ⊢; have HG := Lib.hid hg; clear hg)
        | (refine put rfl 30 (.tmp 2) _ rfl (g := g) rfl rfl (hR.alloc _) (by kernel_rfl) rfl (by simp [Value.oneCell']) (hB.alloc (by omega) _) (Nat.le_refl _) ?_; intro w2 hR2 hB2 hs2 ho2; clear hR hB))
      refine bodyPost_ret (two_pathR Try.results15 rfl rfl (P := P0) hR2) rfl (gives_at HG hB2 rfl rfl)
    · have h : d < 0 ∨ 3 < d := by omega
      clear hc h3
      go_enter Try.func15, Try.ntmps15
      go_wp2_with (first
        | (go_at_call 12; refine (stayR_bad d h _).mono ?_; rintro e w1 ⟨rfl, b1⟩; obtain ⟨hR, hB, hx⟩ := res_of b1; clear b1; generalize hg : w.heap.size = g at hR hB hx ⊢; have HG := Lib.hid hg; clear hg)
        | (refine put rfl 30 (.tmp 2) _ rfl (g := g) rfl rfl (hR.alloc _) (by kernel_rfl) rfl (by simp [Value.oneCell']) (hB.alloc (by omega) _) (Nat.le_refl _) ?_; intro w2 hR2 hB2 hs2 ho2; clear hR hB))
      refine bodyPost_ret (two_pathR Try.results15 rfl rfl (P := P0) hR2) rfl (gives_at HG hB2 rfl rfl)
theorem goOutR_any (d : Int) (w : World) : Calls Try.prog 17 #[.int .i64 d] w (Gives (goOutV d) (goOutE d) w) := by
  unfold goOutV goOutE
  split <;> rename_i hc
  · have h0 : 0 ≤ d := by omega
    have h1 : d ≤ 3 := by omega
    have h3 : (d == 0) = false := by simp; omega
    clear hc
    go_enter Try.func17, Try.ntmps17
    go_wp2_with (first
      | (go_at_call 12; refine (stayR_good d h0 h1 _).mono ?_; rintro e w1 ⟨rfl, b1⟩; obtain ⟨hR, hB, hx⟩ := res_of b1; clear b1; generalize hg : w.heap.size = g at hR hB hx ⊢; have HG := Lib.hid hg; clear hg)
      | (refine put rfl 30 (.tmp 2) _ rfl (g := g) rfl rfl (hR.alloc _) (by kernel_rfl) rfl (by simp [Value.oneCell']) (hB.alloc (by omega) _) (Nat.le_refl _) ?_; intro w2 hR2 hB2 hs2 ho2; clear hR hB))
    refine bodyPost_ret (two_pathR Try.results17 rfl rfl (P := Pa.mk d (d - 1) 0 0 0 0 0 0 0 0) hR2) rfl (gives_at HG hB2 rfl rfl)
  · by_cases h3 : d = 0
    · subst h3
      clear hc
      go_enter Try.func17, Try.ntmps17
      go_wp2_with (first
        | (go_at_call 12; refine (stayR_good 0 (by omega) (by omega) _).mono ?_; rintro e w1 ⟨rfl, b1⟩; obtain ⟨hR, hB, hx⟩ := res_of b1; clear b1; generalize hg : w.heap.size = g at hR hB hx ⊢; have HG := Lib.hid hg; clear hg)
        | (refine put rfl 30 (.tmp 2) _ rfl (g := g) rfl rfl (hR.alloc _) (by kernel_rfl) rfl (by simp [Value.oneCell']) (hB.alloc (by omega) _) (Nat.le_refl _) ?_; intro w2 hR2 hB2 hs2 ho2; clear hR hB))
      refine bodyPost_ret (two_pathR Try.results17 rfl rfl (P := P0) hR2) rfl (gives_at HG hB2 rfl rfl)
    · have h : d < 0 ∨ 3 < d := by omega
      clear hc h3
      go_enter Try.func17, Try.ntmps17
      go_wp2_with (first
        | (go_at_call 12; refine (stayR_bad d h _).mono ?_; rintro e w1 ⟨rfl, b1⟩; obtain ⟨hR, hB, hx⟩ := res_of b1; clear b1; generalize hg : w.heap.size = g at hR hB hx ⊢; have HG := Lib.hid hg; clear hg)
        | (refine put rfl 30 (.tmp 2) _ rfl (g := g) rfl rfl (hR.alloc _) (by kernel_rfl) rfl (by simp [Value.oneCell']) (hB.alloc (by omega) _) (Nat.le_refl _) ?_; intro w2 hR2 hB2 hs2 ho2; clear hR hB))
      refine bodyPost_ret (two_pathR Try.results17 rfl rfl (P := P0) hR2) rfl (gives_at HG hB2 rfl rfl)
theorem goOnR_any (d : Int) (w : World) : Calls Try.prog 19 #[.int .i64 d] w (Gives (goOnV d) (goOnE d) w) := by
  unfold goOnV goOnE
  split <;> rename_i hc
  · have hd : d = 1 ∨ d = 2 ∨ d = 3 := by omega
    clear hc
    rcases hd with rfl | rfl | rfl
    · go_enter Try.func19, Try.ntmps19
      go_wp2_with (first
        | (go_at_call 12; refine (stayR_good 1 (by omega) (by omega) _).mono ?_; rintro e w1 ⟨rfl, b1⟩; obtain ⟨hR, hB, hx⟩ := res_of b1; clear b1; generalize hg : w.heap.size = g at hR hB hx ⊢; have HG := Lib.hid hg; clear hg)
        | (refine put rfl 30 (.tmp 2) _ rfl (g := g) rfl rfl (hR.alloc _) (by kernel_rfl) rfl (by simp [Value.oneCell']) (hB.alloc (by omega) _) (Nat.le_refl _) ?_; intro w2 hR2 hB2 hs2 ho2; clear hR hB))
      refine bodyPost_ret (two_pathR Try.results19 rfl rfl (P := Pa.mk 1 1 0 1 0 0 0 0 0 0) hR2) rfl (gives_at HG hB2 rfl rfl)
    · go_enter Try.func19, Try.ntmps19
      go_wp2_with (first
        | (go_at_call 12; refine (stayR_good 2 (by omega) (by omega) _).mono ?_; rintro e w1 ⟨rfl, b1⟩; obtain ⟨hR, hB, hx⟩ := res_of b1; clear b1; generalize hg : w.heap.size = g at hR hB hx ⊢; have HG := Lib.hid hg; clear hg)
        | (refine put rfl 30 (.tmp 2) _ rfl (g := g) rfl rfl (hR.alloc _) (by kernel_rfl) rfl (by simp [Value.oneCell']) (hB.alloc (by omega) _) (Nat.le_refl _) ?_; intro w2 hR2 hB2 hs2 ho2; clear hR hB))
      refine bodyPost_ret (two_pathR Try.results19 rfl rfl (P := Pa.mk 2 2 0 0 1 0 0 0 0 0) hR2) rfl (gives_at HG hB2 rfl rfl)
    · go_enter Try.func19, Try.ntmps19
      go_wp2_with (first
        | (go_at_call 12; refine (stayR_good 3 (by omega) (by omega) _).mono ?_; rintro e w1 ⟨rfl, b1⟩; obtain ⟨hR, hB, hx⟩ := res_of b1; clear b1; generalize hg : w.heap.size = g at hR hB hx ⊢; have HG := Lib.hid hg; clear hg)
        | (refine put rfl 30 (.tmp 2) _ rfl (g := g) rfl rfl (hR.alloc _) (by kernel_rfl) rfl (by simp [Value.oneCell']) (hB.alloc (by omega) _) (Nat.le_refl _) ?_; intro w2 hR2 hB2 hs2 ho2; clear hR hB))
      refine bodyPost_ret (two_pathR Try.results19 rfl rfl (P := Pa.mk 3 3 0 0 0 1 0 0 0 0) hR2) rfl (gives_at HG hB2 rfl rfl)
  · by_cases h3 : d = 0
    · subst h3
      clear hc
      go_enter Try.func19, Try.ntmps19
      go_wp2_with (first
        | (go_at_call 12; refine (stayR_good 0 (by omega) (by omega) _).mono ?_; rintro e w1 ⟨rfl, b1⟩; obtain ⟨hR, hB, hx⟩ := res_of b1; clear b1; generalize hg : w.heap.size = g at hR hB hx ⊢; have HG := Lib.hid hg; clear hg)
        | (refine put rfl 30 (.tmp 2) _ rfl (g := g) rfl rfl (hR.alloc _) (by kernel_rfl) rfl (by simp [Value.oneCell']) (hB.alloc (by omega) _) (Nat.le_refl _) ?_; intro w2 hR2 hB2 hs2 ho2; clear hR hB))
      refine bodyPost_ret (two_pathR Try.results19 rfl rfl (P := P0) hR2) rfl (gives_at HG hB2 rfl rfl)
    · have h : d < 0 ∨ 3 < d := by omega
      clear hc h3
      go_enter Try.func19, Try.ntmps19
      go_wp2_with (first
        | (go_at_call 12; refine (stayR_bad d h _).mono ?_; rintro e w1 ⟨rfl, b1⟩; obtain ⟨hR, hB, hx⟩ := res_of b1; clear b1; generalize hg : w.heap.size = g at hR hB hx ⊢; have HG := Lib.hid hg; clear hg)
        | (refine put rfl 30 (.tmp 2) _ rfl (g := g) rfl rfl (hR.alloc _) (by kernel_rfl) rfl (by simp [Value.oneCell']) (hB.alloc (by omega) _) (Nat.le_refl _) ?_; intro w2 hR2 hB2 hs2 ho2; clear hR hB))
      refine bodyPost_ret (two_pathR Try.results19 rfl rfl (P := P0) hR2) rfl (gives_at HG hB2 rfl rfl)
end Go.Proofs.Ytggdcnoonmepcaa.path
