/-
  The contracts of the paths of a depth that are made of another one.
-/
import Derived.Test.YtlbphlhbofjfgaaDoorJMk
import Derived.Deep.Cut
import Derived.Deep.CutRange
namespace Go.Proofs.YtlbphlhbofjfgaaDoor.path
open Go.ChangeShapes Go.WideShapes Go.ChangeAt Go.RowKit
open Go.Proofs.YtlbphlhbofjfgaaDoor.tm Go.Proofs.YtlbphlhbofjfgaaDoor.opened Go.Proofs.YtlbphlhbofjfgaaDoor.block Go.Proofs.YtlbphlhbofjfgaaDoor.stamp Go.Proofs.YtlbphlhbofjfgaaDoor.pa

theorem goBy_any (d n : Int) (n0 : 0 ≤ n) (_n1 : n ≤ 4294967295) (w : World) : Calls Tryd.prog 50 #[.int .i64 d, .int .u32 n] w (Gives (goByV d n) (goByE d n) w) := by
  unfold goByV goByE
  split <;> rename_i hc
  · have h0 : 0 ≤ d := by omega
    have h1 : d ≤ 3 := by omega
    clear hc
    split <;> rename_i hn
    · go_enter Tryd.func50, Tryd.ntmps50
      go_wp2_with (first
        | (go_at_call 51; refine (stay_good d h0 h1 _).mono ?_; rintro e w1 ⟨rfl, b1⟩; obtain ⟨hR, hB, hx⟩ := res_of b1; clear b1; generalize hg : w.heap.size = g at hR hB hx ⊢; have HG := Lib.hid hg; clear hg)
        | (refine put rfl 57 (.tmp 4) _ rfl (g := g) rfl rfl (hR.alloc _) (by kernel_rfl) rfl (by simp [Value.oneCell']) (hB.alloc (by omega) _) (Nat.le_refl _) ?_; intro w2 hR2 hB2 hs2 ho2; clear hR hB))
      refine bodyPost_ret (two_path Tryd.results50 rfl rfl (P := Pa.mk d d n 0 0 0 0 0 0 0) hR2) rfl (gives_at HG hB2 rfl rfl)
    · go_enter Tryd.func50, Tryd.ntmps50
      go_wp2_with (first
        | (go_at_call 51; refine (stay_good d h0 h1 _).mono ?_; rintro e w1 ⟨rfl, b1⟩; obtain ⟨hR, hB, hx⟩ := res_of b1; clear b1; generalize hg : w.heap.size = g at hR hB hx ⊢; have HG := Lib.hid hg; clear hg)
        | (refine put rfl 57 (.tmp 4) _ rfl (g := g) rfl rfl (hR.alloc _) (by kernel_rfl) rfl (by simp [Value.oneCell']) (hB.alloc (by omega) _) (Nat.le_refl _) ?_; intro w2 hR2 hB2 hs2 ho2; clear hR hB))
      refine bodyPost_ret (two_path Tryd.results50 rfl rfl (P := P0) hR2) rfl (gives_at HG hB2 rfl rfl)
  · have h : d < 0 ∨ 3 < d := by omega
    clear hc
    go_enter Tryd.func50, Tryd.ntmps50
    go_wp2_with (first
      | (go_at_call 51; refine (stay_bad d h _).mono ?_; rintro e w1 ⟨rfl, b1⟩; obtain ⟨hR, hB, hx⟩ := res_of b1; clear b1; generalize hg : w.heap.size = g at hR hB hx ⊢; have HG := Lib.hid hg; clear hg)
      | (refine put rfl 57 (.tmp 4) _ rfl (g := g) rfl rfl (hR.alloc _) (by kernel_rfl) rfl (by simp [Value.oneCell']) (hB.alloc (by omega) _) (Nat.le_refl _) ?_; intro w2 hR2 hB2 hs2 ho2; clear hR hB))
    refine bodyPost_ret (two_path Tryd.results50 rfl rfl (P := P0) hR2) rfl (gives_at HG hB2 rfl rfl)
theorem goByR_any (d n : Int) (n0 : 0 ≤ n) (_n1 : n ≤ 4294967295) (w : World) : Calls Tryd.prog 55 #[.int .i64 d, .int .u32 n] w (Gives (goByV d n) (goByE d n) w) := by
  unfold goByV goByE
  split <;> rename_i hc
  · have h0 : 0 ≤ d := by omega
    have h1 : d ≤ 3 := by omega
    clear hc
    split <;> rename_i hn
    · go_enter Tryd.func55, Tryd.ntmps55
      go_wp2_with (first
        | (go_at_call 56; refine (stayR_good d h0 h1 _).mono ?_; rintro e w1 ⟨rfl, b1⟩; obtain ⟨hR, hB, hx⟩ := res_of b1; clear b1; generalize hg : w.heap.size = g at hR hB hx ⊢; have HG := Lib.hid hg; clear hg)
        | (refine put rfl 60 (.tmp 4) _ rfl (g := g) rfl rfl (hR.alloc _) (by kernel_rfl) rfl (by simp [Value.oneCell']) (hB.alloc (by omega) _) (Nat.le_refl _) ?_; intro w2 hR2 hB2 hs2 ho2; clear hR hB))
      refine bodyPost_ret (two_pathR Tryd.results55 rfl rfl (P := Pa.mk d d n 0 0 0 0 0 0 0) hR2) rfl (gives_at HG hB2 rfl rfl)
    · go_enter Tryd.func55, Tryd.ntmps55
      go_wp2_with (first
        | (go_at_call 56; refine (stayR_good d h0 h1 _).mono ?_; rintro e w1 ⟨rfl, b1⟩; obtain ⟨hR, hB, hx⟩ := res_of b1; clear b1; generalize hg : w.heap.size = g at hR hB hx ⊢; have HG := Lib.hid hg; clear hg)
        | (refine put rfl 60 (.tmp 4) _ rfl (g := g) rfl rfl (hR.alloc _) (by kernel_rfl) rfl (by simp [Value.oneCell']) (hB.alloc (by omega) _) (Nat.le_refl _) ?_; intro w2 hR2 hB2 hs2 ho2; clear hR hB))
      refine bodyPost_ret (two_pathR Tryd.results55 rfl rfl (P := P0) hR2) rfl (gives_at HG hB2 rfl rfl)
  · have h : d < 0 ∨ 3 < d := by omega
    clear hc
    go_enter Tryd.func55, Tryd.ntmps55
    go_wp2_with (first
      | (go_at_call 56; refine (stayR_bad d h _).mono ?_; rintro e w1 ⟨rfl, b1⟩; obtain ⟨hR, hB, hx⟩ := res_of b1; clear b1; generalize hg : w.heap.size = g at hR hB hx ⊢; have HG := Lib.hid hg; clear hg)
      | (refine put rfl 60 (.tmp 4) _ rfl (g := g) rfl rfl (hR.alloc _) (by kernel_rfl) rfl (by simp [Value.oneCell']) (hB.alloc (by omega) _) (Nat.le_refl _) ?_; intro w2 hR2 hB2 hs2 ho2; clear hR hB))
    refine bodyPost_ret (two_pathR Tryd.results55 rfl rfl (P := P0) hR2) rfl (gives_at HG hB2 rfl rfl)
theorem goInR_any (d : Int) (w : World) : Calls Tryd.prog 52 #[.int .i64 d] w (Gives (goInV d) (goInE d) w) := by
  unfold goInV goInE
  split <;> rename_i hc
  · have h0 : 0 ≤ d := by omega
    have h1 : d ≤ 3 := by omega
    have h3 : (d == 3) = false := by simp; omega
    clear hc
    go_enter Tryd.func52, Tryd.ntmps52
    go_wp2_with (first
      | (go_at_call 56; refine (stayR_good d h0 h1 _).mono ?_; rintro e w1 ⟨rfl, b1⟩; obtain ⟨hR, hB, hx⟩ := res_of b1; clear b1; generalize hg : w.heap.size = g at hR hB hx ⊢; have HG := Lib.hid hg; clear hg)
      | (refine put rfl 60 (.tmp 2) _ rfl (g := g) rfl rfl (hR.alloc _) (by kernel_rfl) rfl (by simp [Value.oneCell']) (hB.alloc (by omega) _) (Nat.le_refl _) ?_; intro w2 hR2 hB2 hs2 ho2; clear hR hB))
    refine bodyPost_ret (two_pathR Tryd.results52 rfl rfl (P := Pa.mk d d 0 0 0 0 1 0 0 0) hR2) rfl (gives_at HG hB2 rfl rfl)
  · by_cases h3 : d = 3
    · subst h3
      clear hc
      go_enter Tryd.func52, Tryd.ntmps52
      go_wp2_with (first
        | (go_at_call 56; refine (stayR_good 3 (by omega) (by omega) _).mono ?_; rintro e w1 ⟨rfl, b1⟩; obtain ⟨hR, hB, hx⟩ := res_of b1; clear b1; generalize hg : w.heap.size = g at hR hB hx ⊢; have HG := Lib.hid hg; clear hg)
        | (refine put rfl 60 (.tmp 2) _ rfl (g := g) rfl rfl (hR.alloc _) (by kernel_rfl) rfl (by simp [Value.oneCell']) (hB.alloc (by omega) _) (Nat.le_refl _) ?_; intro w2 hR2 hB2 hs2 ho2; clear hR hB))
      refine bodyPost_ret (two_pathR Tryd.results52 rfl rfl (P := P0) hR2) rfl (gives_at HG hB2 rfl rfl)
    · have h : d < 0 ∨ 3 < d := by omega
      clear hc h3
      go_enter Tryd.func52, Tryd.ntmps52
      go_wp2_with (first
        | (go_at_call 56; refine (stayR_bad d h _).mono ?_; rintro e w1 ⟨rfl, b1⟩; obtain ⟨hR, hB, hx⟩ := res_of b1; clear b1; generalize hg : w.heap.size = g at hR hB hx ⊢; have HG := Lib.hid hg; clear hg)
        | (refine put rfl 60 (.tmp 2) _ rfl (g := g) rfl rfl (hR.alloc _) (by kernel_rfl) rfl (by simp [Value.oneCell']) (hB.alloc (by omega) _) (Nat.le_refl _) ?_; intro w2 hR2 hB2 hs2 ho2; clear hR hB))
      refine bodyPost_ret (two_pathR Tryd.results52 rfl rfl (P := P0) hR2) rfl (gives_at HG hB2 rfl rfl)
theorem goOutR_any (d : Int) (w : World) : Calls Tryd.prog 53 #[.int .i64 d] w (Gives (goOutV d) (goOutE d) w) := by
  unfold goOutV goOutE
  split <;> rename_i hc
  · have h0 : 0 ≤ d := by omega
    have h1 : d ≤ 3 := by omega
    have h3 : (d == 0) = false := by simp; omega
    clear hc
    go_enter Tryd.func53, Tryd.ntmps53
    go_wp2_with (first
      | (go_at_call 56; refine (stayR_good d h0 h1 _).mono ?_; rintro e w1 ⟨rfl, b1⟩; obtain ⟨hR, hB, hx⟩ := res_of b1; clear b1; generalize hg : w.heap.size = g at hR hB hx ⊢; have HG := Lib.hid hg; clear hg)
      | (refine put rfl 60 (.tmp 2) _ rfl (g := g) rfl rfl (hR.alloc _) (by kernel_rfl) rfl (by simp [Value.oneCell']) (hB.alloc (by omega) _) (Nat.le_refl _) ?_; intro w2 hR2 hB2 hs2 ho2; clear hR hB))
    refine bodyPost_ret (two_pathR Tryd.results53 rfl rfl (P := Pa.mk d (d - 1) 0 0 0 0 0 0 0 0) hR2) rfl (gives_at HG hB2 rfl rfl)
  · by_cases h3 : d = 0
    · subst h3
      clear hc
      go_enter Tryd.func53, Tryd.ntmps53
      go_wp2_with (first
        | (go_at_call 56; refine (stayR_good 0 (by omega) (by omega) _).mono ?_; rintro e w1 ⟨rfl, b1⟩; obtain ⟨hR, hB, hx⟩ := res_of b1; clear b1; generalize hg : w.heap.size = g at hR hB hx ⊢; have HG := Lib.hid hg; clear hg)
        | (refine put rfl 60 (.tmp 2) _ rfl (g := g) rfl rfl (hR.alloc _) (by kernel_rfl) rfl (by simp [Value.oneCell']) (hB.alloc (by omega) _) (Nat.le_refl _) ?_; intro w2 hR2 hB2 hs2 ho2; clear hR hB))
      refine bodyPost_ret (two_pathR Tryd.results53 rfl rfl (P := P0) hR2) rfl (gives_at HG hB2 rfl rfl)
    · have h : d < 0 ∨ 3 < d := by omega
      clear hc h3
      go_enter Tryd.func53, Tryd.ntmps53
      go_wp2_with (first
        | (go_at_call 56; refine (stayR_bad d h _).mono ?_; rintro e w1 ⟨rfl, b1⟩; obtain ⟨hR, hB, hx⟩ := res_of b1; clear b1; generalize hg : w.heap.size = g at hR hB hx ⊢; have HG := Lib.hid hg; clear hg)
        | (refine put rfl 60 (.tmp 2) _ rfl (g := g) rfl rfl (hR.alloc _) (by kernel_rfl) rfl (by simp [Value.oneCell']) (hB.alloc (by omega) _) (Nat.le_refl _) ?_; intro w2 hR2 hB2 hs2 ho2; clear hR hB))
      refine bodyPost_ret (two_pathR Tryd.results53 rfl rfl (P := P0) hR2) rfl (gives_at HG hB2 rfl rfl)
theorem goOnR_any (d : Int) (w : World) : Calls Tryd.prog 54 #[.int .i64 d] w (Gives (goOnV d) (goOnE d) w) := by
  unfold goOnV goOnE
  split <;> rename_i hc
  · have hd : d = 1 ∨ d = 2 ∨ d = 3 := by omega
    clear hc
    rcases hd with rfl | rfl | rfl
    · go_enter Tryd.func54, Tryd.ntmps54
      go_wp2_with (first
        | (go_at_call 56; refine (stayR_good 1 (by omega) (by omega) _).mono ?_; rintro e w1 ⟨rfl, b1⟩; obtain ⟨hR, hB, hx⟩ := res_of b1; clear b1; generalize hg : w.heap.size = g at hR hB hx ⊢; have HG := Lib.hid hg; clear hg)
        | (refine put rfl 60 (.tmp 2) _ rfl (g := g) rfl rfl (hR.alloc _) (by kernel_rfl) rfl (by simp [Value.oneCell']) (hB.alloc (by omega) _) (Nat.le_refl _) ?_; intro w2 hR2 hB2 hs2 ho2; clear hR hB))
      refine bodyPost_ret (two_pathR Tryd.results54 rfl rfl (P := Pa.mk 1 1 0 1 0 0 0 0 0 0) hR2) rfl (gives_at HG hB2 rfl rfl)
    · go_enter Tryd.func54, Tryd.ntmps54
      go_wp2_with (first
        | (go_at_call 56; refine (stayR_good 2 (by omega) (by omega) _).mono ?_; rintro e w1 ⟨rfl, b1⟩; obtain ⟨hR, hB, hx⟩ := res_of b1; clear b1; generalize hg : w.heap.size = g at hR hB hx ⊢; have HG := Lib.hid hg; clear hg)
        | (refine put rfl 60 (.tmp 2) _ rfl (g := g) rfl rfl (hR.alloc _) (by kernel_rfl) rfl (by simp [Value.oneCell']) (hB.alloc (by omega) _) (Nat.le_refl _) ?_; intro w2 hR2 hB2 hs2 ho2; clear hR hB))
      refine bodyPost_ret (two_pathR Tryd.results54 rfl rfl (P := Pa.mk 2 2 0 0 1 0 0 0 0 0) hR2) rfl (gives_at HG hB2 rfl rfl)
    · go_enter Tryd.func54, Tryd.ntmps54
      go_wp2_with (first
        | (go_at_call 56; refine (stayR_good 3 (by omega) (by omega) _).mono ?_; rintro e w1 ⟨rfl, b1⟩; obtain ⟨hR, hB, hx⟩ := res_of b1; clear b1; generalize hg : w.heap.size = g at hR hB hx ⊢; have HG := Lib.hid hg; clear hg)
        | (refine put rfl 60 (.tmp 2) _ rfl (g := g) rfl rfl (hR.alloc _) (by kernel_rfl) rfl (by simp [Value.oneCell']) (hB.alloc (by omega) _) (Nat.le_refl _) ?_; intro w2 hR2 hB2 hs2 ho2; clear hR hB))
      refine bodyPost_ret (two_pathR Tryd.results54 rfl rfl (P := Pa.mk 3 3 0 0 0 1 0 0 0 0) hR2) rfl (gives_at HG hB2 rfl rfl)
  · by_cases h3 : d = 0
    · subst h3
      clear hc
      go_enter Tryd.func54, Tryd.ntmps54
      go_wp2_with (first
        | (go_at_call 56; refine (stayR_good 0 (by omega) (by omega) _).mono ?_; rintro e w1 ⟨rfl, b1⟩; obtain ⟨hR, hB, hx⟩ := res_of b1; clear b1; generalize hg : w.heap.size = g at hR hB hx ⊢; have HG := Lib.hid hg; clear hg)
        | (refine put rfl 60 (.tmp 2) _ rfl (g := g) rfl rfl (hR.alloc _) (by kernel_rfl) rfl (by simp [Value.oneCell']) (hB.alloc (by omega) _) (Nat.le_refl _) ?_; intro w2 hR2 hB2 hs2 ho2; clear hR hB))
      refine bodyPost_ret (two_pathR Tryd.results54 rfl rfl (P := P0) hR2) rfl (gives_at HG hB2 rfl rfl)
    · have h : d < 0 ∨ 3 < d := by omega
      clear hc h3
      go_enter Tryd.func54, Tryd.ntmps54
      go_wp2_with (first
        | (go_at_call 56; refine (stayR_bad d h _).mono ?_; rintro e w1 ⟨rfl, b1⟩; obtain ⟨hR, hB, hx⟩ := res_of b1; clear b1; generalize hg : w.heap.size = g at hR hB hx ⊢; have HG := Lib.hid hg; clear hg)
        | (refine put rfl 60 (.tmp 2) _ rfl (g := g) rfl rfl (hR.alloc _) (by kernel_rfl) rfl (by simp [Value.oneCell']) (hB.alloc (by omega) _) (Nat.le_refl _) ?_; intro w2 hR2 hB2 hs2 ho2; clear hR hB))
      refine bodyPost_ret (two_pathR Tryd.results54 rfl rfl (P := P0) hR2) rfl (gives_at HG hB2 rfl rfl)
end Go.Proofs.YtlbphlhbofjfgaaDoor.path
