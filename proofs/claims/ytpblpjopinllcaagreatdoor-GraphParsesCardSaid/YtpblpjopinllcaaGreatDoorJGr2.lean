/-
  The document's rows of names of a graph (by gen_gr2.py).
  The loop behind in= (the document's within).
-/
import Derived.Test.YtpblpjopinllcaaGreatDoorJWt
import Derived.Test.YtpblpjopinllcaaGreatDoorJGz
set_option linter.unusedSimpArgs false
set_option linter.unusedVariables false
namespace Go.Proofs.YtpblpjopinllcaaGreatDoor.graph
open Go.ChangeShapes Go.WideShapes Go.ChangeAt Go.RowKit
open Go.Proofs.YtpblpjopinllcaaGreatDoor.opened Go.Proofs.YtpblpjopinllcaaGreatDoor.block Go.Proofs.YtpblpjopinllcaaGreatDoor.words
set_option maxRecDepth 100000 in
theorem clustersR_any (v : Gv) (g : Gr) (hL : g.c.length ≤ 100000) (w : World) (h : Lies4 w v g) :
    Calls Tryz.prog 230 #[gV v g] w fun e w' => (∃ A c, e = .returned (.slice A g.c.length c) ∧ Ls w' A (g.c.map (·.n))) ∧ Below w.heap.size w w' := by
  obtain ⟨va, vb, vd, ve, vi, vj, vk, vm⟩ := v
  unfold gV
  dsimp only
  have hB := Lib.hid (fresh1 w (.cells #[.slice va g.c.length vi, .slice vb g.l.length vj, .slice vd g.o.length vk, .slice ve g.h.length vm] 36))
  have OX := Lib.hid (Whole.fresh w 36 #[.slice va g.c.length vi, .slice vb g.l.length vj, .slice vd g.o.length vk, .slice ve g.h.length vm])
  have H1 := Lib.hid (h.below hB.out)
  clear h
  obtain ⟨i0, hi, hz0, hz1, hz2⟩ := infoS_parts
  go_enter Tryz.func230, Tryz.ntmps230
  go_upto_region 1 with fail
  change Code.wp _ _ _ _ (w.alloc (.cells #[.slice va g.c.length vi, .slice vb g.l.length vj, .slice vd g.o.length vk, .slice ve g.h.length vm] 36))
  generalize w.alloc (.cells #[.slice va g.c.length vi, .slice vb g.l.length vj, .slice vd g.o.length vk, .slice ve g.h.length vm] 36) = w1 at OX hB H1 ⊢
  obtain ⟨gg, hgg⟩ : ∃ gg, w.heap.size = gg := ⟨_, rfl⟩
  rw [hgg] at OX ⊢
  have Hgg := Lib.hid hgg
  clear hgg
  go_wp2_with fail
  go_loopw [3, 4] (fun nv a wr => ∃ (i : Nat) (N : List Bs) (A : Option Addr) (c : Nat), i ≤ g.c.length ∧ Hid (N.length = i) ∧ a = .int .i64 i ∧ nv = .slice A i c ∧ Hid (N = (g.c.take i).map (·.n)) ∧ Hid (OwnS wr w1.heap.size (.slice A i c) N) ∧ Hid (Below w1.heap.size w1 wr)) (fun _ a _ => (g.c.length - intOf a).toNat)
  case atStart => exact ⟨0, [], none, 0, by omega, Lib.hid rfl, rfl, rfl, Lib.hid rfl, Lib.hid (ownS_nil _ _), Lib.hid (Below.refl _ _)⟩
  case round =>
    obtain ⟨i, N, A, c, hil, hNi, rfl, rfl, HN, HO, Br⟩ := hrel
    have hsz := Br.out.size
    have BB := Lib.hid (hB.out.trans (Br.out.mono hB.out.size))
    have OG := Lib.hid (OX.out.below Br.out OX.out.inside)
    have HR := Lib.hid (H1.out.below Br.out)
    have k0 : wr.cell? ⟨gg, 0, none⟩ = some (.slice va g.c.length vi) := OG.out.read 0
    by_cases hin : i = g.c.length
    case neg =>
      have hlt : i < g.c.length := by omega
      obtain ⟨x, hx⟩ : ∃ x, g.c[i]? = some x := ⟨g.c[i], List.getElem?_eq_getElem hlt⟩
      obtain ⟨b1, o1, hA, hb1, c0, -⟩ := at_cl HR.out.c hx
      change va = _ at hA
      subst hA
      have HN2 : Hid (N ++ [x.n] = (g.c.take (i + 1)).map (·.n)) := Lib.hid (by rw [names_next hx, HN.out])
      clear hx
      go_wp2_with (at_builtin; refine wpList_append_own _ rfl _ _ 126 rfl w1.heap.size 9 i0 (.string ByteArray.empty) 1 16 Tryz.underlying126 hi hz0 hz1 hz2 rfl (by decide) _ _ _ rfl (HO.out.below (fresh1 _ (.cells #[sV x.n] 9))) ⟨_, 0, none⟩ 1 1 [sV x.n] rfl rfl (cell_new1 _ _ _) (oneS _) (by have := hNi.out; unfold maxLen; omega) (by have := hNi.out; omega) (by simp; omega) ?_; intro v' w5 hown' hgrow _; obtain ⟨g', cap', rfl⟩ := ownS_succ hown'; have b5 := Lib.hid (HO.out.grown hsz hgrow); have HO5 := Lib.hid (show OwnS w5 w1.heap.size (.slice (some ⟨g', 0, none⟩) (N ++ [x.n]).length cap') (N ++ [x.n]) by have := hown'; simpa [OwnS] using this); clear hown' hgrow)
      go_roundw
      case rel => exact ⟨i + 1, N ++ [x.n], some ⟨g', 0, none⟩, cap', hlt, Lib.hid (by simp [hNi.out]), by go_num, by rw [hNi.out], HN2, by have := HO5.out; rw [List.length_append, hNi.out] at this; exact Lib.hid this, Lib.hid (Br.out.trans b5.out)⟩
      case measure => simp [intOf]; omega
    subst hin
    have hN : N = g.c.map (·.n) := by rw [HN.out, List.take_length]
    have LN := Lib.hid HO.out.lies
    rw [hN] at LN
    clear hN HN HR OG
    go_wp2_with fail
    go_ret
    exact ⟨⟨A, c, rfl, LN.out⟩, BB.out⟩
set_option maxRecDepth 100000 in
theorem loopsR_any (v : Gv) (g : Gr) (hL : g.l.length ≤ 100000) (w : World) (h : Lies4 w v g) :
    Calls Tryz.prog 227 #[gV v g] w fun e w' => (∃ A c, e = .returned (.slice A g.l.length c) ∧ Ls w' A (g.l.map (·.n))) ∧ Below w.heap.size w w' := by
  obtain ⟨va, vb, vd, ve, vi, vj, vk, vm⟩ := v
  unfold gV
  dsimp only
  have hB := Lib.hid (fresh1 w (.cells #[.slice va g.c.length vi, .slice vb g.l.length vj, .slice vd g.o.length vk, .slice ve g.h.length vm] 36))
  have OX := Lib.hid (Whole.fresh w 36 #[.slice va g.c.length vi, .slice vb g.l.length vj, .slice vd g.o.length vk, .slice ve g.h.length vm])
  have H1 := Lib.hid (h.below hB.out)
  clear h
  obtain ⟨i0, hi, hz0, hz1, hz2⟩ := infoS_parts
  go_enter Tryz.func227, Tryz.ntmps227
  go_upto_region 1 with fail
  change Code.wp _ _ _ _ (w.alloc (.cells #[.slice va g.c.length vi, .slice vb g.l.length vj, .slice vd g.o.length vk, .slice ve g.h.length vm] 36))
  generalize w.alloc (.cells #[.slice va g.c.length vi, .slice vb g.l.length vj, .slice vd g.o.length vk, .slice ve g.h.length vm] 36) = w1 at OX hB H1 ⊢
  obtain ⟨gg, hgg⟩ : ∃ gg, w.heap.size = gg := ⟨_, rfl⟩
  rw [hgg] at OX ⊢
  have Hgg := Lib.hid hgg
  clear hgg
  go_wp2_with fail
  go_loopw [3, 4] (fun nv a wr => ∃ (i : Nat) (N : List Bs) (A : Option Addr) (c : Nat), i ≤ g.l.length ∧ Hid (N.length = i) ∧ a = .int .i64 i ∧ nv = .slice A i c ∧ Hid (N = (g.l.take i).map (·.n)) ∧ Hid (OwnS wr w1.heap.size (.slice A i c) N) ∧ Hid (Below w1.heap.size w1 wr)) (fun _ a _ => (g.l.length - intOf a).toNat)
  case atStart => exact ⟨0, [], none, 0, by omega, Lib.hid rfl, rfl, rfl, Lib.hid rfl, Lib.hid (ownS_nil _ _), Lib.hid (Below.refl _ _)⟩
  case round =>
    obtain ⟨i, N, A, c, hil, hNi, rfl, rfl, HN, HO, Br⟩ := hrel
    have hsz := Br.out.size
    have BB := Lib.hid (hB.out.trans (Br.out.mono hB.out.size))
    have OG := Lib.hid (OX.out.below Br.out OX.out.inside)
    have HR := Lib.hid (H1.out.below Br.out)
    have k0 : wr.cell? ⟨gg, 1, none⟩ = some (.slice vb g.l.length vj) := OG.out.read 1
    by_cases hin : i = g.l.length
    case neg =>
      have hlt : i < g.l.length := by omega
      obtain ⟨x, hx⟩ : ∃ x, g.l[i]? = some x := ⟨g.l[i], List.getElem?_eq_getElem hlt⟩
      obtain ⟨b1, o1, hA, hb1, c0, -, -⟩ := at_lo HR.out.l hx
      change vb = _ at hA
      subst hA
      have HN2 : Hid (N ++ [x.n] = (g.l.take (i + 1)).map (·.n)) := Lib.hid (by rw [names_next hx, HN.out])
      clear hx
      go_wp2_with (at_builtin; refine wpList_append_own _ rfl _ _ 126 rfl w1.heap.size 9 i0 (.string ByteArray.empty) 1 16 Tryz.underlying126 hi hz0 hz1 hz2 rfl (by decide) _ _ _ rfl (HO.out.below (fresh1 _ (.cells #[sV x.n] 9))) ⟨_, 0, none⟩ 1 1 [sV x.n] rfl rfl (cell_new1 _ _ _) (oneS _) (by have := hNi.out; unfold maxLen; omega) (by have := hNi.out; omega) (by simp; omega) ?_; intro v' w5 hown' hgrow _; obtain ⟨g', cap', rfl⟩ := ownS_succ hown'; have b5 := Lib.hid (HO.out.grown hsz hgrow); have HO5 := Lib.hid (show OwnS w5 w1.heap.size (.slice (some ⟨g', 0, none⟩) (N ++ [x.n]).length cap') (N ++ [x.n]) by have := hown'; simpa [OwnS] using this); clear hown' hgrow)
      go_roundw
      case rel => exact ⟨i + 1, N ++ [x.n], some ⟨g', 0, none⟩, cap', hlt, Lib.hid (by simp [hNi.out]), by go_num, by rw [hNi.out], HN2, by have := HO5.out; rw [List.length_append, hNi.out] at this; exact Lib.hid this, Lib.hid (Br.out.trans b5.out)⟩
      case measure => simp [intOf]; omega
    subst hin
    have hN : N = g.l.map (·.n) := by rw [HN.out, List.take_length]
    have LN := Lib.hid HO.out.lies
    rw [hN] at LN
    clear hN HN HR OG
    go_wp2_with fail
    go_ret
    exact ⟨⟨A, c, rfl, LN.out⟩, BB.out⟩
set_option maxRecDepth 100000 in
theorem opsR_any (v : Gv) (g : Gr) (hL : g.o.length ≤ 100000) (w : World) (h : Lies4 w v g) :
    Calls Tryz.prog 149 #[gV v g] w fun e w' => (∃ A c, e = .returned (.slice A g.o.length c) ∧ Ls w' A (g.o.map (·.n))) ∧ Below w.heap.size w w' := by
  obtain ⟨va, vb, vd, ve, vi, vj, vk, vm⟩ := v
  unfold gV
  dsimp only
  have hB := Lib.hid (fresh1 w (.cells #[.slice va g.c.length vi, .slice vb g.l.length vj, .slice vd g.o.length vk, .slice ve g.h.length vm] 36))
  have OX := Lib.hid (Whole.fresh w 36 #[.slice va g.c.length vi, .slice vb g.l.length vj, .slice vd g.o.length vk, .slice ve g.h.length vm])
  have H1 := Lib.hid (h.below hB.out)
  clear h
  obtain ⟨i0, hi, hz0, hz1, hz2⟩ := infoS_parts
  go_enter Tryz.func149, Tryz.ntmps149
  go_upto_region 1 with fail
  change Code.wp _ _ _ _ (w.alloc (.cells #[.slice va g.c.length vi, .slice vb g.l.length vj, .slice vd g.o.length vk, .slice ve g.h.length vm] 36))
  generalize w.alloc (.cells #[.slice va g.c.length vi, .slice vb g.l.length vj, .slice vd g.o.length vk, .slice ve g.h.length vm] 36) = w1 at OX hB H1 ⊢
  obtain ⟨gg, hgg⟩ : ∃ gg, w.heap.size = gg := ⟨_, rfl⟩
  rw [hgg] at OX ⊢
  have Hgg := Lib.hid hgg
  clear hgg
  go_wp2_with fail
  go_loopw [3, 4] (fun nv a wr => ∃ (i : Nat) (N : List Bs) (A : Option Addr) (c : Nat), i ≤ g.o.length ∧ Hid (N.length = i) ∧ a = .int .i64 i ∧ nv = .slice A i c ∧ Hid (N = (g.o.take i).map (·.n)) ∧ Hid (OwnS wr w1.heap.size (.slice A i c) N) ∧ Hid (Below w1.heap.size w1 wr)) (fun _ a _ => (g.o.length - intOf a).toNat)
  case atStart => exact ⟨0, [], none, 0, by omega, Lib.hid rfl, rfl, rfl, Lib.hid rfl, Lib.hid (ownS_nil _ _), Lib.hid (Below.refl _ _)⟩
  case round =>
    obtain ⟨i, N, A, c, hil, hNi, rfl, rfl, HN, HO, Br⟩ := hrel
    have hsz := Br.out.size
    have BB := Lib.hid (hB.out.trans (Br.out.mono hB.out.size))
    have OG := Lib.hid (OX.out.below Br.out OX.out.inside)
    have HR := Lib.hid (H1.out.below Br.out)
    have k0 : wr.cell? ⟨gg, 2, none⟩ = some (.slice vd g.o.length vk) := OG.out.read 2
    by_cases hin : i = g.o.length
    case neg =>
      have hlt : i < g.o.length := by omega
      obtain ⟨x, hx⟩ : ∃ x, g.o[i]? = some x := ⟨g.o[i], List.getElem?_eq_getElem hlt⟩
      obtain ⟨b1, o1, hA, hb1, c0, -, -, -, -, -⟩ := at_oq HR.out.o hx
      change vd = _ at hA
      subst hA
      have HN2 : Hid (N ++ [x.n] = (g.o.take (i + 1)).map (·.n)) := Lib.hid (by rw [names_next hx, HN.out])
      clear hx
      go_wp2_with (at_builtin; refine wpList_append_own _ rfl _ _ 126 rfl w1.heap.size 9 i0 (.string ByteArray.empty) 1 16 Tryz.underlying126 hi hz0 hz1 hz2 rfl (by decide) _ _ _ rfl (HO.out.below (fresh1 _ (.cells #[sV x.n] 9))) ⟨_, 0, none⟩ 1 1 [sV x.n] rfl rfl (cell_new1 _ _ _) (oneS _) (by have := hNi.out; unfold maxLen; omega) (by have := hNi.out; omega) (by simp; omega) ?_; intro v' w5 hown' hgrow _; obtain ⟨g', cap', rfl⟩ := ownS_succ hown'; have b5 := Lib.hid (HO.out.grown hsz hgrow); have HO5 := Lib.hid (show OwnS w5 w1.heap.size (.slice (some ⟨g', 0, none⟩) (N ++ [x.n]).length cap') (N ++ [x.n]) by have := hown'; simpa [OwnS] using this); clear hown' hgrow)
      go_roundw
      case rel => exact ⟨i + 1, N ++ [x.n], some ⟨g', 0, none⟩, cap', hlt, Lib.hid (by simp [hNi.out]), by go_num, by rw [hNi.out], HN2, by have := HO5.out; rw [List.length_append, hNi.out] at this; exact Lib.hid this, Lib.hid (Br.out.trans b5.out)⟩
      case measure => simp [intOf]; omega
    subst hin
    have hN : N = g.o.map (·.n) := by rw [HN.out, List.take_length]
    have LN := Lib.hid HO.out.lies
    rw [hN] at LN
    clear hN HN HR OG
    go_wp2_with fail
    go_ret
    exact ⟨⟨A, c, rfl, LN.out⟩, BB.out⟩
end Go.Proofs.YtpblpjopinllcaaGreatDoor.graph
set_option linter.unusedSimpArgs false
set_option linter.unusedVariables false
namespace Go.Proofs.YtpblpjopinllcaaGreatDoor.graph
open Go.ChangeShapes Go.WideShapes Go.ChangeAt Go.RowKit
open Go.Proofs.YtpblpjopinllcaaGreatDoor.opened Go.Proofs.YtpblpjopinllcaaGreatDoor.block Go.Proofs.YtpblpjopinllcaaGreatDoor.words

theorem prefix_parts {w b : Bs} (h : Lib.hasPrefix w b = true) : w = b ++ w.drop b.length := by
  unfold Lib.hasPrefix at h
  have e := List.prefix_iff_eq_take.1 (List.isPrefixOf_iff_prefix.1 h)
  exact (List.take_append_drop b.length w).symm.trans (by rw [← e])
theorem find_none9 {N : List Bs} {n : Bs} (h : firstIx N n = none) : findV N n = -1 := by unfold findV; rw [h]
theorem find_some9 {N : List Bs} {n : Bs} {k : Nat} (h : firstIx N n = some k) : findV N n = k := by unfold findV; rw [h]
theorem find9_len {α : Type} (A : Option Addr) (c : Nat) (L : List α) (f : α → Bs) (n : Bs) (hl : L.length ≤ 100000) (w : World) (h : Ls w A (L.map f)) :
    Calls Tryz.prog 148 #[.slice A L.length c, .string ⟨n.toArray⟩] w fun e w' => e = .returned (.int .i64 (findV (L.map f) n)) ∧ w = w' := by
  have := find9_any A c (L.map f) n (by simpa using hl) w h
  rw [List.length_map] at this
  exact this
set_option maxRecDepth 100000 in
theorem within9_any (v : Gv) (g : Gr) (hL : g.l.length ≤ 100000) (x : Bs) (w : World) (h : Lies4 w v g) :
    Calls Tryz.prog 147 #[gV v g, .string ⟨x.toArray⟩] w fun e w' => e = .returned (.tuple #[.int .i64 (lpV firstIx g.ln x), .int .i64 (lpE firstIx g.ln x)]) ∧ Below w.heap.size w w' := by
  have P := Lib.hid (fun W => after9_any x kwIn W)
  have LO := fun W (hW : Lies4 W v g) => loopsR_any v g hL W hW
  obtain ⟨va, vb, vd, ve, vi, vj, vk, vm⟩ := v
  unfold gV at LO ⊢
  dsimp only at LO ⊢
  replace LO := Lib.hid LO
  unfold aftV at P
  have hB := Lib.hid (fresh1 w (.cells #[.slice va g.c.length vi, .slice vb g.l.length vj, .slice vd g.o.length vk, .slice ve g.h.length vm] 36))
  have OX := Lib.hid (Whole.fresh w 36 #[.slice va g.c.length vi, .slice vb g.l.length vj, .slice vd g.o.length vk, .slice ve g.h.length vm])
  have H1 := Lib.hid (h.below hB.out)
  clear h
  unfold lpV lpE plV plE
  cases hf : Lib.hasPrefix x kwIn
  · have hne : x ≠ kwInNo := fun e => by rw [e] at hf; revert hf; decide
    rw [hf] at P
    rw [if_neg (by simp)] at P
    rw [if_neg hne, if_neg hne, if_neg (by simp), if_neg (by simp)]
    clear hf hne LO OX H1
    go_enter Tryz.func147, Tryz.ntmps147
    go_wp2_with ((go_at_call 225; refine (P.out _).mono ?_; rintro e w4 ⟨rfl, rfl⟩))
    go_ret2
    exact ⟨rfl, hB.out⟩
  · rw [hf, if_pos rfl] at P
    rw [if_pos rfl, if_pos rfl]
    have hx := prefix_parts hf
    by_cases hy : x.drop kwIn.length = [45]
    · have he : x = kwInNo := by rw [hx, hy]; rfl
      rw [if_pos he, if_pos he]
      rw [hy] at P
      clear hf hx hy he LO OX H1
      go_enter Tryz.func147, Tryz.ntmps147
      go_wp2_with ((go_at_call 225; refine (P.out _).mono ?_; rintro e w4 ⟨rfl, rfl⟩))
      go_ret2
      exact ⟨rfl, hB.out⟩
    · have hne : x ≠ kwInNo := fun e => hy (by rw [e]; rfl)
      rw [if_neg hne, if_neg hne]
      have hp : (x.drop kwIn.length == [45]) = false := by rw [beq_eq_false_iff_ne]; exact hy
      have FI := fun A c W (hW : Ls W A g.ln) => find9_len A c g.l (·.n) (x.drop kwIn.length) hL W hW
      generalize x.drop kwIn.length = y at P hp FI ⊢
      clear hf hx hy hne
      change ∀ A c W (hW : Ls W A g.ln), Calls Tryz.prog 148 #[.slice A g.l.length c, .string ⟨y.toArray⟩] W fun e w' => e = .returned (.int .i64 (findV g.ln y)) ∧ W = w' at FI
      cases hk : firstIx g.ln y with
      | none =>
        rw [find_none9 hk] at FI
        replace FI := Lib.hid FI
        clear hk
        go_enter Tryz.func147, Tryz.ntmps147
        go_upto_region 1 with fail
        change Code.wp _ _ _ _ (w.alloc (.cells #[.slice va g.c.length vi, .slice vb g.l.length vj, .slice vd g.o.length vk, .slice ve g.h.length vm] 36))
        generalize w.alloc (.cells #[.slice va g.c.length vi, .slice vb g.l.length vj, .slice vd g.o.length vk, .slice ve g.h.length vm] 36) = w1 at OX hB H1 ⊢
        generalize w.heap.size = gg at OX ⊢
        have k := OX.out.read
        have k0 : w1.cell? ⟨gg, 0, none⟩ = some (.slice va g.c.length vi) := k 0
        have k1 : w1.cell? ⟨gg, 1, none⟩ = some (.slice vb g.l.length vj) := k 1
        have k2 : w1.cell? ⟨gg, 2, none⟩ = some (.slice vd g.o.length vk) := k 2
        have k3 : w1.cell? ⟨gg, 3, none⟩ = some (.slice ve g.h.length vm) := k 3
        clear k
        go_wp2_with (first
          | (go_at_call 225; refine (P.out _).mono ?_; rintro e w4 ⟨rfl, rfl⟩)
          | (go_at_call 227; refine (LO.out _ H1.out).mono ?_; rintro e w5 ⟨⟨A, c, rfl, hLs⟩, b5⟩; have LS := Lib.hid hLs; have B5 := Lib.hid (hB.out.trans (b5.mono hB.out.size)); clear hLs b5)
          | (go_at_call 148; refine (FI.out _ _ _ LS.out).mono ?_; rintro e w6 ⟨rfl, rfl⟩))
        go_ret2
        exact ⟨rfl, B5.out⟩
      | some m =>
        rw [find_some9 hk] at FI
        replace FI := Lib.hid FI
        clear hk
        go_enter Tryz.func147, Tryz.ntmps147
        go_upto_region 1 with fail
        change Code.wp _ _ _ _ (w.alloc (.cells #[.slice va g.c.length vi, .slice vb g.l.length vj, .slice vd g.o.length vk, .slice ve g.h.length vm] 36))
        generalize w.alloc (.cells #[.slice va g.c.length vi, .slice vb g.l.length vj, .slice vd g.o.length vk, .slice ve g.h.length vm] 36) = w1 at OX hB H1 ⊢
        generalize w.heap.size = gg at OX ⊢
        have k := OX.out.read
        have k0 : w1.cell? ⟨gg, 0, none⟩ = some (.slice va g.c.length vi) := k 0
        have k1 : w1.cell? ⟨gg, 1, none⟩ = some (.slice vb g.l.length vj) := k 1
        have k2 : w1.cell? ⟨gg, 2, none⟩ = some (.slice vd g.o.length vk) := k 2
        have k3 : w1.cell? ⟨gg, 3, none⟩ = some (.slice ve g.h.length vm) := k 3
        clear k
        go_wp2_with (first
          | (go_at_call 225; refine (P.out _).mono ?_; rintro e w4 ⟨rfl, rfl⟩)
          | (go_at_call 227; refine (LO.out _ H1.out).mono ?_; rintro e w5 ⟨⟨A, c, rfl, hLs⟩, b5⟩; have LS := Lib.hid hLs; have B5 := Lib.hid (hB.out.trans (b5.mono hB.out.size)); clear hLs b5)
          | (go_at_call 148; refine (FI.out _ _ _ LS.out).mono ?_; rintro e w6 ⟨rfl, rfl⟩))
        go_ret2
        exact ⟨rfl, B5.out⟩
end Go.Proofs.YtpblpjopinllcaaGreatDoor.graph
