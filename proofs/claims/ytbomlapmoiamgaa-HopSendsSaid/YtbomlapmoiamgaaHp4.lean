/-
  slices.Delete and slices.Clone at items; due, Out (by gen_hp4.py).
-/
import Derived.Test.YtbomlapmoiamgaaHp3
import Derived.Test.YtbomlapmoiamgaaWs
import Derived.Shelf.RegionOpenPlain
import Derived.Deep.RegionLaw
set_option linter.unusedSimpArgs false
set_option linter.unusedVariables false
namespace Go.Proofs.Ytbomlapmoiamgaa.hop
open Go.ChangeShapes Go.WideShapes Go.ChangeAt Go.RowKit
open Go.Proofs.Ytbomlapmoiamgaa.opened Go.Proofs.Ytbomlapmoiamgaa.block Go.Proofs.Ytbomlapmoiamgaa.words Go.Proofs.Ytbomlapmoiamgaa.region
def noI : It := ⟨0, []⟩
theorem infoI : ∃ i, Try.prog.info? 85 = some i ∧ i.zero = some (.agg #[.int .i64 0, sV []]) ∧ i.size = 2 ∧ i.bytes = 24 := by
  have h : (Try.prog.info? 85).map (fun i => (i.zero, i.size, i.bytes)) = some (some (.agg #[.int .i64 0, sV []]), 2, 24) := by kernel_rfl
  rw [Option.map_eq_some_iff] at h
  obtain ⟨i, hi, he⟩ := h
  simp only [Prod.mk.injEq] at he
  exact ⟨i, hi, he.1, he.2.1, he.2.2⟩
theorem zeroI : ∀ w, (zeroValue 85).run Try.prog w = .ok (.agg #[.int .i64 0, sV []]) w := fun w => by
  simp [zeroValue, show Try.t85.zero = some (.agg #[.int .i64 0, sV []]) from by kernel_rfl]
section
variable {B : Nat} {w : World}
set_option maxRecDepth 100000 in
set_option maxHeartbeats 4000000 in
theorem delete_any {L : List It} {A : Option Addr} {c : Nat} (h : OwnG 85 2 cI w B (.slice A L.length c) L) (hl : L.length ≤ 64) (i j : Nat) (hj : i < j) (hjl : j ≤ L.length) : Calls Try.prog 51 #[.slice A L.length c, .int .i64 i, .int .i64 j] w fun e w' => e = .returned (.slice A (L.length - (j - i)) c) ∧ OwnG 85 2 cI w' B (.slice A (L.length - (j - i)) c) (L.take i ++ L.drop j) ∧ ∃ b, A = some ⟨b, 0, none⟩ ∧ w.grownBy w' (some b) := by
  obtain ⟨b, cur, rfl, hb, hg, hc, hcm, hs, ht⟩ : ∃ b cur, A = some ⟨b, 0, none⟩ ∧ B ≤ b ∧ w.heap[b]? = some (.cells cur 85 (0, 0)) ∧ L.length ≤ c ∧ c ≤ maxLen ∧ cur.size = c * 2 ∧ cur.toList.take (L.length * 2) = L.flatMap cI := by
    rcases h.2 with ⟨-, hn⟩ | ⟨b, cap, cur, hv, hb, hg, hc, hcm, hs, ht⟩
    · omega
    · injection hv with h1 h2 h3
      subst h3
      exact ⟨b, cur, h1, hb, hg, hc, hcm, hs, ht⟩
  clear h
  obtain ⟨n, hn⟩ : ∃ n, n = L.length := ⟨_, rfl⟩
  have HN := Lib.hid hn
  obtain ⟨news, hnews⟩ : ∃ news, news = (L.drop j).flatMap cI := ⟨_, rfl⟩
  have hlen : news.length = (n - j) * 2 := by rw [hnews, flatG_len cellsI, List.length_drop, hn]
  have hget : ∀ t, t < (n - j) * 2 → news[t]? = cur[j * 2 + t]? := by
    intro t ht2
    have e : (L.flatMap cI)[j * 2 + t]? = cur[j * 2 + t]? := by
      rw [← ht, List.getElem?_take, if_pos (by omega), Array.getElem?_toList]
    rw [hnews, flat_drop cellsI, List.getElem?_drop, e]
  have wd : Whole w.drew b 85 cur := hg
  obtain ⟨A, hA, hsrc⟩ : ∃ A : Addr, (if c = j then some (⟨b, 0, none⟩ : Addr) else some ⟨b, j * 2, none⟩) = some A ∧ Hid (∀ t u, news[t]? = some u → w.drew.cell? (A.add t) = some u) := by
    by_cases h : c = j
    · refine ⟨⟨b, 0, none⟩, by simp [h], fun t u hu => ?_⟩
      have h0 : news.length = 0 := by rw [hlen]; omega
      rw [List.length_eq_zero_iff.1 h0] at hu
      simp at hu
    · refine ⟨⟨b, j * 2, none⟩, by simp [h], fun t u hu => ?_⟩
      have ht2 : t < (n - j) * 2 := by
        have := (List.getElem?_eq_some_iff.1 hu).1
        rwa [hlen] at this
      rw [hget t ht2] at hu
      rw [Addr.add_lit, wd.read]
      exact hu
  have s1 : Hid (news.length = (n - j) * 2) := hlen
  have s2 : Hid (∀ u ∈ news, u.oneCell' = true) := by
    intro u hu
    rw [hnews] at hu
    obtain ⟨x, -, hx⟩ := List.mem_flatMap.1 hu
    exact cellsI.one x u hx
  have s3 : Hid (∀ t, t < news.length → (w.drew.cell? ⟨b, 0 + i * 2 + t, none⟩).isSome = true ∧ w.drew.frozen? ⟨b, 0 + i * 2 + t, none⟩ = false) := by
    intro t ht2
    rw [hlen] at ht2
    refine ⟨?_, wd.soft _⟩
    rw [wd.read, Array.getElem?_eq_getElem (by omega)]
    rfl
  obtain ⟨W1, hW1⟩ : ∃ W1, W1 = w.drew.setCells b (0 + i * 2) news := ⟨_, rfl⟩
  obtain ⟨ds, hd1, hd2⟩ := whole_setCells news (0 + i * 2) w.drew cur wd (by rw [hlen]; omega)
  rw [← hW1] at hd1
  have hg1 : w.grownBy W1 (some b) := by rw [hW1]; exact grown_setCells _ _ _ (only_of_below (Below.refl _ w).drew _)
  have hds : ds.size = c * 2 := by
    have := congrArg List.length hd2
    simp only [Array.length_toList, List.length_append, List.length_take, List.length_drop, hlen, hs] at this
    omega
  have hcl : ∀ ty, (Builtin.clear_ #[69] ty #[.slice (some ⟨b, (i + (n - j)) * 2, none⟩) (n - (i + (n - j))) (c - (i + (n - j)))]).run Try.prog W1 = .ok (.tuple #[]) (W1.setCells b ((i + (n - j)) * 2) ((List.replicate (n - (i + (n - j))) noI).flatMap cI)) :=
    fun ty => run_clear_G cellsI (by decide) noI W1 _ _ ty _ Try.underlying69 zeroI rfl b _ _ _ (by omega) (fun t ht2 => by rw [hd1.read, Array.getElem?_eq_getElem (by omega)]; rfl) (fun t ht2 => hd1.soft _)
  obtain ⟨es, he1, he2⟩ := whole_setCells ((List.replicate (n - (i + (n - j))) noI).flatMap cI) ((i + (n - j)) * 2) W1 ds hd1 (by rw [flatG_len cellsI, List.length_replicate, hds]; omega)
  have hg2 : w.grownBy (W1.setCells b ((i + (n - j)) * 2) ((List.replicate (n - (i + (n - j))) noI).flatMap cI)) (some b) := grown_setCells _ _ _ hg1
  have HF : Hid (OwnG 85 2 cI (W1.setCells b ((i + (n - j)) * 2) ((List.replicate (n - (i + (n - j))) noI).flatMap cI)) B (.slice (some ⟨b, 0, none⟩) (n - (j - i)) c) (L.take i ++ L.drop j)) := Lib.hid (by
    have hle : (L.take i ++ L.drop j).length = n - (j - i) := by rw [List.length_append, List.length_take, List.length_drop]; omega
    refine ⟨flatG_len cellsI _, .inr ⟨b, c, es, by rw [hle], hb, he1, by omega, hcm, ?_, ?_⟩⟩
    · have := congrArg List.length he2
      simp only [Array.length_toList, List.length_append, List.length_take, List.length_drop, flatG_len cellsI, List.length_replicate, hds] at this
      omega
    · rw [hle, he2, List.append_assoc, List.take_append_of_le_length (by rw [List.length_take, Array.length_toList, hds]; omega), List.take_take, hd2, List.append_assoc, Nat.min_eq_left (by omega), ← List.append_assoc, List.take_append_of_le_length (by rw [List.length_append, List.length_take, Array.length_toList, hlen]; omega), List.take_of_length_le (by rw [List.length_append, List.length_take, Array.length_toList, hlen]; omega)]
      rw [List.flatMap_append, ← hnews, flat_take cellsI, ← ht, List.take_take, Nat.min_eq_left (by omega), Nat.zero_add])
  have HG := Lib.hid hg2
  have HJ := Lib.hid hj
  obtain ⟨i0, hi0, -, hz2, -⟩ := infoI
  have hW : Hid (W1 = w.drew.setCells b (0 + i * 2) news) := hW1
  have hjn : j ≤ n := by omega
  have hin : i < n := by omega
  have hcn : n ≤ c := by omega
  have hic : i ≤ c := by omega
  have hjc : j ≤ c := by omega
  have hin1 : j ≤ n := by omega
  have hij : i < j := by omega
  have hl2 : n ≤ 64 := by omega
  rw [← hn]
  clear hW1 hd1 hd2 hds he1 he2 hg1 hg2 wd hget hnews hlen hs ht hg hb hcm hc hl hn hj hjl
  go_enter Try.func51, Try.ntmps51
  go_wp2_with fail
  go_region_law (refine step_append_room rfl (.tmp 22) (.tmp 25) 69 rfl 85 i0 2 Try.underlying69 hi0 hz2 b 0 i c (by simp [Act.eval, Act.put]) A (n - j) (c - j) news (by simp [Act.eval, Act.put]) s1.out hsrc.out s2.out (by omega) s3.out ?_; rw [← hW.out])
  go_wp2
  go_ret
  have hj := HJ.out
  exact ⟨by rw [show n - (j - i) = i + (n - j) by omega]; rfl, HF.out, b, rfl, HG.out⟩
end
section
variable {B g : Nat} {S : Sn} {A : Option Addr} {c : Nat} {w w' : World}
theorem one_flatI (M : List It) : ∀ u ∈ M.flatMap cI, u.oneCell' = true := by
  intro u hu
  obtain ⟨x, -, hx⟩ := List.mem_flatMap.1 hu
  exact cellsI.one x u hx
theorem own0I (W : World) : (W.alloc (.cells #[] 85)).ownsRow W.heap.size 85 2 (.slice (some ⟨W.heap.size, 0, none⟩) 0 0) 0 [] := ⟨rfl, .inr ⟨W.heap.size, 0, #[], rfl, Nat.le_refl _, heap_new W _, Nat.le_refl _, by simp [maxLen], rfl, rfl⟩⟩
/-- A row that came: its cells behind one another. -/
theorem lg_flat {w : World} {A : Addr} {M : List It} (h : graph.Lg 2 cI w (some A) M) : ∀ t u, (M.flatMap cI)[t]? = some u → w.cell? (A.add t) = some u := by
  intro t u hu
  have ht := (List.getElem?_eq_some_iff.1 hu).1
  rw [flatG_len cellsI] at ht
  have hk : t / 2 < M.length := by omega
  obtain ⟨b, off, ha, hb, hc⟩ := graph.Lg.cells h (List.getElem?_eq_getElem hk)
  have hc2 := hc (t % 2) (by omega)
  have hf := flatG_at cellsI M (t / 2) _ (t % 2) (List.getElem?_eq_getElem hk) (by omega)
  rw [show t / 2 * 2 + t % 2 = t by omega] at hc2 hf
  injection ha with ha
  subst ha
  rw [Addr.add_lit, hc2, ← hf, hu]
set_option maxRecDepth 100000 in
set_option maxHeartbeats 2000000 in
theorem clone_any {M : List It} {A : Option Addr} {c : Nat} (h : graph.Lg 2 cI w A M) (hA : A = none ∨ ∃ b o, A = some ⟨b, o, none⟩) (hl : M.length ≤ 64) : Calls Try.prog 52 #[.slice A M.length c] w fun e w' => ∃ A' c', e = .returned (.slice A' M.length c') ∧ OwnG 85 2 cI w' w.heap.size (.slice A' M.length c') M ∧ Below w.heap.size w w' := by
  rcases hA with rfl | ⟨b0, o0, rfl⟩
  · have hM : M = [] := by
      rcases h with h | ⟨b, off, ha, -⟩
      · simpa using h
      · cases ha
    subst hM
    have hq := fun W => Lib.run_eql_slice_nil (P := Try.prog) W 69 85 none 0 c 0 0 Try.underlying69
    clear h
    go_enter Try.func52, Try.ntmps52
    go_wp2_with fail
    go_ret
    exact ⟨none, 0, rfl, ownG_nil _ _, Below.refl _ _⟩
  · obtain ⟨i0, hi0, hz0, hz1, hz2⟩ := infoI
    have HC := Lib.hid (lg_flat (h.below (fresh1 w (.cells #[] 85))))
    have HO := Lib.hid (own0I w)
    have hq := fun W => Lib.run_eql_slice_nil (P := Try.prog) W 69 85 (some ⟨b0, o0, none⟩) M.length c 0 0 Try.underlying69
    have HF := Lib.hid (flatG_len cellsI M)
    have H1 := Lib.hid (one_flatI M)
    have HL := Lib.hid hl
    have HX : Hid (∀ w5 A' c', w5.ownsRow w.heap.size 85 2 (.slice A' M.length c') M.length (M.flatMap cI) → OwnG 85 2 cI w5 w.heap.size (.slice A' M.length c') M) := Lib.hid (fun _ _ _ h => h)
    clear h hl
    obtain ⟨n, hn⟩ : ∃ n, n = M.length := ⟨_, rfl⟩
    rw [← hn] at HF HL hq HX ⊢
    generalize M.flatMap cI = xs at HC HF H1 HX
    clear hn
    go_enter Try.func52, Try.ntmps52
    go_wp2_with (at_builtin; refine wpList_append_own _ rfl _ _ 69 rfl w.heap.size 85 i0 (.agg #[.int .i64 0, sV []]) 2 24 Try.underlying69 hi0 hz0 hz1 hz2 rfl (by decide) _ 0 [] rfl HO.out ⟨b0, o0, none⟩ n _ xs rfl HF.out HC.out H1.out (by have := HL.out; simp [maxLen]; omega) (by have := HL.out; omega) (by simp) ?_; intro v' w5 hown' hgrow _; have b5 := Lib.hid (((Below.refl w.heap.size w).alloc (Nat.le_refl _) (.cells #[] 85)).grown hgrow (by simp) (fun j ej => by cases ej; exact Nat.le_refl _)); obtain ⟨A4, c4, hv5⟩ : ∃ A4 c4, v' = .slice A4 n c4 := (by rcases hown'.2 with ⟨rfl, h0⟩ | ⟨g', cap, cur, rfl, -⟩; (· exact ⟨none, 0, by rw [show n = 0 by omega]⟩); (· exact ⟨some ⟨g', 0, none⟩, cap, by rw [Nat.zero_add]⟩)); subst hv5; have HO5 : Hid (w5.ownsRow w.heap.size 85 2 (.slice A4 n c4) n xs) := Lib.hid (by simpa using hown'); clear hown' hgrow)
    go_ret
    exact ⟨A4, c4, rfl, HX.out _ _ _ HO5.out, b5.out⟩
set_option maxRecDepth 100000 in
set_option maxHeartbeats 2000000 in
theorem due_any (h : SnE B w g S A c) (G : GoodS S) : Calls Try.prog 53 #[.pointer (some ⟨g, 0, none⟩)] w fun e w' => ∃ A1, e = .returned (.slice A1 (outL S).length (outL S).length) ∧ graph.Lg 2 cI w' A1 (outL S) ∧ (A1 = none ∨ ∃ b o, A1 = some ⟨b, o, none⟩) ∧ Below w.heap.size w w' := by
  have c1 : ∀ y : Since w, y.1.cell? ⟨g, 1, none⟩ = some (.int .i64 S.wd) := fun y => (h.below y.2).cell.read 1
  have c3 : ∀ y : Since w, y.1.cell? ⟨g, 3, none⟩ = some (.int .i64 S.a) := fun y => (h.below y.2).cell.read 3
  have c4 : ∀ y : Since w, y.1.cell? ⟨g, 4, none⟩ = some (.int .i64 S.s) := fun y => (h.below y.2).cell.read 4
  have c6 : ∀ y : Since w, y.1.cell? ⟨g, 6, none⟩ = some (.slice A S.L.length c) := fun y => (h.below y.2).cell.read 6
  have g0 := G.s0; have g1 := G.s1; have g2 := G.s2; have g3 := G.a0; have g4 := G.m; have g5 := G.w1; have g6 := G.w0; have g7 := G.l
  have ha1 : S.a ≤ 1099511627776 := by omega
  have hs1 : S.s ≤ 1099511627792 := by omega
  go_enter Try.func53, Try.ntmps53
  go_upto_region 1 with fail
  refine region_since w (by kernel_rfl) (by kernel_rfl) (Below.refl _ _) ?_
  repeat (go_big_quiet_step (fail))
  refine wpQuiet_nil ?_
  rintro w4 ⟨z, rfl⟩
  have z6 : z.1.cell? ⟨g, 6, none⟩ = some (.slice A S.L.length c) := c6 z
  have hE := Lib.hid (h.below z.2)
  have hz := Lib.hid z.2
  generalize z.1 = w4 at z6 hE hz ⊢
  have hlen := outL_len G
  obtain ⟨f, hf⟩ : ∃ f : Nat, S.s - S.a = f := ⟨(S.s - S.a).toNat, by omega⟩
  obtain ⟨t, ht⟩ : ∃ t : Nat, (if (S.L.length : Int) < S.wd then (S.L.length : Int) else S.wd) = t := ⟨min S.L.length S.wd.toNat, by split <;> omega⟩
  have hft : f ≤ t ∧ t ≤ S.L.length ∧ t ≤ 16 ∧ (outL S).length = t - f := by
    split at ht <;> omega
  have hO : Hid (outL S = (S.L.take t).drop f) := Lib.hid (by
    unfold outL
    rw [hf, Int.toNat_natCast]
    by_cases hx : (S.L.length : Int) < S.wd
    · rw [if_pos hx] at ht
      rw [List.take_of_length_le (by omega), List.take_of_length_le (by omega)]
    · rw [if_neg hx] at ht
      rw [show S.wd.toNat = t by omega])
  rw [ht, hf]
  obtain ⟨h1, h2, h3, h4⟩ := hft
  have H4 := Lib.hid h4
  have h1i : (f : Int) ≤ t := by omega
  clear c1 c3 c4 c6 z h g0 g1 g2 g3 g4 g5 g6 ha1 hs1 hlen hf ht h4 G
  rcases hE.out.row.2 with ⟨hv, hn⟩ | ⟨b, cap, cur, hv, hb, hh, hcl, hcm, hcs, hct⟩
  · injection hv with hv1 hv2 hv3
    subst hv1 hv3
    have hL : S.L = [] := List.eq_nil_of_length_eq_zero hn
    rw [hn] at z6
    obtain rfl : t = 0 := by omega
    obtain rfl : f = 0 := by omega
    clear h1i g7 hn hv2 h1 h2 h3
    go_wp2_with fail
    go_ret
    exact ⟨none, by show Ending.returned (.slice none 0 0) = _; rw [H4.out], .inl (by rw [hO.out]; simp), .inl rfl, hz.out⟩
  · injection hv with hv1 hv2 hv3
    subst hv1 hv3
    have hcl2 : S.L.length ≤ c := hcl
    have h2c : (t : Int) ≤ c := by omega
    have h2i : (t : Int) ≤ S.L.length := by omega
    have hfc : f ≤ c := by omega
    have htc : t ≤ c := by omega
    have hcx : c ≤ maxLen := hcm
    have HL : Hid (∀ A1, (A1 = some ⟨b, 0, none⟩ ∨ A1 = some ⟨b, f * 2, none⟩) → (f < t → A1 = some ⟨b, f * 2, none⟩) → graph.Lg 2 cI w4 A1 (outL S)) := Lib.hid (fun A1 ha hlt => by
      by_cases hft : f < t
      · refine .inr ⟨b, f * 2, hlt hft, (Array.getElem?_eq_some_iff.1 hh).1, fun i x hx => ?_⟩
        rw [List.getElem?_map, Option.map_eq_some_iff] at hx
        obtain ⟨y, hy, rfl⟩ := hx
        refine ⟨rfl, fun j hj => ?_⟩
        rw [hO.out, List.getElem?_drop, List.getElem?_take] at hy
        split at hy
        · have e := flatG_at cellsI S.L (f + i) y j hy hj
          have hi := (List.getElem?_eq_some_iff.1 hy).1
          have hlt : (f + i) * 2 + j < S.L.length * 2 := by omega
          rw [← hct, List.getElem?_take, if_pos hlt, Array.getElem?_toList] at e
          rw [← e, show (f + i) * 2 + j = f * 2 + (i * 2 + j) by omega]
          simp [World.cell?, hh]
        · cases hy
      · refine .inl ?_
        rw [hO.out, List.drop_of_length_le (by rw [List.length_take]; omega)]
        rfl)
    have hn64 : S.L.length ≤ 64 := g7
    clear hh hcl hcm hcs hct hv2 hb hO hE
    generalize S.L.length = n at z6 hcl2 h2i hn64 h2
    by_cases hft : f = t
    · subst hft
      go_wp2_with fail
      go_ret
      exact ⟨some ⟨b, 0, none⟩, by show Ending.returned (.slice (some ⟨b, 0, none⟩) 0 0) = _; rw [H4.out, Nat.sub_self], HL.out _ (.inl rfl) (fun h => absurd h (Nat.lt_irrefl _)), .inr ⟨b, 0, rfl⟩, hz.out⟩
    · have hlt : f < t := by omega
      have hlti : (f : Int) < t := by omega
      go_wp2_with fail
      go_ret
      exact ⟨some ⟨b, f * 2, none⟩, by show Ending.returned (.slice (some ⟨b, f * 2, none⟩) (t - f) (t - f)) = _; rw [H4.out], HL.out _ (.inr rfl) (fun _ => rfl), .inr ⟨b, f * 2, rfl⟩, hz.out⟩
theorem out_any (h : SnE B w g S A c) (G : GoodS S) : Calls Try.prog 35 #[.pointer (some ⟨g, 0, none⟩)] w fun e w' => ∃ A2 c2, e = .returned (.slice A2 (outL S).length c2) ∧ OwnG 85 2 cI w' w.heap.size (.slice A2 (outL S).length c2) (outL S) ∧ SnE B w' g (outV S) A c ∧ TurnS w w' (SnS g A) := by
  have HD := Lib.hid (due_any h G)
  have hol := outL_len G
  have g0 := G.s0; have g1 := G.s1; have g2 := G.s2; have g3 := G.a0; have g4 := G.m; have g5 := G.w1; have g6 := G.w0; have g7 := G.l
  have hs0 : 0 ≤ S.s := by omega
  have hs1 : S.s ≤ 1099511627792 := by omega
  have hl : (outL S).length ≤ 16 := by omega
  have HC := Lib.hid (fun (w1 : World) (A1 : Option Addr) (h1 : graph.Lg 2 cI w1 A1 (outL S)) (h2 : A1 = none ∨ ∃ b o, A1 = some ⟨b, o, none⟩) => clone_any (c := (outL S).length) h1 h2 (by omega))
  have hS : ∀ w1, Below w.heap.size w w1 → SnE B (w1.setCell ⟨g, 4, none⟩ (.int .i64 (S.s + (outL S).length))) g (outV S) A c ∧ TurnS w (w1.setCell ⟨g, 4, none⟩ (.int .i64 (S.s + (outL S).length))) (SnS g A) := fun w1 hb => by
    have hb1 := h.below hb
    have := SnE.only hb1 (V := outV S) (only_store (only_of_below (Below.refl _ w1) (some g)) (.int .i64 (S.s + (outL S).length))) rfl (hb1.cell.store 4 (.int .i64 (S.s + (outL S).length)))
    exact ⟨this.1, (TurnS.of hb).trans this.2⟩
  have HS := Lib.hid hS
  have HR := Lib.hid (fun (w1 : World) (hb : Below w.heap.size w w1) => ((h.below hb).cell.read 4 : w1.cell? ⟨g, 4, none⟩ = some (.int .i64 S.s)))
  have HF := Lib.hid (fun (w1 : World) (hb : Below w.heap.size w w1) => ((h.below hb).cell.soft 4 : w1.frozen? ⟨g, 4, none⟩ = false))
  have hgi := h.cell.inside
  have HO := Lib.hid (fun (w1 : World) (A2 : Option Addr) (c2 : Nat) (h1 : OwnG 85 2 cI w1 w.heap.size (.slice A2 (outL S).length c2) (outL S)) (x : Int) => h1.keptG (only_store (only_of_below (Below.refl _ w1) (some g)) (.int .i64 x) : w1.grownBy (w1.setCell ⟨g, 4, none⟩ (.int .i64 x)) (some g)) hgi)
  have HB := Lib.hid (fun (w1 w2 : World) (A2 : Option Addr) (c2 : Nat) (hb : Below w.heap.size w w1) (h1 : OwnG 85 2 cI w2 w1.heap.size (.slice A2 (outL S).length c2) (outL S)) => (⟨h1.1, by
    rcases h1.2 with hx | ⟨b, cap, cur, hv, hb2, rest⟩
    · exact .inl hx
    · exact .inr ⟨b, cap, cur, hv, Nat.le_trans hb.size hb2, rest⟩⟩ : OwnG 85 2 cI w2 w.heap.size (.slice A2 (outL S).length c2) (outL S)))
  clear hS h G g0 g1 g2 g3 g4 g5 g6 g7 hgi hol
  generalize outL S = M at *
  generalize outV S = V at *
  go_enter Try.func35, Try.ntmps35
  go_upto_region 2 with (first
    | (go_at_call 52; (with_reducible refine (HC.out _ _ L1.out N1.out).mono ?_); rintro e w2 ⟨A2, c2, rfl, o2, b2⟩; have O2 := Lib.hid (HB.out _ _ _ _ B1.out o2); have B2 := Lib.hid (then_below B1.out b2); clear o2 b2)
    | (go_at_call 53; (with_reducible refine HD.out.mono ?_); rintro e w1 ⟨A1, rfl, l1, n1, b1⟩; have L1 := Lib.hid l1; have N1 := Lib.hid n1; have B1 := Lib.hid b1; clear l1 n1 b1))
  have z4 := HR.out w2 B2.out
  have f4 := HF.out w2 B2.out
  go_wp2_with fail
  go_ret
  obtain ⟨s1, s2⟩ := HS.out w2 B2.out
  exact ⟨A2, c2, rfl, HO.out _ _ _ O2.out _, s1, s2⟩
end
end Go.Proofs.Ytbomlapmoiamgaa.hop
