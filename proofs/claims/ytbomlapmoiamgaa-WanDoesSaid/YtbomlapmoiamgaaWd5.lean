/-
  Double; slices.Delete at letters.
-/
import Derived.Test.YtbomlapmoiamgaaWd4
import Derived.Test.YtbomlapmoiamgaaWs
import Derived.Shelf.RegionOpenPlain
import Derived.Deep.RegionLaw
set_option linter.unusedSimpArgs false
set_option linter.unusedVariables false
namespace Go.Proofs.Ytbomlapmoiamgaa.wan
open Go.ChangeShapes Go.WideShapes Go.ChangeAt Go.RowKit
open Go.Proofs.Ytbomlapmoiamgaa.opened Go.Proofs.Ytbomlapmoiamgaa.block Go.Proofs.Ytbomlapmoiamgaa.words Go.Proofs.Ytbomlapmoiamgaa.region
def noL : Lt := ⟨0, 0, []⟩
theorem zeroP : ∀ w, (zeroValue 34).run Try.prog w = .ok (.agg #[.int .i64 0, .int .i64 0, sV []]) w := fun w => by
  simp [zeroValue, show Try.t34.zero = some (.agg #[.int .i64 0, .int .i64 0, sV []]) from by kernel_rfl]
def dblE (W : Wn) (i : Int) : Int := if atE W i ≠ 0 then atE W i else layE W
def dblV (W : Wn) (i : Int) : Wn := if atE W i ≠ 0 then W else layV W (atV W i)
section
variable {B g : Nat} {W : Wn} {A : Option Addr} {c : Nat} {w : World}
set_option maxRecDepth 100000 in
theorem double_any (h : WanE 94 34 B w g W A c) (G : GoodW W) (i : Int) : Calls Try.prog 14 #[.pointer (some ⟨g, 0, none⟩), .int .i64 i] w fun e w' => e = .returned (.int .i64 (dblE W i)) ∧ WanP 94 34 B w' g (dblV W i) ∧ WB 94 34 B w w' := by
  have hBw : B ≤ w.heap.size := (show WanP 94 34 B w g W from ⟨A, c, h⟩).le
  have HBw := Lib.hid hBw
  have HE := Lib.hid h
  have HA := Lib.hid (at_any h G i)
  have HY := Lib.hid fun w1 (b : Below w.heap.size w w1) => lay_any (h.below b) G (atV W i)
  have HEE : Hid (dblE W i = if atE W i ≠ 0 then atE W i else layE W) := Lib.hid rfl
  have HVV : Hid (dblV W i = if atE W i ≠ 0 then W else layV W (atV W i)) := Lib.hid rfl
  generalize dblE W i = de at HEE ⊢
  generalize dblV W i = dv at HVV ⊢
  generalize atV W i = l at HA HY HVV
  clear h G hBw
  by_cases h0 : atE W i = 0
  · have he := HEE.out
    rw [if_neg (by simp [h0])] at he
    have hv := HVV.out
    rw [if_neg (by simp [h0])] at hv
    rw [h0] at HA
    subst he hv
    clear HEE HVV h0
    go_enter Try.func14, Try.ntmps14
    go_upto_region 2 with (go_at_call 22; (with_reducible refine HA.out.mono ?_); rintro e w1 ⟨rfl, b1⟩; have B1 := Lib.hid b1; clear b1)
    change Code.wp _ _ _ _ (w1.alloc (.cells (cL l).toArray 34))
    have B2 := Lib.hid (then_below B1.out (fresh1 w1 (.cells (cL l).toArray 34)))
    have R2 := Whole.fresh w1 34 (cL l).toArray
    have k0 : (w1.alloc (.cells (cL l).toArray 34)).cell? ⟨w1.heap.size, 0, none⟩ = some (.int .i64 l.f) := R2.read 0
    have k1 : (w1.alloc (.cells (cL l).toArray 34)).cell? ⟨w1.heap.size, 1, none⟩ = some (.int .i64 l.t) := R2.read 1
    have k2 : (w1.alloc (.cells (cL l).toArray 34)).cell? ⟨w1.heap.size, 2, none⟩ = some (sV l.s) := R2.read 2
    clear R2
    generalize w1.alloc (.cells (cL l).toArray 34) = w2 at B2 k0 k1 k2 ⊢
    go_wp2_with (go_at_call 44; (with_reducible refine (HY.out _ B2.out).mono ?_); rintro e w3 ⟨rfl, p3, b3⟩; have P3 := Lib.hid p3; have B3 := Lib.hid b3; clear p3 b3)
    go_ret
    exact ⟨rfl, P3.out, (WB.of B2.out HBw.out).trans B3.out⟩
  · have he := HEE.out
    rw [if_pos h0] at he
    have hv := HVV.out
    rw [if_pos h0] at hv
    subst he
    have hv := hv.symm
    subst hv
    have h01 : (atE W i != 0) = true := by simpa using h0
    generalize atE W i = ae at HA h01 ⊢
    clear HEE HVV h0 HY
    go_enter Try.func14, Try.ntmps14
    go_wp2_with (go_at_call 22; (with_reducible refine HA.out.mono ?_); rintro e w1 ⟨rfl, b1⟩; have B1 := Lib.hid b1; have B2 := Lib.hid (then_below b1 (fresh1 w1 (.cells (cL l).toArray 34))); clear b1)
    go_ret
    exact ⟨rfl, ⟨A, c, HE.out.below B2.out⟩, WB.of B2.out HBw.out⟩
end
section
variable {B : Nat} {w : World}
set_option maxRecDepth 100000 in
set_option maxHeartbeats 4000000 in
theorem delete_any {L : List Lt} {A : Option Addr} {c : Nat} (h : OwnG 34 3 cL w B (.slice A L.length c) L) (hl : L.length ≤ 96) (i j : Nat) (hj : j = i + 1) (hi : i < L.length) : Calls Try.prog 46 #[.slice A L.length c, .int .i64 i, .int .i64 j] w fun e w' => e = .returned (.slice A (L.length - 1) c) ∧ OwnG 34 3 cL w' B (.slice A (L.length - 1) c) (L.eraseIdx i) ∧ ∃ b, A = some ⟨b, 0, none⟩ ∧ w.grownBy w' (some b) := by
  obtain ⟨b, cur, rfl, hb, hg, hc, hcm, hs, ht⟩ : ∃ b cur, A = some ⟨b, 0, none⟩ ∧ B ≤ b ∧ w.heap[b]? = some (.cells cur 34 (0, 0)) ∧ L.length ≤ c ∧ c ≤ maxLen ∧ cur.size = c * 3 ∧ cur.toList.take (L.length * 3) = L.flatMap cL := by
    rcases h.2 with ⟨-, hn⟩ | ⟨b, cap, cur, hv, hb, hg, hc, hcm, hs, ht⟩
    · omega
    · injection hv with h1 h2 h3
      subst h3
      exact ⟨b, cur, h1, hb, hg, hc, hcm, hs, ht⟩
  clear h
  obtain ⟨n, hn⟩ : ∃ n, n = L.length := ⟨_, rfl⟩
  have HN := Lib.hid hn
  obtain ⟨news, hnews⟩ : ∃ news, news = (L.drop j).flatMap cL := ⟨_, rfl⟩
  have hlen : news.length = (n - j) * 3 := by rw [hnews, flatG_len cellsL, List.length_drop, hn]
  have hget : ∀ t, t < (n - j) * 3 → news[t]? = cur[j * 3 + t]? := by
    intro t ht2
    have e : (L.flatMap cL)[j * 3 + t]? = cur[j * 3 + t]? := by
      rw [← ht, List.getElem?_take, if_pos (by omega), Array.getElem?_toList]
    rw [hnews, flat_drop cellsL, List.getElem?_drop, e]
  have wd : Whole w.drew b 34 cur := hg
  obtain ⟨A, hA, hsrc⟩ : ∃ A : Addr, (if c = j then some (⟨b, 0, none⟩ : Addr) else some ⟨b, j * 3, none⟩) = some A ∧ Hid (∀ t u, news[t]? = some u → w.drew.cell? (A.add t) = some u) := by
    by_cases h : c = j
    · refine ⟨⟨b, 0, none⟩, by simp [h], fun t u hu => ?_⟩
      have h0 : news.length = 0 := by rw [hlen]; omega
      rw [List.length_eq_zero_iff.1 h0] at hu
      simp at hu
    · refine ⟨⟨b, j * 3, none⟩, by simp [h], fun t u hu => ?_⟩
      have ht2 : t < (n - j) * 3 := by
        have := (List.getElem?_eq_some_iff.1 hu).1
        rwa [hlen] at this
      rw [hget t ht2] at hu
      rw [Addr.add_lit, wd.read]
      exact hu
  have s1 : Hid (news.length = (n - j) * 3) := hlen
  have s2 : Hid (∀ u ∈ news, u.oneCell' = true) := by
    intro u hu
    rw [hnews] at hu
    obtain ⟨x, -, hx⟩ := List.mem_flatMap.1 hu
    exact cellsL.one x u hx
  have s3 : Hid (∀ t, t < news.length → (w.drew.cell? ⟨b, 0 + i * 3 + t, none⟩).isSome = true ∧ w.drew.frozen? ⟨b, 0 + i * 3 + t, none⟩ = false) := by
    intro t ht2
    rw [hlen] at ht2
    refine ⟨?_, wd.soft _⟩
    rw [wd.read, Array.getElem?_eq_getElem (by omega)]
    rfl
  obtain ⟨W1, hW1⟩ : ∃ W1, W1 = w.drew.setCells b (0 + i * 3) news := ⟨_, rfl⟩
  obtain ⟨ds, hd1, hd2⟩ := whole_setCells news (0 + i * 3) w.drew cur wd (by rw [hlen]; omega)
  rw [← hW1] at hd1
  have hg1 : w.grownBy W1 (some b) := by rw [hW1]; exact grown_setCells _ _ _ (only_of_below (Below.refl _ w).drew _)
  have hds : ds.size = c * 3 := by
    have := congrArg List.length hd2
    simp only [Array.length_toList, List.length_append, List.length_take, List.length_drop, hlen, hs] at this
    omega
  have hcl : ∀ ty, (Builtin.clear_ #[92] ty #[.slice (some ⟨b, (i + (n - j)) * 3, none⟩) (n - (i + (n - j))) (c - (i + (n - j)))]).run Try.prog W1 = .ok (.tuple #[]) (W1.setCells b ((i + (n - j)) * 3) ((List.replicate (n - (i + (n - j))) noL).flatMap cL)) :=
    fun ty => run_clear_G cellsL (by decide) noL W1 _ _ ty _ Try.underlying92 zeroP rfl b _ _ _ (by omega) (fun t ht2 => by rw [hd1.read, Array.getElem?_eq_getElem (by omega)]; rfl) (fun t ht2 => hd1.soft _)
  obtain ⟨es, he1, he2⟩ := whole_setCells ((List.replicate (n - (i + (n - j))) noL).flatMap cL) ((i + (n - j)) * 3) W1 ds hd1 (by rw [flatG_len cellsL, List.length_replicate, hds]; omega)
  have hg2 : w.grownBy (W1.setCells b ((i + (n - j)) * 3) ((List.replicate (n - (i + (n - j))) noL).flatMap cL)) (some b) := grown_setCells _ _ _ hg1
  have HF : Hid (OwnG 34 3 cL (W1.setCells b ((i + (n - j)) * 3) ((List.replicate (n - (i + (n - j))) noL).flatMap cL)) B (.slice (some ⟨b, 0, none⟩) (n - 1) c) (L.eraseIdx i)) := Lib.hid (by
    have hle : (L.eraseIdx i).length = n - 1 := by rw [List.length_eraseIdx_of_lt hi, hn]
    refine ⟨flatG_len cellsL _, .inr ⟨b, c, es, by rw [hle], hb, he1, by omega, hcm, ?_, ?_⟩⟩
    · have := congrArg List.length he2
      simp only [Array.length_toList, List.length_append, List.length_take, List.length_drop, flatG_len cellsL, List.length_replicate, hds] at this
      omega
    · rw [hle, he2, List.append_assoc, List.take_append_of_le_length (by rw [List.length_take, Array.length_toList, hds]; omega), List.take_take, hd2, List.append_assoc, Nat.min_eq_left (by omega), ← List.append_assoc, List.take_append_of_le_length (by rw [List.length_append, List.length_take, Array.length_toList, hlen]; omega), List.take_of_length_le (by rw [List.length_append, List.length_take, Array.length_toList, hlen]; omega)]
      rw [List.eraseIdx_eq_take_drop_succ, ← hj, List.flatMap_append, ← hnews, flat_take cellsL, ← ht, List.take_take, Nat.min_eq_left (by omega), Nat.zero_add])
  have HG := Lib.hid hg2
  have HJ := Lib.hid hj
  obtain ⟨i0, hi0, -, hz2, -⟩ := infoP
  have hW : Hid (W1 = w.drew.setCells b (0 + i * 3) news) := hW1
  have hin : i < n := by omega
  have hcn : n ≤ c := by omega
  have hic : i ≤ c := by omega
  have hjc : j ≤ c := by omega
  have hin1 : j ≤ n := by omega
  have hij : i < j := by omega
  have hl2 : n ≤ 96 := by omega
  rw [← hn]
  clear hW1 hd1 hd2 hds he1 he2 hg1 hg2 wd hget hnews hlen hs ht hg hb hcm hc hi hl hn hj
  go_enter Try.func46, Try.ntmps46
  go_wp2_with fail
  go_region_law (refine step_append_room rfl (.tmp 22) (.tmp 25) 92 rfl 34 i0 3 Try.underlying92 hi0 hz2 b 0 i c (by simp [Act.eval, Act.put]) A (n - j) (c - j) news (by simp [Act.eval, Act.put]) s1.out hsrc.out s2.out (by omega) s3.out ?_; rw [← hW.out])
  go_wp2
  go_ret
  have hj := HJ.out
  exact ⟨by rw [show n - 1 = i + (n - j) by omega]; rfl, HF.out, b, rfl, HG.out⟩
end
end Go.Proofs.Ytbomlapmoiamgaa.wan
