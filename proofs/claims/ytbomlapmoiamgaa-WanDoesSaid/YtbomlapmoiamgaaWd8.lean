/-
  slices.DeleteFunc at letters.
-/
import Derived.Test.YtbomlapmoiamgaaWd7
set_option linter.unusedSimpArgs false
set_option linter.unusedVariables false
namespace Go.Proofs.Ytbomlapmoiamgaa.wan
open Go.ChangeShapes Go.WideShapes Go.ChangeAt Go.RowKit
open Go.Proofs.Ytbomlapmoiamgaa.opened Go.Proofs.Ytbomlapmoiamgaa.block Go.Proofs.Ytbomlapmoiamgaa.words Go.Proofs.Ytbomlapmoiamgaa.region
abbrev notP (p : Lt → Bool) (L : List Lt) : List Lt := L.filter fun x => !p x
/-- The row in the midst: what was kept lies in front, from j on all is as it was. -/
structure Mid (p : Lt → Bool) (L : List Lt) (i j : Nat) (d : List Lt) : Prop where
  len : d.length = L.length
  lt : i ≤ j
  le : j ≤ L.length
  pre : d.take i = notP p (L.take j)
  post : d.drop j = L.drop j
theorem Mid.start {p : Lt → Bool} {L : List Lt} {k : Nat} (hk : k < L.length) (hp : p L[k] = true) (ha : ∀ j (hj : j < L.length), j < k → p L[j] = false) : Mid p L k (k + 1) L := by
  refine ⟨rfl, by omega, by omega, ?_, rfl⟩
  rw [List.take_succ_eq_append_getElem hk]
  unfold notP
  rw [List.filter_append, List.filter_eq_self.2]
  · simp [hp]
  · intro x hx
    obtain ⟨j, hj, rfl⟩ := List.getElem_of_mem hx
    rw [List.length_take] at hj
    rw [List.getElem_take, ha j (by omega) (by omega)]
    rfl
theorem Mid.skip {p : Lt → Bool} {L d : List Lt} {i j : Nat} (h : Mid p L i j d) (hj : j < L.length) (hp : p L[j] = true) : Mid p L i (j + 1) d := by
  refine ⟨h.len, by have := h.lt; omega, hj, ?_, ?_⟩
  · rw [h.pre, List.take_succ_eq_append_getElem hj]
    unfold notP
    rw [List.filter_append]
    simp [hp]
  · rw [← List.drop_drop, h.post, List.drop_drop]
theorem Mid.keep {p : Lt → Bool} {L d : List Lt} {i j : Nat} (h : Mid p L i j d) (hij : i < j) (hj : j < L.length) (hp : p L[j] = false) : Mid p L (i + 1) (j + 1) (d.set i L[j]) := by
  have hl := h.len
  refine ⟨by rw [List.length_set]; exact hl, by omega, hj, ?_, ?_⟩
  · rw [List.take_succ_eq_append_getElem (by rw [List.length_set]; omega), List.take_set_of_le (Nat.le_refl _), List.getElem_set_self, h.pre, List.take_succ_eq_append_getElem hj]
    unfold notP
    rw [List.filter_append]
    simp [hp]
  · rw [List.drop_set_of_lt (by omega), ← List.drop_drop, h.post, List.drop_drop]
section
variable {T : TypeId} {B b n c : Nat} {w : World} {d : List Lt}
theorem own_parts (h : OwnG T 3 cL w B (.slice (some ⟨b, 0, none⟩) n c) d) : d.length ≤ c ∧ c ≤ maxLen ∧ n = d.length ∧ B ≤ b ∧ ∃ cur, Whole w b T cur ∧ cur.size = c * 3 ∧ cur.toList.take (d.length * 3) = d.flatMap cL := by
  rcases h.2 with ⟨hv, hn⟩ | ⟨b', cap, cur, hv, hb, hg, hc, hcm, hs, ht⟩
  · cases hv
  · injection hv with h1 h2 h3
    injection h1 with h1
    injection h1 with h1
    subst h1 h3
    exact ⟨hc, hcm, h2, hb, cur, hg, hs, ht⟩
theorem own_soft (h : OwnG T 3 cL w B (.slice (some ⟨b, 0, none⟩) n c) d) (o : Nat) : w.frozen? ⟨b, o, none⟩ = false := by
  obtain ⟨-, -, -, -, cur, hw, -⟩ := own_parts h
  exact hw.soft o
theorem own_set (h : OwnG T 3 cL w B (.slice (some ⟨b, 0, none⟩) n c) d) (i : Nat) (hi : i < d.length) (u : Lt) : OwnG T 3 cL (w.setCells b (i * 3) (cL u)) B (.slice (some ⟨b, 0, none⟩) n c) (d.set i u) := by
  obtain ⟨hc, hcm, rfl, hb, cur, hw, hs, ht⟩ := own_parts h
  obtain ⟨ds, h1, h2⟩ := whole_setCells (cL u) (i * 3) w cur hw (by rw [cellsL.len]; omega)
  have hds : ds.size = c * 3 := by
    have := congrArg List.length h2
    simp only [Array.length_toList, List.length_append, List.length_take, List.length_drop, cellsL.len, hs] at this
    omega
  refine ⟨flatG_len cellsL _, .inr ⟨b, c, ds, by rw [List.length_set], hb, h1, by rw [List.length_set]; exact hc, hcm, hds, ?_⟩⟩
  have e1 : d.set i u = d.take i ++ u :: d.drop (i + 1) := List.set_eq_take_append_cons_drop.trans (if_pos hi)
  rw [List.length_set, h2, e1, List.flatMap_append, List.flatMap_cons, flat_take cellsL, flat_drop cellsL, ← ht]
  have hcl : cur.toList.length = c * 3 := by rw [Array.length_toList, hs]
  rw [List.append_assoc, List.take_append, List.take_append, List.length_take, hcl, cellsL.len, List.take_take, List.take_take, List.drop_take]
  rw [Nat.min_eq_left (a := i * 3) (b := c * 3) (by omega), Nat.min_eq_right (a := d.length * 3) (b := i * 3) (by omega), Nat.min_eq_left (a := i * 3) (b := d.length * 3) (by omega)]
  rw [List.take_of_length_le (l := cL u) (by rw [cellsL.len]; omega), show i * 3 + 3 = (i + 1) * 3 by omega, show d.length * 3 - i * 3 - 3 = d.length * 3 - (i + 1) * 3 by omega]
theorem own_cut (h : OwnG T 3 cL w B (.slice (some ⟨b, 0, none⟩) n c) d) (i : Nat) (hi : i ≤ d.length) (vs : List Value) (hv : i * 3 + vs.length ≤ c * 3) : OwnG T 3 cL (w.setCells b (i * 3) vs) B (.slice (some ⟨b, 0, none⟩) i c) (d.take i) := by
  obtain ⟨hc, hcm, rfl, hb, cur, hw, hs, ht⟩ := own_parts h
  obtain ⟨ds, h1, h2⟩ := whole_setCells vs (i * 3) w cur hw (by rw [hs]; exact hv)
  have hds : ds.size = c * 3 := by
    have := congrArg List.length h2
    simp only [Array.length_toList, List.length_append, List.length_take, List.length_drop, hs] at this
    omega
  have hl : (d.take i).length = i := by rw [List.length_take]; omega
  refine ⟨flatG_len cellsL _, .inr ⟨b, c, ds, by rw [hl], hb, h1, by rw [hl]; omega, hcm, hds, ?_⟩⟩
  rw [hl, h2, List.append_assoc, List.take_append_of_le_length (by rw [List.length_take, Array.length_toList, hs]; omega), List.take_take, Nat.min_self, flat_take cellsL, ← ht, List.take_take, Nat.min_eq_left (by omega)]
end
section
variable {B : Nat} {w : World}
set_option maxRecDepth 100000 in
set_option maxHeartbeats 4000000 in
theorem deleteFunc_any {L : List Lt} {A : Option Addr} {c : Nat} {x y : Addr} {p : Lt → Bool} (h : OwnG 34 3 cL w B (.slice A L.length c) L) (hl : L.length ≤ 96) (HP : Gives w (Value.slice A L.length c).ownBlock (.pointer (some x)) (.pointer (some y)) p) : Calls Try.prog 57 #[.slice A L.length c, .func (.func 58) #[] #[.pointer (some x), .pointer (some y)]] w fun e w' => e = .returned (.slice A (notP p L).length c) ∧ OwnG 34 3 cL w' B (.slice A (notP p L).length c) (notP p L) ∧ w.grownBy w' (Value.slice A L.length c).ownBlock := by
  have HI := Lib.hid (index_any h hl HP)
  by_cases hk : L.findIdx p < L.length
  · obtain ⟨k, hkk⟩ : ∃ k, k = L.findIdx p := ⟨_, rfl⟩
    have hix : ixP p L = k := by unfold ixP; rw [if_pos hk, hkk]
    obtain ⟨hpk, hak⟩ := (List.findIdx_eq (by rw [hkk]; exact hk)).1 hkk.symm
    rw [← hkk] at hk
    have HM := Lib.hid (Mid.start hk hpk fun j _ hj => hak j hj)
    rw [hix] at HI
    obtain ⟨b, rfl⟩ : ∃ b, A = some ⟨b, 0, none⟩ := by
      obtain ⟨b, _, hA, -⟩ := row_cells h rfl k hk
      exact ⟨b, hA⟩
    obtain ⟨n, hn⟩ : ∃ n, n = L.length := ⟨_, rfl⟩
    have HN := Lib.hid hn
    have hcn : n ≤ c := by rw [hn]; exact h.room
    have HH := Lib.hid h
    have HPh := Lib.hid HP
    rw [← hn] at HI HH hl hk ⊢
    have hne1 : ((k : Int) == -1) = false := beq_eq_false_iff_ne.2 (by omega)
    change Calls _ _ _ _ fun e w' => e = .returned (.slice (some ⟨b, 0, none⟩) (notP p L).length c) ∧ OwnG 34 3 cL w' B (.slice (some ⟨b, 0, none⟩) (notP p L).length c) (notP p L) ∧ w.grownBy w' (some b)
    have HPb : Hid (Gives w (some b) (.pointer (some x)) (.pointer (some y)) p) := HPh
    clear h HP hix hkk hpk hak hn HPh
    go_enter Try.func57, Try.ntmps57
    go_wp2_with (go_at_call 67; (with_reducible refine HI.out.mono ?_); rintro e w1 ⟨rfl, b1⟩; have B1 := Lib.hid b1; clear b1)
    go_loopg [5, 6, 7] n (fun gg s5 s6 _ wr => ∃ (i j : Nat) (d : List Lt), s5 = .int .i64 i ∧ s6 = .int .i64 j ∧ i < j ∧ j ≤ n ∧ n - j ≤ gg ∧ Hid (Mid p L i j d) ∧ Hid (OwnG 34 3 cL wr B (.slice (some ⟨b, 0, none⟩) n c) d) ∧ Hid (w.grownBy wr (some b)))
    case atStart => exact ⟨k, k + 1, L, rfl, by go_num, by omega, by omega, by omega, HM.out, HH.out.below B1.out, only_of_below B1.out _⟩
    case round =>
      obtain ⟨i, j, d, rfl, rfl, hij, hjn, hgg, HMd, HOd, HGd⟩ := hrel
      have hdl : d.length = n := HMd.out.len.trans HN.out.symm
      by_cases hlt : j < n
      · have hltz : (j : Int) < (n : Int) := by omega
        obtain ⟨b', l, hA, hlj, z0, z1, z2⟩ := row_cells HOd.out hdl.symm j (by omega)
        obtain rfl : b = b' := by injection hA with hA; injection hA
        have hjL : j < L.length := by rw [← HN.out]; exact hlt
        have hlL : L[j] = l := by
          have e := congrArg (fun q => q[0]?) HMd.out.post
          simp only [List.getElem?_drop, Nat.add_zero] at e
          rw [hlj, List.getElem?_eq_getElem hjL] at e
          exact (Option.some.inj e).symm
        have HlL : Hid (∀ h : j < L.length, L[j] = l) := Lib.hid fun _ => hlL
        have HDL := Lib.hid hdl
        clear hA hlj hlL
        go_upto_region 8 with fail
        change Code.wp _ _ _ _ (wr.alloc (.cells (cL l).toArray 34))
        have R2 := Whole.fresh wr 34 (cL l).toArray
        have O2 := Lib.hid (HOd.out.below (fresh1 wr (.cells (cL l).toArray 34)))
        have G2 := Lib.hid (grown_own HGd.out (only_of_below (fresh1 wr (.cells (cL l).toArray 34)) none) (fun j e => by cases e))
        generalize wr.alloc (.cells (cL l).toArray 34) = w2 at R2 O2 G2 ⊢
        generalize wr.heap.size = gv at R2 ⊢
        have k0 : w2.cell? ⟨gv, 0, none⟩ = some (.int .i64 l.f) := R2.read 0
        have k1 : w2.cell? ⟨gv, 1, none⟩ = some (.int .i64 l.t) := R2.read 1
        have k2 : w2.cell? ⟨gv, 2, none⟩ = some (sV l.s) := R2.read 2
        have HK : Hid (∀ w3, Below w2.heap.size w2 w3 → (w3.cell? ⟨gv, 0, none⟩ = some (.int .i64 l.f) ∧ w3.cell? ⟨gv, 1, none⟩ = some (.int .i64 l.t) ∧ w3.cell? ⟨gv, 2, none⟩ = some (sV l.s)) ∧ (∃ q : Lt, w3.cell? ⟨b, i * 3, none⟩ = some (.int .i64 q.f) ∧ w3.cell? ⟨b, i * 3 + 1, none⟩ = some (.int .i64 q.t) ∧ w3.cell? ⟨b, i * 3 + 2, none⟩ = some (sV q.s)) ∧ w3.frozen? ⟨b, i * 3, none⟩ = false ∧ w3.frozen? ⟨b, i * 3 + 1, none⟩ = false ∧ w3.frozen? ⟨b, i * 3 + 2, none⟩ = false) := Lib.hid fun w3 b3 => by
          have R3 := R2.below b3 R2.inside
          have O3 := O2.out.below b3
          obtain ⟨b9, q, hA9, -, q0, q1, q2⟩ := row_cells O3 HDL.out.symm i (by rw [HDL.out]; omega)
          obtain rfl : b = b9 := by injection hA9 with hA9; injection hA9
          exact ⟨⟨R3.read 0, R3.read 1, R3.read 2⟩, ⟨q, q0, q1, q2⟩, own_soft O3 _, own_soft O3 _, own_soft O3 _⟩
        have HC := Lib.hid (HPb.out l w2 G2.out)
        have hin : i < n := by omega
        clear R2 z0 z1 z2 hdl hjL
        cases hq : p l with
        | false =>
          rw [hq] at HC
          go_wp2_with (go_at_call 58; (with_reducible refine HC.out.mono ?_); rintro e w3 ⟨rfl, b3⟩; have B3 := Lib.hid b3; obtain ⟨⟨x0, x1, x2⟩, ⟨q, y0, y1, y2⟩, f0, f1, f2⟩ := HK.out w3 b3; clear b3 k0 k1 k2)
          go_roundg (n - (j + 1))
          case measure => omega
          case rel =>
            refine ⟨i + 1, j + 1, d.set i l, by go_num, by go_num, by omega, by omega, Nat.le_refl _, ?_, ?_, ?_⟩
            · have := HMd.out.keep hij (by rw [← HN.out]; exact hlt) (by rw [HlL.out]; exact hq)
              rwa [HlL.out] at this
            · exact own_set (O2.out.below B3.out) i (by rw [HDL.out]; exact hin) l
            · exact grown_setCells (cL l) (i * 3) _ (grown_own G2.out (only_of_below B3.out none) (fun j e => by cases e))
        | true =>
          rw [hq] at HC
          go_wp2_with (go_at_call 58; (with_reducible refine HC.out.mono ?_); rintro e w3 ⟨rfl, b3⟩; have B3 := Lib.hid b3; clear b3 k0 k1 k2)
          go_roundg (n - (j + 1))
          case measure => omega
          case rel => exact ⟨i, j + 1, d, rfl, by go_num, by omega, by omega, Nat.le_refl _, HMd.out.skip (by rw [← HN.out]; exact hlt) (by rw [HlL.out]; exact hq), O2.out.below B3.out, grown_own G2.out (only_of_below B3.out none) (fun j e => by cases e)⟩
      · obtain rfl : j = n := by omega
        have hltz : ¬ (j : Int) < (j : Int) := by omega
        obtain ⟨-, -, -, -, cur, hwb, hcs, -⟩ := own_parts HOd.out
        have hcl : ∀ ty, (Builtin.clear_ #[92] ty #[.slice (some ⟨b, i * 3, none⟩) (j - i) (c - i)]).run Try.prog wr = .ok (.tuple #[]) (wr.setCells b (i * 3) ((List.replicate (j - i) noL).flatMap cL)) :=
          fun ty => run_clear_G cellsL (by decide) noL wr _ _ ty _ Try.underlying92 zeroP rfl b _ _ _ (by omega) (fun t ht2 => by rw [hwb.read, Array.getElem?_eq_getElem (by omega)]; rfl) (fun t ht2 => hwb.soft _)
        have hdi : d.take i = notP p L := by rw [HMd.out.pre, HN.out, List.take_length]
        have hil : (notP p L).length = i := by rw [← hdi, List.length_take, hdl]; omega
        have HF : Hid (OwnG 34 3 cL (wr.setCells b (i * 3) ((List.replicate (j - i) noL).flatMap cL)) B (.slice (some ⟨b, 0, none⟩) (notP p L).length c) (notP p L)) := Lib.hid (by
          rw [hil, ← hdi]
          exact own_cut HOd.out i (by omega) _ (by rw [flatG_len cellsL, List.length_replicate]; omega))
        have HGf : Hid (w.grownBy (wr.setCells b (i * 3) ((List.replicate (j - i) noL).flatMap cL)) (some b)) := Lib.hid (grown_setCells _ _ _ HGd.out)
        have HIL := Lib.hid hil
        have hic : i ≤ c := by omega
        have hci : ¬ c = i := by omega
        clear hwb hcs hdi hil hdl
        go_wp2_with fail
        go_ret
        exact ⟨by rw [HIL.out]; rfl, HF.out, HGf.out⟩
  · have hall : ∀ x ∈ L, p x = false := List.findIdx_eq_length.1 (by have := List.findIdx_le_length (p := p) (xs := L); omega)
    have hix : ixP p L = -1 := by unfold ixP; rw [if_neg hk]
    have hnp : notP p L = L := List.filter_eq_self.2 fun x hx => by rw [hall x hx]; rfl
    rw [hix] at HI
    rw [hnp]
    have HH := Lib.hid h
    clear h HP hk hall hix hnp
    go_enter Try.func57, Try.ntmps57
    go_wp2_with (go_at_call 67; (with_reducible refine HI.out.mono ?_); rintro e w1 ⟨rfl, b1⟩; have B1 := Lib.hid b1; clear b1)
    go_ret
    exact ⟨rfl, HH.out.below B1.out, only_of_below B1.out _⟩
end
end Go.Proofs.Ytbomlapmoiamgaa.wan
