/-
  What Make answers does not hang on the order of its times; the frontier of a Multi is that of its times in order.
-/
import Derived.Test.YtpjlefdigpejdaaGmb
import Derived.Test.YtpjlefdigpejdaaGfr
namespace Go.Proofs.Ytpjlefdigpejdaa.multi
open Go.ChangeShapes Go.WideShapes Go.ChangeAt Go.RowKit Go.Maps Go.WideMaps
open Go.Proofs.Ytpjlefdigpejdaa.tm Go.Proofs.Ytpjlefdigpejdaa.opened Go.Proofs.Ytpjlefdigpejdaa.block Go.Proofs.Ytpjlefdigpejdaa.stamp Go.Proofs.Ytpjlefdigpejdaa.chain

theorem srt_perm (L : List Tm) (h : InL L) : (srtL L h).Perm L := by
  have e := (List.mergeSort_perm (tis L h) (fun x y : TI => !ltOf cfT y x)).map (·.1)
  rw [tis_val] at e
  exact e
theorem sorted_one : ∀ {K L : List Tm}, K.Perm L → InL K → K.Pairwise (fun x y => numT x ≤ numT y) → L.Pairwise (fun x y => numT x ≤ numT y) → K = L
  | [], _, hp, _, _, _ => hp.nil_eq
  | a :: r, [], hp, _, _, _ => absurd hp.symm.nil_eq (by simp)
  | a :: r, b :: s, hp, hi, h1, h2 => by
    obtain ⟨a1, a2⟩ := List.pairwise_cons.1 h1
    obtain ⟨b1, b2⟩ := List.pairwise_cons.1 h2
    have iL : InL (b :: s) := fun t ht => hi t (hp.mem_iff.2 ht)
    have e1 : numT a ≤ numT b := by
      rcases List.mem_cons.1 (hp.mem_iff.2 (List.mem_cons_self (a := b) (l := s))) with e | e
      · rw [e]; exact Int.le_refl _
      · exact a1 b e
    have e2 : numT b ≤ numT a := by
      rcases List.mem_cons.1 (hp.mem_iff.1 (List.mem_cons_self (a := a) (l := r))) with e | e
      · rw [e]; exact Int.le_refl _
      · exact b1 a e
    have e : a = b := num_eq (hi a (List.mem_cons_self ..)) (iL b (List.mem_cons_self ..)) (by omega)
    subst e
    rw [sorted_one (List.Perm.cons_inv hp) (fun t ht => hi t (List.mem_cons_of_mem _ ht)) a2 b2]
theorem srt_same {K L : List Tm} (hp : K.Perm L) (iK : InL K) (iL : InL L) : srtL K iK = srtL L iL :=
  sorted_one ((srt_perm K iK).trans (hp.trans (srt_perm L iL).symm)) (in_srt K iK) (srt_sorted K iK) (srt_sorted L iL)
theorem make_same {K L : List Tm} (hp : K.Perm L) (iK : InL K) (iL : InL L) (hK : timesE K = 0) (hL : timesE L = 0) : makeE K iK = makeE L iL ∧ makeV K iK = makeV L iL := by
  have e : makeS K iK = makeS L iL := by unfold makeS; rw [srt_same hp iK iL]
  have e2 : makeE K iK = makeE L iL := by unfold makeE; rw [hp.length_eq, hK, hL, e]
  exact ⟨e2, by unfold makeV; rw [e2, e]⟩
theorem present_in {d : Int} {M : List TN} (G : GoodM d M) : ∀ t ∈ present M, t.In ∧ chk t = 0 ∧ t.d = d := by
  intro t ht
  obtain ⟨p, hp, rfl⟩ := List.mem_map.1 ht
  exact G.key p (List.mem_filter.1 hp).1
theorem times_all {d : Int} {L : List Tm} (h : ∀ t ∈ L, t.In ∧ chk t = 0 ∧ t.d = d) : timesE L = 0 := by
  refine times_ok (fun y hy => (h y hy).2.1) (fun y hy => ?_)
  rw [(h y hy).2.2]
  cases L with
  | nil => simp at hy
  | cons x r => exact ((h x (List.mem_cons_self ..)).2.2).symm
theorem inP {d : Int} {M : List TN} (G : GoodM d M) : InL (present M) := fun t ht => (present_in G t ht).1
/-- Frontier, with its answer as Make's of the times in order. -/
theorem frontier_chain {g b c : Nat} {d : Int} {A : Option Addr} {L : List Tm} {M : List TN} (G : GoodM d M) (hm : M.length ≤ 4096) (w : World) (h : MulP w g d b A c L M) :
    Calls Try.prog 36 #[.pointer (some ⟨g, 0, none⟩)] w fun e w' => ∃ (B : Option Addr) (c' : Nat), e = .returned (.tuple #[.slice B (makeV (present M) (inP G)).length c', .int .i64 (makeE (present M) (inP G))]) ∧ Lt w' B (makeV (present M) (inP G)) ∧ Below w.heap.size w w' := by
  refine (frontier_any G hm w h).mono ?_
  rintro e w' ⟨K, iK, B, c', hp, rfl, hL, hb⟩
  obtain ⟨e1, e2⟩ := make_same hp iK (inP G) (times_all (d := d) fun t ht => present_in G t (hp.mem_iff.1 ht)) (times_all (present_in G))
  rw [e1, e2]
  exact ⟨B, c', rfl, e2 ▸ hL, hb⟩
end Go.Proofs.Ytpjlefdigpejdaa.multi
