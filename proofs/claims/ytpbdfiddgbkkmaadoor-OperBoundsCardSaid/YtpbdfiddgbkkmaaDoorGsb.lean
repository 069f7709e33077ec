/-
  Goes of the program; To and own of the laws: for seats without the document's Goes.
-/
import Derived.Test.YtpbdfiddgbkkmaaDoorFo
import Derived.Test.YtpbdfiddgbkkmaaDoorOn2
import Derived.Test.YtpbdfiddgbkkmaaDoorOow
namespace Go.Proofs.YtpbdfiddgbkkmaaDoor.oper
open Go.ChangeShapes Go.WideShapes Go.ChangeAt Go.RowKit
open Go.Proofs.YtpbdfiddgbkkmaaDoor.tm Go.Proofs.YtpbdfiddgbkkmaaDoor.opened Go.Proofs.YtpbdfiddgbkkmaaDoor.block Go.Proofs.YtpbdfiddgbkkmaaDoor.region Go.Proofs.YtpbdfiddgbkkmaaDoor.data

def goV (k a b : Int) (L : List Rc) : List Rc := if keepsB k then foldV k L else eachV k a b L
theorem goV_len (k a b : Int) (L : List Rc) : (goV k a b L).length ≤ L.length := by
  unfold goV
  split
  · exact fold_len _ _
  · exact eachV_len _ _ _ _
theorem to_any (o : Od) (w : World) : Calls Tryd.prog 8 #[.agg (odV o)] w fun e w' => e = .returned (.agg (odV o)) ∧ Below w.heap.size w w' := by
  have W1 := Whole.fresh w 23 (odV o)
  have B1 := Lib.hid ((fresh0 w (.cells (odV o) 23)).trans ((fresh0 (w.alloc (.cells (odV o) 23)) (.cells (odV o) 27)).mono (fresh0 w (.cells (odV o) 23)).size))
  clear W1
  go_enter Tryd.func8, Tryd.ntmps8
  go_wp2_with fail
  exact bodyPost_ret (v := .agg (odV o)) (by simp [results, Tryd.results8, go_sem]) rfl ⟨rfl, B1.out⟩
set_option maxRecDepth 100000 in
set_option maxHeartbeats 2000000 in
theorem goes_any (o : Od) (io : o.In) (A : Option Addr) (c : Nat) (L : List Rc) (iL : InR L) (mL : L.length ≤ 4096) (w : World) (hL : Lr w A L) :
    Calls Tryd.prog 11 #[.agg (odV o), .slice A L.length c] w fun e W' => ∃ B c', e = .returned (.slice B (goV o.k o.x o.y L).length c') ∧ Lr W' B (goV o.k o.x o.y L) ∧ Below w.heap.size w W' := by
  have W1 := Whole.fresh w 27 (odV o)
  have b1 := fresh0 w (.cells (odV o) 27)
  have KP := Lib.hid (fun w0 => keeps_any o.k w0)
  have EC := Lib.hid (each_any o io A c L iL mL _ (hL.below b1))
  have FC := Lib.hid (fold_any o.k A c L iL mL _ (hL.below b1))
  have B1 := Lib.hid b1
  clear W1 b1 hL iL mL
  unfold goV
  cases hk : keepsB o.k with
  | false =>
    rw [hk] at KP FC
    simp only [Bool.false_eq_true, if_false] at FC ⊢
    clear FC hk
    generalize eachV o.k o.x o.y L = M at EC ⊢
    go_enter Tryd.func11, Tryd.ntmps11
    go_wp2_with (first | (go_at_call 7; refine EC.out.mono ?_; rintro e w3 ⟨B, c', rfl, ho, b3⟩; have HO := Lib.hid (ho.lg cellsR); have B3 := Lib.hid (B1.out.trans (b3.mono B1.out.size)); clear ho b3) | (go_at_call 13; refine (KP.out _).mono ?_; rintro e w2 ⟨rfl, rfl⟩))
    go_ret
    exact ⟨B, c', rfl, HO.out, B3.out⟩
  | true =>
    rw [hk] at KP FC
    simp only [if_true] at FC ⊢
    clear EC hk
    generalize foldV o.k L = M at FC ⊢
    go_enter Tryd.func11, Tryd.ntmps11
    go_wp2_with (first | (go_at_call 15; refine FC.out.mono ?_; rintro e w3 ⟨B, c', rfl, ho, b3⟩; have HO := Lib.hid ho; have B3 := Lib.hid (B1.out.trans (b3.mono B1.out.size)); clear ho b3) | (go_at_call 13; refine (KP.out _).mono ?_; rintro e w2 ⟨rfl, rfl⟩))
    go_ret
    exact ⟨B, c', rfl, HO.out, B3.out⟩
def RowP (N : List Rc) : Value → World → Prop := fun u w => ∃ B c, u = .slice B N.length c ∧ Lr w B N
def OwnP (base : Nat) (N : List Rc) : Value → World → Prop := fun u w => ∃ B c, u = .slice B N.length c ∧ OwnR w base (.slice B N.length c) N
theorem keeps_ownP (base : Nat) (N : List Rc) : Keeps (OwnP base N) := fun _ _ _ hb ⟨B, c, h1, h2⟩ => ⟨B, c, h1, h2.below hb⟩
theorem keeps_rowP (N : List Rc) : Keeps (RowP N) := fun _ _ _ hb ⟨B, c, h1, h2⟩ => ⟨B, c, h1, h2.below hb⟩
theorem own_lr (A : Option Addr) (c : Nat) (L : List Rc) (mL : L.length ≤ 4096) (w : World) (hL : Lr w A L) :
    Calls Tryd.prog 9 #[.slice A L.length c] w fun e W' => ∃ B c', e = .returned (.slice B L.length c') ∧ Lr W' B L ∧ Below w.heap.size w W' := (own_any A c L mL w hL).mono fun _ _ ⟨B, c', he, ho, hb⟩ => ⟨B, c', he, ho.lg cellsR, hb⟩
theorem each_lr (o : Od) (io : o.In) (A : Option Addr) (c : Nat) (L : List Rc) (iL : InR L) (mL : L.length ≤ 4096) (w : World) (hL : Lr w A L) :
    Calls Tryd.prog 7 #[.agg (odV o), .slice A L.length c] w fun e W' => ∃ B c', e = .returned (.slice B (eachV o.k o.x o.y L).length c') ∧ Lr W' B (eachV o.k o.x o.y L) ∧ Below w.heap.size w W' := (each_any o io A c L iL mL w hL).mono fun _ _ ⟨B, c', he, ho, hb⟩ => ⟨B, c', he, ho.lg cellsR, hb⟩
theorem goV_in {k a b : Int} {L : List Rc} (hl : L.length ≤ 1000000) (ha : a ≤ 9223372036854775807) (h : InR L) : InR (goV k a b L) := by
  unfold goV
  split
  · exact fold_in hl h
  · exact eachV_in ha h
theorem goV_srt {k a b : Int} {L M : List Rc} (h : L.Perm M) : srtR (goV k a b L) = srtR (goV k a b M) := by
  unfold goV
  split
  · rw [fold_perm h]
  · exact srt_congr (eachV_perm h)
theorem vals_part {q : Int} {p : Int → Nat} {L : List Rc} : vals q (L.filter fun r => p r.k == p q) = vals q L := by
  unfold vals
  rw [List.filter_filter]
  congr 1
  refine List.filter_congr fun r _ => ?_
  by_cases e : r.k = q
  · simp [e]
  · simp [e]
/-- What is kept by parts of keys comes to the same. -/
theorem parts_perm {k : Int} {p : Int → Nat} {n : Nat} {L : List Rc} (hp : ∀ r ∈ L, p r.k < n) : ((spr (fun r => p r.k) n L).flatMap (foldV k)).Perm (foldV k L) := by
  have hmem : ∀ {P : List Rc}, P ∈ spr (fun r => p r.k) n L → ∃ i, i < n ∧ P = L.filter fun r => p r.k == i := by
    intro P hP
    unfold spr at hP
    obtain ⟨i, hi, rfl⟩ := List.mem_map.1 hP
    exact ⟨i, List.mem_range.1 hi, rfl⟩
  have hin : ∀ {i : Nat} {r : Rc}, r ∈ foldV k (L.filter fun r => p r.k == i) → p r.k = i ∧ r.v = totV k (vals r.k L) ∧ ∃ x ∈ L, x.k = r.k := by
    intro i r hr
    obtain ⟨h1, x, hx, e⟩ := (isF_fold k _).tot r hr
    obtain ⟨hx1, hx2⟩ := List.mem_filter.1 hx
    have hpi : p r.k = i := by rw [← e]; simpa using hx2
    refine ⟨hpi, ?_, x, hx1, e⟩
    rw [h1, ← hpi, vals_part]
  refine isF_eq ⟨fun r hr => ?_, fun x hx => ?_⟩ ?_ (List.Perm.refl _)
  · obtain ⟨P, hP, hr⟩ := List.mem_flatMap.1 hr
    obtain ⟨i, -, rfl⟩ := hmem hP
    exact (hin hr).2
  · have hx2 : x ∈ L.filter fun r => p r.k == p x.k := List.mem_filter.2 ⟨hx, by simp⟩
    obtain ⟨r, hr, e⟩ := (isF_fold k _).all x hx2
    refine ⟨r, List.mem_flatMap.2 ⟨_, ?_, hr⟩, e⟩
    unfold spr
    exact List.mem_map.2 ⟨p x.k, List.mem_range.2 (hp x hx), rfl⟩
  · unfold spr
    rw [Sole, List.pairwise_flatMap]
    refine ⟨fun P hP => ?_, ?_⟩
    · exact rise_sole (fold_rise k P)
    · rw [List.pairwise_map]
      refine (List.pairwise_lt_range (n := n)).imp fun {i j} hij x hx y hy e => ?_
      have h1 := (hin hx).1
      have h2 := (hin hy).1
      rw [e] at h1
      omega
end Go.Proofs.YtpbdfiddgbkkmaaDoor.oper
