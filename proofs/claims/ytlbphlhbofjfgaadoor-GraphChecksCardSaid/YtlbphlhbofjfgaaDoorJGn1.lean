/-
  The names of a graph's parts, as the program reads them: checkName at its three types (by gen_gn.py).
-/
import Derived.Test.YtlbphlhbofjfgaaDoorJGc
import Derived.Test.YtlbphlhbofjfgaaDoorJLayG
import Derived.Test.YtlbphlhbofjfgaaDoorJWw
import Derived.Handy
import Derived.BigQuiet
namespace Go.Proofs.YtlbphlhbofjfgaaDoor.graph
open Go.ChangeShapes Go.WideShapes Go.ChangeAt Go.RowKit Go.Shelf
open Go.Proofs.YtlbphlhbofjfgaaDoor.opened Go.Proofs.YtlbphlhbofjfgaaDoor.block Go.Proofs.YtlbphlhbofjfgaaDoor.words
instance : Inhabited Cl := ⟨⟨[], 0⟩⟩
instance : Inhabited Lo := ⟨⟨[], 0, 0⟩⟩
instance : Inhabited Oq := ⟨⟨[], 0, 0, 0, 0, 0⟩⟩
theorem name_cl (x : Cl) (w : World) : Calls Tryd.prog 122 #[.agg #[sV x.n, .int .i64 x.w]] w fun e w' => e = .returned (sV x.n) ∧ Below w.heap.size w w' := by
  go_enter Tryd.func122, Tryd.ntmps122
  go_wp2
  go_ret
  exact ⟨rfl, fresh1 _ _⟩
set_option maxRecDepth 100000 in
theorem near_cl (n : Bs) (g : Nat) (w : World) (h : Whole w g 9 #[sV n]) : PredBelow Tryd.prog 80 #[.pointer (some ⟨g, 0, none⟩)] (fun x : Cl => .agg (cCl x).toArray) (fun x => x.n == n) w := fun W x hb => by
  have O := h.below hb h.inside
  have NM := Lib.hid (name_cl x)
  show Calls Tryd.prog 80 #[.agg #[sV x.n, .int .i64 x.w], .pointer (some ⟨g, 0, none⟩)] W _
  have c0 : W.cell? ⟨g, 0, none⟩ = some (sV n) := O.read 0
  have hg := O.inside
  have hB := hb.alloc hb.size (.cells #[sV x.n, .int .i64 x.w] 72)
  have hz := fresh1 W (.cells #[sV x.n, .int .i64 x.w] 72)
  have OX := Lib.hid (Whole.fresh W 72 #[sV x.n, .int .i64 x.w])
  replace c0 : (W.alloc (.cells #[sV x.n, .int .i64 x.w] 72)).cell? ⟨g, 0, none⟩ = some (sV n) := (hz.cell (p := ⟨g, 0, none⟩) hg).trans c0
  clear hb h O
  go_enter Tryd.func80, Tryd.ntmps80
  go_upto_region 1 with fail
  change Code.wp _ _ _ _ (W.alloc (.cells #[sV x.n, .int .i64 x.w] 72))
  generalize W.alloc (.cells #[sV x.n, .int .i64 x.w] 72) = W1 at OX c0 hB hz ⊢
  have s0 : ∀ (y : Since W1) (i : Nat), y.1.cell? ⟨W.heap.size, i, none⟩ = #[sV x.n, .int .i64 x.w][i]? := fun y i => (OX.out.below y.2 OX.out.inside).read i
  have s1 : ∀ y : Since W1, y.1.cell? ⟨g, 0, none⟩ = some (sV n) := fun y => (y.2.cell (p := ⟨g, 0, none⟩) (Nat.lt_of_lt_of_le hg hz.size)).trans c0
  generalize W.heap.size = m at s0 OX hz ⊢
  clear OX hz
  have MT : ∀ w : World, (method 268 72 (.agg #[sV x.n, .int .i64 x.w]) "watershed/graph.name").run Tryd.prog w = .ok (122, .agg #[sV x.n, .int .i64 x.w]) w := fun _ => by kernel_rfl
  refine region_since W1 (by kernel_rfl) (by kernel_rfl) (Below.refl _ _) ?_
  repeat (go_big_quiet_step ((go_at_call 122; with_reducible exact since_call NM.out _)))
  refine wpQuiet_nil ?_
  rintro w4 ⟨y, rfl⟩
  have hy := hB.trans (y.2.mono hB.size)
  clear s0 s1 NM MT c0
  go_wp2_with fail
  go_ret
  exact ⟨rfl, hy⟩
theorem cells_cl {w : World} {A : Option Addr} {M : List Cl} {b off : Nat} (h : Lg 2 cCl w A M) (hA : A = some ⟨b, off, none⟩) : ∀ j, j < M.length → ∀ i v, (cCl M[j]!)[i]? = some v → w.cell? ⟨b, off + j * 2 + i, none⟩ = some v := by
  intro j hj i v hi
  have hx : M[j]? = some M[j]! := by rw [List.getElem?_eq_getElem hj, getElem!_pos M j hj]
  obtain ⟨b1, o1, hA1, hb1, hc⟩ := h.cells hx
  rw [hA] at hA1
  injection (Option.some.inj hA1) with h1 h2
  subst h1 h2
  have hi3 : i < 2 := by
    have := (List.getElem?_eq_some_iff.1 hi).1
    simpa [cCl] using this
  rw [← hi, ← hc i hi3, Nat.add_assoc]
theorem any_cl (M : List Cl) (n : Bs) : M.any (fun y => y.n == n) = decide (n ∈ M.map (·.n)) := by
  rw [Bool.eq_iff_iff]
  simp
set_option maxRecDepth 100000 in
theorem nm_cl (A : Option Addr) (c : Nat) (M : List Cl) (k : Nat) (x : Cl) (hx : M[k]? = some x) (h5 : M.length ≤ 100000) (hc : M.length ≤ c) (hn : x.n.length ≤ 100000) (w : World) (h : Lg 2 cCl w A M) :
    Calls Tryd.prog 62 #[.slice A M.length c, .int .i64 k] w fun e w' => e = .returned (.int .i64 (nameE ((M.take k).map (·.n)) x.n)) ∧ Below w.heap.size w w' := by
  obtain ⟨b1, o1, hA, hb1, c0, c1⟩ := at_cl h hx
  subst hA
  have hk := (List.getElem?_eq_some_iff.1 hx).1
  have NM := Lib.hid (name_cl x)
  have WN := name_any x.n hn
  have H := Lib.hid h
  obtain ⟨E, hE⟩ : ∃ E, nameE ((M.take k).map (·.n)) x.n = E := ⟨_, rfl⟩
  rw [hE]
  replace hE := Lib.hid hE
  clear h hx
  go_enter Tryd.func62, Tryd.ntmps62
  go_upto_region 2 with (go_at_call 122; refine (NM.out _).mono ?_; rintro e w1 ⟨rfl, b1'⟩)
  change Code.wp _ _ _ _ (w1.alloc (.cells #[sV x.n] 9))
  have OX := Lib.hid (Whole.fresh w1 9 #[sV x.n])
  have B2 := Lib.hid (b1'.trans ((fresh1 w1 (.cells #[sV x.n] 9)).mono b1'.size))
  clear b1' NM c0 c1
  generalize w1.alloc (.cells #[sV x.n] 9) = w2 at OX B2 ⊢
  generalize w1.heap.size = r at OX ⊢
  have e0 : w2.cell? ⟨r, 0, none⟩ = some (sV x.n) := OX.out.read 0
  cases hnb : nameB x.n
  · obtain rfl : 6 = E := by rw [← hE.out]; unfold nameE; rw [if_pos hnb]
    rw [hnb] at WN
    replace WN := Lib.hid WN
    go_wp2_with (go_at_call 78; refine (WN.out _).mono ?_; rintro e w3 ⟨rfl, b3⟩)
    go_ret
    exact ⟨rfl, B2.out.trans (b3.mono B2.out.size)⟩
  · rw [hnb] at WN
    replace WN := Lib.hid WN
    go_upto_region 4 with (go_at_call 78; refine (WN.out _).mono ?_; rintro e w3 ⟨rfl, b3⟩)
    have O3 := OX.out.below b3 OX.out.inside
    have B3 := B2.out.trans (b3.mono B2.out.size)
    have H3 := H.out.below B3
    have eg : ∀ args w, (callFunc 80 args).run Tryd.prog w = .ok (.enter 80 args) w := enters_of Tryd.func80 (by kernel_rfl) rfl
    have hcon := AnyQ.slices_ContainsFunc Tryd.lHc 2 Tryd.isAgg72 Tryd.sizeOf72 cCl (fun _ => rfl) (fun y => y.n == x.n) 80 #[.pointer (some ⟨r, 0, none⟩)] eg b1 o1 k c M w3
      (near_cl x.n r w3 O3) (by omega) (by omega) (Nat.lt_of_lt_of_le hb1 B3.size) (cells_cl H3 rfl)
    change Calls Tryd.prog 79 _ _ _ at hcon
    rw [any_cl] at hcon
    clear eg H3 H O3 OX B2 b3
    by_cases hm : x.n ∈ (M.take k).map (·.n)
    · obtain rfl : 4 = E := by rw [← hE.out]; unfold nameE; rw [if_neg (by rw [hnb]; simp), if_pos hm]
      rw [decide_eq_true hm] at hcon
      clear hm
      go_wp2_with (go_at_call 79; refine hcon.mono ?_; rintro e w' ⟨rfl, hb'⟩)
      go_ret
      exact ⟨rfl, B3.trans (hb'.mono B3.size)⟩
    · obtain rfl : 0 = E := by rw [← hE.out]; unfold nameE; rw [if_neg (by rw [hnb]; simp), if_neg hm]
      rw [decide_eq_false hm] at hcon
      clear hm
      go_wp2_with (go_at_call 79; refine hcon.mono ?_; rintro e w' ⟨rfl, hb'⟩)
      go_ret
      exact ⟨rfl, B3.trans (hb'.mono B3.size)⟩
theorem name_lo (x : Lo) (w : World) : Calls Tryd.prog 123 #[.agg #[sV x.n, .int .i64 x.u, .int .i64 x.r]] w fun e w' => e = .returned (sV x.n) ∧ Below w.heap.size w w' := by
  go_enter Tryd.func123, Tryd.ntmps123
  go_wp2
  go_ret
  exact ⟨rfl, fresh1 _ _⟩
set_option maxRecDepth 100000 in
theorem near_lo (n : Bs) (g : Nat) (w : World) (h : Whole w g 9 #[sV n]) : PredBelow Tryd.prog 82 #[.pointer (some ⟨g, 0, none⟩)] (fun x : Lo => .agg (cLo x).toArray) (fun x => x.n == n) w := fun W x hb => by
  have O := h.below hb h.inside
  have NM := Lib.hid (name_lo x)
  show Calls Tryd.prog 82 #[.agg #[sV x.n, .int .i64 x.u, .int .i64 x.r], .pointer (some ⟨g, 0, none⟩)] W _
  have c0 : W.cell? ⟨g, 0, none⟩ = some (sV n) := O.read 0
  have hg := O.inside
  have hB := hb.alloc hb.size (.cells #[sV x.n, .int .i64 x.u, .int .i64 x.r] 73)
  have hz := fresh1 W (.cells #[sV x.n, .int .i64 x.u, .int .i64 x.r] 73)
  have OX := Lib.hid (Whole.fresh W 73 #[sV x.n, .int .i64 x.u, .int .i64 x.r])
  replace c0 : (W.alloc (.cells #[sV x.n, .int .i64 x.u, .int .i64 x.r] 73)).cell? ⟨g, 0, none⟩ = some (sV n) := (hz.cell (p := ⟨g, 0, none⟩) hg).trans c0
  clear hb h O
  go_enter Tryd.func82, Tryd.ntmps82
  go_upto_region 1 with fail
  change Code.wp _ _ _ _ (W.alloc (.cells #[sV x.n, .int .i64 x.u, .int .i64 x.r] 73))
  generalize W.alloc (.cells #[sV x.n, .int .i64 x.u, .int .i64 x.r] 73) = W1 at OX c0 hB hz ⊢
  have s0 : ∀ (y : Since W1) (i : Nat), y.1.cell? ⟨W.heap.size, i, none⟩ = #[sV x.n, .int .i64 x.u, .int .i64 x.r][i]? := fun y i => (OX.out.below y.2 OX.out.inside).read i
  have s1 : ∀ y : Since W1, y.1.cell? ⟨g, 0, none⟩ = some (sV n) := fun y => (y.2.cell (p := ⟨g, 0, none⟩) (Nat.lt_of_lt_of_le hg hz.size)).trans c0
  generalize W.heap.size = m at s0 OX hz ⊢
  clear OX hz
  have MT : ∀ w : World, (method 268 73 (.agg #[sV x.n, .int .i64 x.u, .int .i64 x.r]) "watershed/graph.name").run Tryd.prog w = .ok (123, .agg #[sV x.n, .int .i64 x.u, .int .i64 x.r]) w := fun _ => by kernel_rfl
  refine region_since W1 (by kernel_rfl) (by kernel_rfl) (Below.refl _ _) ?_
  repeat (go_big_quiet_step ((go_at_call 123; with_reducible exact since_call NM.out _)))
  refine wpQuiet_nil ?_
  rintro w4 ⟨y, rfl⟩
  have hy := hB.trans (y.2.mono hB.size)
  clear s0 s1 NM MT c0
  go_wp2_with fail
  go_ret
  exact ⟨rfl, hy⟩
theorem cells_lo {w : World} {A : Option Addr} {M : List Lo} {b off : Nat} (h : Lg 3 cLo w A M) (hA : A = some ⟨b, off, none⟩) : ∀ j, j < M.length → ∀ i v, (cLo M[j]!)[i]? = some v → w.cell? ⟨b, off + j * 3 + i, none⟩ = some v := by
  intro j hj i v hi
  have hx : M[j]? = some M[j]! := by rw [List.getElem?_eq_getElem hj, getElem!_pos M j hj]
  obtain ⟨b1, o1, hA1, hb1, hc⟩ := h.cells hx
  rw [hA] at hA1
  injection (Option.some.inj hA1) with h1 h2
  subst h1 h2
  have hi3 : i < 3 := by
    have := (List.getElem?_eq_some_iff.1 hi).1
    simpa [cLo] using this
  rw [← hi, ← hc i hi3, Nat.add_assoc]
theorem any_lo (M : List Lo) (n : Bs) : M.any (fun y => y.n == n) = decide (n ∈ M.map (·.n)) := by
  rw [Bool.eq_iff_iff]
  simp
set_option maxRecDepth 100000 in
theorem nm_lo (A : Option Addr) (c : Nat) (M : List Lo) (k : Nat) (x : Lo) (hx : M[k]? = some x) (h5 : M.length ≤ 100000) (hc : M.length ≤ c) (hn : x.n.length ≤ 100000) (w : World) (h : Lg 3 cLo w A M) :
    Calls Tryd.prog 63 #[.slice A M.length c, .int .i64 k] w fun e w' => e = .returned (.int .i64 (nameE ((M.take k).map (·.n)) x.n)) ∧ Below w.heap.size w w' := by
  obtain ⟨b1, o1, hA, hb1, c0, c1, c2⟩ := at_lo h hx
  subst hA
  have hk := (List.getElem?_eq_some_iff.1 hx).1
  have NM := Lib.hid (name_lo x)
  have WN := name_any x.n hn
  have H := Lib.hid h
  obtain ⟨E, hE⟩ : ∃ E, nameE ((M.take k).map (·.n)) x.n = E := ⟨_, rfl⟩
  rw [hE]
  replace hE := Lib.hid hE
  clear h hx
  go_enter Tryd.func63, Tryd.ntmps63
  go_upto_region 2 with (go_at_call 123; refine (NM.out _).mono ?_; rintro e w1 ⟨rfl, b1'⟩)
  change Code.wp _ _ _ _ (w1.alloc (.cells #[sV x.n] 9))
  have OX := Lib.hid (Whole.fresh w1 9 #[sV x.n])
  have B2 := Lib.hid (b1'.trans ((fresh1 w1 (.cells #[sV x.n] 9)).mono b1'.size))
  clear b1' NM c0 c1 c2
  generalize w1.alloc (.cells #[sV x.n] 9) = w2 at OX B2 ⊢
  generalize w1.heap.size = r at OX ⊢
  have e0 : w2.cell? ⟨r, 0, none⟩ = some (sV x.n) := OX.out.read 0
  cases hnb : nameB x.n
  · obtain rfl : 6 = E := by rw [← hE.out]; unfold nameE; rw [if_pos hnb]
    rw [hnb] at WN
    replace WN := Lib.hid WN
    go_wp2_with (go_at_call 78; refine (WN.out _).mono ?_; rintro e w3 ⟨rfl, b3⟩)
    go_ret
    exact ⟨rfl, B2.out.trans (b3.mono B2.out.size)⟩
  · rw [hnb] at WN
    replace WN := Lib.hid WN
    go_upto_region 4 with (go_at_call 78; refine (WN.out _).mono ?_; rintro e w3 ⟨rfl, b3⟩)
    have O3 := OX.out.below b3 OX.out.inside
    have B3 := B2.out.trans (b3.mono B2.out.size)
    have H3 := H.out.below B3
    have eg : ∀ args w, (callFunc 82 args).run Tryd.prog w = .ok (.enter 82 args) w := enters_of Tryd.func82 (by kernel_rfl) rfl
    have hcon := AnyQ.slices_ContainsFunc Tryd.lHl 3 Tryd.isAgg73 Tryd.sizeOf73 cLo (fun _ => rfl) (fun y => y.n == x.n) 82 #[.pointer (some ⟨r, 0, none⟩)] eg b1 o1 k c M w3
      (near_lo x.n r w3 O3) (by omega) (by omega) (Nat.lt_of_lt_of_le hb1 B3.size) (cells_lo H3 rfl)
    change Calls Tryd.prog 81 _ _ _ at hcon
    rw [any_lo] at hcon
    clear eg H3 H O3 OX B2 b3
    by_cases hm : x.n ∈ (M.take k).map (·.n)
    · obtain rfl : 4 = E := by rw [← hE.out]; unfold nameE; rw [if_neg (by rw [hnb]; simp), if_pos hm]
      rw [decide_eq_true hm] at hcon
      clear hm
      go_wp2_with (go_at_call 81; refine hcon.mono ?_; rintro e w' ⟨rfl, hb'⟩)
      go_ret
      exact ⟨rfl, B3.trans (hb'.mono B3.size)⟩
    · obtain rfl : 0 = E := by rw [← hE.out]; unfold nameE; rw [if_neg (by rw [hnb]; simp), if_neg hm]
      rw [decide_eq_false hm] at hcon
      clear hm
      go_wp2_with (go_at_call 81; refine hcon.mono ?_; rintro e w' ⟨rfl, hb'⟩)
      go_ret
      exact ⟨rfl, B3.trans (hb'.mono B3.size)⟩
theorem name_oq (x : Oq) (w : World) : Calls Tryd.prog 124 #[.agg #[sV x.n, .int .i64 x.k, .int .i64 x.l, .int .i64 x.a, .int .i64 x.x, .int .i64 x.y]] w fun e w' => e = .returned (sV x.n) ∧ Below w.heap.size w w' := by
  go_enter Tryd.func124, Tryd.ntmps124
  go_wp2
  go_ret
  exact ⟨rfl, fresh1 _ _⟩
set_option maxRecDepth 100000 in
theorem near_oq (n : Bs) (g : Nat) (w : World) (h : Whole w g 9 #[sV n]) : PredBelow Tryd.prog 84 #[.pointer (some ⟨g, 0, none⟩)] (fun x : Oq => .agg (cOq x).toArray) (fun x => x.n == n) w := fun W x hb => by
  have O := h.below hb h.inside
  have NM := Lib.hid (name_oq x)
  show Calls Tryd.prog 84 #[.agg #[sV x.n, .int .i64 x.k, .int .i64 x.l, .int .i64 x.a, .int .i64 x.x, .int .i64 x.y], .pointer (some ⟨g, 0, none⟩)] W _
  have c0 : W.cell? ⟨g, 0, none⟩ = some (sV n) := O.read 0
  have hg := O.inside
  have hB := hb.alloc hb.size (.cells #[sV x.n, .int .i64 x.k, .int .i64 x.l, .int .i64 x.a, .int .i64 x.x, .int .i64 x.y] 74)
  have hz := fresh1 W (.cells #[sV x.n, .int .i64 x.k, .int .i64 x.l, .int .i64 x.a, .int .i64 x.x, .int .i64 x.y] 74)
  have OX := Lib.hid (Whole.fresh W 74 #[sV x.n, .int .i64 x.k, .int .i64 x.l, .int .i64 x.a, .int .i64 x.x, .int .i64 x.y])
  replace c0 : (W.alloc (.cells #[sV x.n, .int .i64 x.k, .int .i64 x.l, .int .i64 x.a, .int .i64 x.x, .int .i64 x.y] 74)).cell? ⟨g, 0, none⟩ = some (sV n) := (hz.cell (p := ⟨g, 0, none⟩) hg).trans c0
  clear hb h O
  go_enter Tryd.func84, Tryd.ntmps84
  go_upto_region 1 with fail
  change Code.wp _ _ _ _ (W.alloc (.cells #[sV x.n, .int .i64 x.k, .int .i64 x.l, .int .i64 x.a, .int .i64 x.x, .int .i64 x.y] 74))
  generalize W.alloc (.cells #[sV x.n, .int .i64 x.k, .int .i64 x.l, .int .i64 x.a, .int .i64 x.x, .int .i64 x.y] 74) = W1 at OX c0 hB hz ⊢
  have s0 : ∀ (y : Since W1) (i : Nat), y.1.cell? ⟨W.heap.size, i, none⟩ = #[sV x.n, .int .i64 x.k, .int .i64 x.l, .int .i64 x.a, .int .i64 x.x, .int .i64 x.y][i]? := fun y i => (OX.out.below y.2 OX.out.inside).read i
  have s1 : ∀ y : Since W1, y.1.cell? ⟨g, 0, none⟩ = some (sV n) := fun y => (y.2.cell (p := ⟨g, 0, none⟩) (Nat.lt_of_lt_of_le hg hz.size)).trans c0
  generalize W.heap.size = m at s0 OX hz ⊢
  clear OX hz
  have MT : ∀ w : World, (method 268 74 (.agg #[sV x.n, .int .i64 x.k, .int .i64 x.l, .int .i64 x.a, .int .i64 x.x, .int .i64 x.y]) "watershed/graph.name").run Tryd.prog w = .ok (124, .agg #[sV x.n, .int .i64 x.k, .int .i64 x.l, .int .i64 x.a, .int .i64 x.x, .int .i64 x.y]) w := fun _ => by kernel_rfl
  refine region_since W1 (by kernel_rfl) (by kernel_rfl) (Below.refl _ _) ?_
  repeat (go_big_quiet_step ((go_at_call 124; with_reducible exact since_call NM.out _)))
  refine wpQuiet_nil ?_
  rintro w4 ⟨y, rfl⟩
  have hy := hB.trans (y.2.mono hB.size)
  clear s0 s1 NM MT c0
  go_wp2_with fail
  go_ret
  exact ⟨rfl, hy⟩
theorem cells_oq {w : World} {A : Option Addr} {M : List Oq} {b off : Nat} (h : Lg 6 cOq w A M) (hA : A = some ⟨b, off, none⟩) : ∀ j, j < M.length → ∀ i v, (cOq M[j]!)[i]? = some v → w.cell? ⟨b, off + j * 6 + i, none⟩ = some v := by
  intro j hj i v hi
  have hx : M[j]? = some M[j]! := by rw [List.getElem?_eq_getElem hj, getElem!_pos M j hj]
  obtain ⟨b1, o1, hA1, hb1, hc⟩ := h.cells hx
  rw [hA] at hA1
  injection (Option.some.inj hA1) with h1 h2
  subst h1 h2
  have hi3 : i < 6 := by
    have := (List.getElem?_eq_some_iff.1 hi).1
    simpa [cOq] using this
  rw [← hi, ← hc i hi3, Nat.add_assoc]
theorem any_oq (M : List Oq) (n : Bs) : M.any (fun y => y.n == n) = decide (n ∈ M.map (·.n)) := by
  rw [Bool.eq_iff_iff]
  simp
set_option maxRecDepth 100000 in
theorem nm_oq (A : Option Addr) (c : Nat) (M : List Oq) (k : Nat) (x : Oq) (hx : M[k]? = some x) (h5 : M.length ≤ 100000) (hc : M.length ≤ c) (hn : x.n.length ≤ 100000) (w : World) (h : Lg 6 cOq w A M) :
    Calls Tryd.prog 64 #[.slice A M.length c, .int .i64 k] w fun e w' => e = .returned (.int .i64 (nameE ((M.take k).map (·.n)) x.n)) ∧ Below w.heap.size w w' := by
  obtain ⟨b1, o1, hA, hb1, c0, c1, c2, c3, c4, c5⟩ := at_oq h hx
  subst hA
  have hk := (List.getElem?_eq_some_iff.1 hx).1
  have NM := Lib.hid (name_oq x)
  have WN := name_any x.n hn
  have H := Lib.hid h
  obtain ⟨E, hE⟩ : ∃ E, nameE ((M.take k).map (·.n)) x.n = E := ⟨_, rfl⟩
  rw [hE]
  replace hE := Lib.hid hE
  clear h hx
  go_enter Tryd.func64, Tryd.ntmps64
  go_upto_region 2 with (go_at_call 124; refine (NM.out _).mono ?_; rintro e w1 ⟨rfl, b1'⟩)
  change Code.wp _ _ _ _ (w1.alloc (.cells #[sV x.n] 9))
  have OX := Lib.hid (Whole.fresh w1 9 #[sV x.n])
  have B2 := Lib.hid (b1'.trans ((fresh1 w1 (.cells #[sV x.n] 9)).mono b1'.size))
  clear b1' NM c0 c1 c2 c3 c4 c5
  generalize w1.alloc (.cells #[sV x.n] 9) = w2 at OX B2 ⊢
  generalize w1.heap.size = r at OX ⊢
  have e0 : w2.cell? ⟨r, 0, none⟩ = some (sV x.n) := OX.out.read 0
  cases hnb : nameB x.n
  · obtain rfl : 6 = E := by rw [← hE.out]; unfold nameE; rw [if_pos hnb]
    rw [hnb] at WN
    replace WN := Lib.hid WN
    go_wp2_with (go_at_call 78; refine (WN.out _).mono ?_; rintro e w3 ⟨rfl, b3⟩)
    go_ret
    exact ⟨rfl, B2.out.trans (b3.mono B2.out.size)⟩
  · rw [hnb] at WN
    replace WN := Lib.hid WN
    go_upto_region 4 with (go_at_call 78; refine (WN.out _).mono ?_; rintro e w3 ⟨rfl, b3⟩)
    have O3 := OX.out.below b3 OX.out.inside
    have B3 := B2.out.trans (b3.mono B2.out.size)
    have H3 := H.out.below B3
    have eg : ∀ args w, (callFunc 84 args).run Tryd.prog w = .ok (.enter 84 args) w := enters_of Tryd.func84 (by kernel_rfl) rfl
    have hcon := AnyQ.slices_ContainsFunc Tryd.lHo 6 Tryd.isAgg74 Tryd.sizeOf74 cOq (fun _ => rfl) (fun y => y.n == x.n) 84 #[.pointer (some ⟨r, 0, none⟩)] eg b1 o1 k c M w3
      (near_oq x.n r w3 O3) (by omega) (by omega) (Nat.lt_of_lt_of_le hb1 B3.size) (cells_oq H3 rfl)
    change Calls Tryd.prog 83 _ _ _ at hcon
    rw [any_oq] at hcon
    clear eg H3 H O3 OX B2 b3
    by_cases hm : x.n ∈ (M.take k).map (·.n)
    · obtain rfl : 4 = E := by rw [← hE.out]; unfold nameE; rw [if_neg (by rw [hnb]; simp), if_pos hm]
      rw [decide_eq_true hm] at hcon
      clear hm
      go_wp2_with (go_at_call 83; refine hcon.mono ?_; rintro e w' ⟨rfl, hb'⟩)
      go_ret
      exact ⟨rfl, B3.trans (hb'.mono B3.size)⟩
    · obtain rfl : 0 = E := by rw [← hE.out]; unfold nameE; rw [if_neg (by rw [hnb]; simp), if_neg hm]
      rw [decide_eq_false hm] at hcon
      clear hm
      go_wp2_with (go_at_call 83; refine hcon.mono ?_; rintro e w' ⟨rfl, hb'⟩)
      go_ret
      exact ⟨rfl, B3.trans (hb'.mono B3.size)⟩
end Go.Proofs.YtlbphlhbofjfgaaDoor.graph
