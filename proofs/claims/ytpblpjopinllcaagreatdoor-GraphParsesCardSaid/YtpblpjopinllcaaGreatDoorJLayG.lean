/-
  DERIVED: THE SHELF's CONTRACTS AT THIS DUMP, IN PLAIN WORDS (tools/lay-plain.mjs out of 'TryzShelfX.lean', which tools/lay-shelf.mjs wrote): THE SAME DECLARATIONS UNDER THE SAME NAMES: 'import', 'namespace', 'open', 'def', 'theorem' AND NOTHING ELSE: no command of the shelf's: FOR A HAND-IN. Each laying: the table of numbers ('.._ren') and one theorem, a field a fact of the dump's own or the kernel's comparison; each contract: ONE APPLICATION.
  The names of a graph's parts, as the program reads them: checkName at its three types (by gen_gn.py).
  What is wrong with a graph's clusters, as the program tells it.
-/
import Derived.Shelf.SlGeneric
import Derived.Shelf.SlicesQ.IndexFunc
import Derived.Shelf.SlicesQ.Equal
import Derived.Ground.SlgfProg
import Derived.Ground.SlgqProg
import Derived.Test.YtpblpjopinllcaaGreatDoorProg
import Derived.Test.YtpblpjopinllcaaGreatDoorJGc
import Derived.Test.YtpblpjopinllcaaGreatDoorJWu
import Derived.Handy
import Derived.BigQuiet
namespace Go.Proofs
open Go.Shelf
def Tryz.lHc_ren : Go.Shelf.Ren := ⟨fun | 8 => 236 | 6 => 289 | n => n, fun | 22 => 22 | 23 => 143 | 25 => 298 | 4 => 4 | 3 => 3 | 0 => 0 | n => n, fun | n => n⟩
theorem Tryz.lHc : Go.Proofs.SlLaysH0.n8 Tryz.prog Tryz.lHc_ren := {
  mixed := by kernel_rfl
  f6 := ⟨Tryz.f289.name, by decide, Tryz.func289.trans (congrArg some (by kernel_rfl))⟩
  f8 := ⟨Tryz.f236.name, by decide, Tryz.func236.trans (congrArg some (by kernel_rfl))⟩
  t0 := Tryz.underlying0
  a0 := Tryz.isAgg0
  z0 := Tryz.sizeOf0
  v0 := Tryz.zeroValue0
  t3 := Tryz.underlying3
  a3 := Tryz.isAgg3
  z3 := Tryz.sizeOf3
  v3 := Tryz.zeroValue3
  t4 := Tryz.underlying4
  a4 := Tryz.isAgg4
  z4 := Tryz.sizeOf4
  v4 := Tryz.zeroValue4
  t22 := Tryz.underlying22
  a22 := Tryz.isAgg22
  z22 := Tryz.sizeOf22
  v22 := Tryz.zeroValue22
  t25 := Tryz.underlying298
  a25 := Tryz.isAgg298
  z25 := Tryz.sizeOf298
  v25 := Tryz.zeroValue298 }
def Tryz.lHl_ren : Go.Shelf.Ren := ⟨fun | 8 => 238 | 6 => 290 | n => n, fun | 22 => 23 | 23 => 144 | 25 => 300 | 4 => 4 | 3 => 3 | 0 => 0 | n => n, fun | n => n⟩
theorem Tryz.lHl : Go.Proofs.SlLaysH0.n8 Tryz.prog Tryz.lHl_ren := {
  mixed := by kernel_rfl
  f6 := ⟨Tryz.f290.name, by decide, Tryz.func290.trans (congrArg some (by kernel_rfl))⟩
  f8 := ⟨Tryz.f238.name, by decide, Tryz.func238.trans (congrArg some (by kernel_rfl))⟩
  t0 := Tryz.underlying0
  a0 := Tryz.isAgg0
  z0 := Tryz.sizeOf0
  v0 := Tryz.zeroValue0
  t3 := Tryz.underlying3
  a3 := Tryz.isAgg3
  z3 := Tryz.sizeOf3
  v3 := Tryz.zeroValue3
  t4 := Tryz.underlying4
  a4 := Tryz.isAgg4
  z4 := Tryz.sizeOf4
  v4 := Tryz.zeroValue4
  t22 := Tryz.underlying23
  a22 := Tryz.isAgg23
  z22 := Tryz.sizeOf23
  v22 := Tryz.zeroValue23
  t25 := Tryz.underlying300
  a25 := Tryz.isAgg300
  z25 := Tryz.sizeOf300
  v25 := Tryz.zeroValue300 }
def Tryz.lHo_ren : Go.Shelf.Ren := ⟨fun | 8 => 240 | 6 => 291 | n => n, fun | 22 => 24 | 23 => 145 | 25 => 242 | 4 => 4 | 3 => 3 | 0 => 0 | n => n, fun | n => n⟩
theorem Tryz.lHo : Go.Proofs.SlLaysH0.n8 Tryz.prog Tryz.lHo_ren := {
  mixed := by kernel_rfl
  f6 := ⟨Tryz.f291.name, by decide, Tryz.func291.trans (congrArg some (by kernel_rfl))⟩
  f8 := ⟨Tryz.f240.name, by decide, Tryz.func240.trans (congrArg some (by kernel_rfl))⟩
  t0 := Tryz.underlying0
  a0 := Tryz.isAgg0
  z0 := Tryz.sizeOf0
  v0 := Tryz.zeroValue0
  t3 := Tryz.underlying3
  a3 := Tryz.isAgg3
  z3 := Tryz.sizeOf3
  v3 := Tryz.zeroValue3
  t4 := Tryz.underlying4
  a4 := Tryz.isAgg4
  z4 := Tryz.sizeOf4
  v4 := Tryz.zeroValue4
  t22 := Tryz.underlying24
  a22 := Tryz.isAgg24
  z22 := Tryz.sizeOf24
  v22 := Tryz.zeroValue24
  t25 := Tryz.underlying242
  a25 := Tryz.isAgg242
  z25 := Tryz.sizeOf242
  v25 := Tryz.zeroValue242 }
end Go.Proofs
namespace Go.Proofs.YtpblpjopinllcaaGreatDoor.graph
open Go.ChangeShapes Go.WideShapes Go.ChangeAt Go.RowKit Go.Shelf
open Go.Proofs.YtpblpjopinllcaaGreatDoor.opened Go.Proofs.YtpblpjopinllcaaGreatDoor.block Go.Proofs.YtpblpjopinllcaaGreatDoor.words
instance : Inhabited Cl := ⟨⟨[], 0⟩⟩
instance : Inhabited Lo := ⟨⟨[], 0, 0⟩⟩
instance : Inhabited Oq := ⟨⟨[], 0, 0, 0, 0, 0⟩⟩
theorem name_cl (x : Cl) (w : World) : Calls Tryz.prog 412 #[.agg #[sV x.n, .int .i64 x.w]] w fun e w' => e = .returned (sV x.n) ∧ Below w.heap.size w w' := by
  go_enter Tryz.func412, Tryz.ntmps412
  go_wp2
  go_ret
  exact ⟨rfl, fresh1 _ _⟩
set_option maxRecDepth 100000 in
theorem near_cl (n : Bs) (g : Nat) (w : World) (h : Whole w g 9 #[sV n]) : PredBelow Tryz.prog 237 #[.pointer (some ⟨g, 0, none⟩)] (fun x : Cl => .agg (cCl x).toArray) (fun x => x.n == n) w := fun W x hb => by
  have O := h.below hb h.inside
  have NM := Lib.hid (name_cl x)
  show Calls Tryz.prog 237 #[.agg #[sV x.n, .int .i64 x.w], .pointer (some ⟨g, 0, none⟩)] W _
  have c0 : W.cell? ⟨g, 0, none⟩ = some (sV n) := O.read 0
  have hg := O.inside
  have hB := hb.alloc hb.size (.cells #[sV x.n, .int .i64 x.w] 143)
  have hz := fresh1 W (.cells #[sV x.n, .int .i64 x.w] 143)
  have OX := Lib.hid (Whole.fresh W 143 #[sV x.n, .int .i64 x.w])
  replace c0 : (W.alloc (.cells #[sV x.n, .int .i64 x.w] 143)).cell? ⟨g, 0, none⟩ = some (sV n) := (hz.cell (p := ⟨g, 0, none⟩) hg).trans c0
  clear hb h O
  go_enter Tryz.func237, Tryz.ntmps237
  go_upto_region 1 with fail
  change Code.wp _ _ _ _ (W.alloc (.cells #[sV x.n, .int .i64 x.w] 143))
  generalize W.alloc (.cells #[sV x.n, .int .i64 x.w] 143) = W1 at OX c0 hB hz ⊢
  have s0 : ∀ (y : Since W1) (i : Nat), y.1.cell? ⟨W.heap.size, i, none⟩ = #[sV x.n, .int .i64 x.w][i]? := fun y i => (OX.out.below y.2 OX.out.inside).read i
  have s1 : ∀ y : Since W1, y.1.cell? ⟨g, 0, none⟩ = some (sV n) := fun y => (y.2.cell (p := ⟨g, 0, none⟩) (Nat.lt_of_lt_of_le hg hz.size)).trans c0
  generalize W.heap.size = m at s0 OX hz ⊢
  clear OX hz
  have MT : ∀ w : World, (method 539 143 (.agg #[sV x.n, .int .i64 x.w]) "watershed/graph.name").run Tryz.prog w = .ok (412, .agg #[sV x.n, .int .i64 x.w]) w := fun _ => by kernel_rfl
  refine region_since W1 (by kernel_rfl) (by kernel_rfl) (Below.refl _ _) ?_
  repeat (go_big_quiet_step ((go_at_call 412; with_reducible exact since_call NM.out _)))
  refine wpQuiet_nil ?_
  rintro w4 ⟨y, rfl⟩
  have hy := hB.trans (y.2.mono hB.size)
  clear s0 s1 NM MT c0
  go_wp2_with fail
  go_ret
  exact ⟨rfl, hy⟩
theorem cells_cl {w : World} {A : Option Addr} {M : List Cl} {b off : Nat} (h : Lg 2 cCl w A M) (hA : A = some ⟨b, off, none⟩) : ∀ j, j < M.length → ∀ i v, (cCl M[j]!)[i]? = some v → w.cell? ⟨b, off + j * 2 + i, none⟩ = some v := by
  intro j hj i v hi
  have hx : M[j]? = some M[j]! := by rw [List.getElem?_eq_getElem hj, getElem!_pos M j hj]
  obtain ⟨b1, o1, hA1, hb1, hc⟩ := h.cells hx
  rw [hA] at hA1
  injection (Option.some.inj hA1) with h1 h2
  subst h1 h2
  have hi3 : i < 2 := by
    have := (List.getElem?_eq_some_iff.1 hi).1
    simpa [cCl] using this
  rw [← hi, ← hc i hi3, Nat.add_assoc]
theorem any_cl (M : List Cl) (n : Bs) : M.any (fun y => y.n == n) = decide (n ∈ M.map (·.n)) := by
  rw [Bool.eq_iff_iff]
  simp
set_option maxRecDepth 100000 in
theorem nm_cl (A : Option Addr) (c : Nat) (M : List Cl) (k : Nat) (x : Cl) (hx : M[k]? = some x) (h5 : M.length ≤ 100000) (hc : M.length ≤ c) (hn : x.n.length ≤ 100000) (w : World) (h : Lg 2 cCl w A M) :
    Calls Tryz.prog 158 #[.slice A M.length c, .int .i64 k] w fun e w' => e = .returned (.int .i64 (nameE ((M.take k).map (·.n)) x.n)) ∧ Below w.heap.size w w' := by
  obtain ⟨b1, o1, hA, hb1, c0, c1⟩ := at_cl h hx
  subst hA
  have hk := (List.getElem?_eq_some_iff.1 hx).1
  have NM := Lib.hid (name_cl x)
  have WN := name_any x.n hn
  have H := Lib.hid h
  obtain ⟨E, hE⟩ : ∃ E, nameE ((M.take k).map (·.n)) x.n = E := ⟨_, rfl⟩
  rw [hE]
  replace hE := Lib.hid hE
  clear h hx
  go_enter Tryz.func158, Tryz.ntmps158
  go_upto_region 2 with (go_at_call 412; refine (NM.out _).mono ?_; rintro e w1 ⟨rfl, b1'⟩)
  change Code.wp _ _ _ _ (w1.alloc (.cells #[sV x.n] 9))
  have OX := Lib.hid (Whole.fresh w1 9 #[sV x.n])
  have B2 := Lib.hid (b1'.trans ((fresh1 w1 (.cells #[sV x.n] 9)).mono b1'.size))
  clear b1' NM c0 c1
  generalize w1.alloc (.cells #[sV x.n] 9) = w2 at OX B2 ⊢
  generalize w1.heap.size = r at OX ⊢
  have e0 : w2.cell? ⟨r, 0, none⟩ = some (sV x.n) := OX.out.read 0
  cases hnb : nameB x.n
  · obtain rfl : 6 = E := by rw [← hE.out]; unfold nameE; rw [if_pos hnb]
    rw [hnb] at WN
    replace WN := Lib.hid WN
    go_wp2_with (go_at_call 197; refine (WN.out _).mono ?_; rintro e w3 ⟨rfl, b3⟩)
    go_ret
    exact ⟨rfl, B2.out.trans (b3.mono B2.out.size)⟩
  · rw [hnb] at WN
    replace WN := Lib.hid WN
    go_upto_region 4 with (go_at_call 197; refine (WN.out _).mono ?_; rintro e w3 ⟨rfl, b3⟩)
    have O3 := OX.out.below b3 OX.out.inside
    have B3 := B2.out.trans (b3.mono B2.out.size)
    have H3 := H.out.below B3
    have eg : ∀ args w, (callFunc 237 args).run Tryz.prog w = .ok (.enter 237 args) w := enters_of Tryz.func237 (by kernel_rfl) rfl
    have hcon := AnyQ.slices_ContainsFunc Tryz.lHc 2 Tryz.isAgg143 Tryz.sizeOf143 cCl (fun _ => rfl) (fun y => y.n == x.n) 237 #[.pointer (some ⟨r, 0, none⟩)] eg b1 o1 k c M w3
      (near_cl x.n r w3 O3) (by omega) (by omega) (Nat.lt_of_lt_of_le hb1 B3.size) (cells_cl H3 rfl)
    change Calls Tryz.prog 236 _ _ _ at hcon
    rw [any_cl] at hcon
    clear eg H3 H O3 OX B2 b3
    by_cases hm : x.n ∈ (M.take k).map (·.n)
    · obtain rfl : 4 = E := by rw [← hE.out]; unfold nameE; rw [if_neg (by rw [hnb]; simp), if_pos hm]
      rw [decide_eq_true hm] at hcon
      clear hm
      go_wp2_with (go_at_call 236; refine hcon.mono ?_; rintro e w' ⟨rfl, hb'⟩)
      go_ret
      exact ⟨rfl, B3.trans (hb'.mono B3.size)⟩
    · obtain rfl : 0 = E := by rw [← hE.out]; unfold nameE; rw [if_neg (by rw [hnb]; simp), if_neg hm]
      rw [decide_eq_false hm] at hcon
      clear hm
      go_wp2_with (go_at_call 236; refine hcon.mono ?_; rintro e w' ⟨rfl, hb'⟩)
      go_ret
      exact ⟨rfl, B3.trans (hb'.mono B3.size)⟩
theorem name_lo (x : Lo) (w : World) : Calls Tryz.prog 413 #[.agg #[sV x.n, .int .i64 x.u, .int .i64 x.r]] w fun e w' => e = .returned (sV x.n) ∧ Below w.heap.size w w' := by
  go_enter Tryz.func413, Tryz.ntmps413
  go_wp2
  go_ret
  exact ⟨rfl, fresh1 _ _⟩
set_option maxRecDepth 100000 in
theorem near_lo (n : Bs) (g : Nat) (w : World) (h : Whole w g 9 #[sV n]) : PredBelow Tryz.prog 239 #[.pointer (some ⟨g, 0, none⟩)] (fun x : Lo => .agg (cLo x).toArray) (fun x => x.n == n) w := fun W x hb => by
  have O := h.below hb h.inside
  have NM := Lib.hid (name_lo x)
  show Calls Tryz.prog 239 #[.agg #[sV x.n, .int .i64 x.u, .int .i64 x.r], .pointer (some ⟨g, 0, none⟩)] W _
  have c0 : W.cell? ⟨g, 0, none⟩ = some (sV n) := O.read 0
  have hg := O.inside
  have hB := hb.alloc hb.size (.cells #[sV x.n, .int .i64 x.u, .int .i64 x.r] 144)
  have hz := fresh1 W (.cells #[sV x.n, .int .i64 x.u, .int .i64 x.r] 144)
  have OX := Lib.hid (Whole.fresh W 144 #[sV x.n, .int .i64 x.u, .int .i64 x.r])
  replace c0 : (W.alloc (.cells #[sV x.n, .int .i64 x.u, .int .i64 x.r] 144)).cell? ⟨g, 0, none⟩ = some (sV n) := (hz.cell (p := ⟨g, 0, none⟩) hg).trans c0
  clear hb h O
  go_enter Tryz.func239, Tryz.ntmps239
  go_upto_region 1 with fail
  change Code.wp _ _ _ _ (W.alloc (.cells #[sV x.n, .int .i64 x.u, .int .i64 x.r] 144))
  generalize W.alloc (.cells #[sV x.n, .int .i64 x.u, .int .i64 x.r] 144) = W1 at OX c0 hB hz ⊢
  have s0 : ∀ (y : Since W1) (i : Nat), y.1.cell? ⟨W.heap.size, i, none⟩ = #[sV x.n, .int .i64 x.u, .int .i64 x.r][i]? := fun y i => (OX.out.below y.2 OX.out.inside).read i
  have s1 : ∀ y : Since W1, y.1.cell? ⟨g, 0, none⟩ = some (sV n) := fun y => (y.2.cell (p := ⟨g, 0, none⟩) (Nat.lt_of_lt_of_le hg hz.size)).trans c0
  generalize W.heap.size = m at s0 OX hz ⊢
  clear OX hz
  have MT : ∀ w : World, (method 539 144 (.agg #[sV x.n, .int .i64 x.u, .int .i64 x.r]) "watershed/graph.name").run Tryz.prog w = .ok (413, .agg #[sV x.n, .int .i64 x.u, .int .i64 x.r]) w := fun _ => by kernel_rfl
  refine region_since W1 (by kernel_rfl) (by kernel_rfl) (Below.refl _ _) ?_
  repeat (go_big_quiet_step ((go_at_call 413; with_reducible exact since_call NM.out _)))
  refine wpQuiet_nil ?_
  rintro w4 ⟨y, rfl⟩
  have hy := hB.trans (y.2.mono hB.size)
  clear s0 s1 NM MT c0
  go_wp2_with fail
  go_ret
  exact ⟨rfl, hy⟩
theorem cells_lo {w : World} {A : Option Addr} {M : List Lo} {b off : Nat} (h : Lg 3 cLo w A M) (hA : A = some ⟨b, off, none⟩) : ∀ j, j < M.length → ∀ i v, (cLo M[j]!)[i]? = some v → w.cell? ⟨b, off + j * 3 + i, none⟩ = some v := by
  intro j hj i v hi
  have hx : M[j]? = some M[j]! := by rw [List.getElem?_eq_getElem hj, getElem!_pos M j hj]
  obtain ⟨b1, o1, hA1, hb1, hc⟩ := h.cells hx
  rw [hA] at hA1
  injection (Option.some.inj hA1) with h1 h2
  subst h1 h2
  have hi3 : i < 3 := by
    have := (List.getElem?_eq_some_iff.1 hi).1
    simpa [cLo] using this
  rw [← hi, ← hc i hi3, Nat.add_assoc]
theorem any_lo (M : List Lo) (n : Bs) : M.any (fun y => y.n == n) = decide (n ∈ M.map (·.n)) := by
  rw [Bool.eq_iff_iff]
  simp
set_option maxRecDepth 100000 in
theorem nm_lo (A : Option Addr) (c : Nat) (M : List Lo) (k : Nat) (x : Lo) (hx : M[k]? = some x) (h5 : M.length ≤ 100000) (hc : M.length ≤ c) (hn : x.n.length ≤ 100000) (w : World) (h : Lg 3 cLo w A M) :
    Calls Tryz.prog 159 #[.slice A M.length c, .int .i64 k] w fun e w' => e = .returned (.int .i64 (nameE ((M.take k).map (·.n)) x.n)) ∧ Below w.heap.size w w' := by
  obtain ⟨b1, o1, hA, hb1, c0, c1, c2⟩ := at_lo h hx
  subst hA
  have hk := (List.getElem?_eq_some_iff.1 hx).1
  have NM := Lib.hid (name_lo x)
  have WN := name_any x.n hn
  have H := Lib.hid h
  obtain ⟨E, hE⟩ : ∃ E, nameE ((M.take k).map (·.n)) x.n = E := ⟨_, rfl⟩
  rw [hE]
  replace hE := Lib.hid hE
  clear h hx
  go_enter Tryz.func159, Tryz.ntmps159
  go_upto_region 2 with (go_at_call 413; refine (NM.out _).mono ?_; rintro e w1 ⟨rfl, b1'⟩)
  change Code.wp _ _ _ _ (w1.alloc (.cells #[sV x.n] 9))
  have OX := Lib.hid (Whole.fresh w1 9 #[sV x.n])
  have B2 := Lib.hid (b1'.trans ((fresh1 w1 (.cells #[sV x.n] 9)).mono b1'.size))
  clear b1' NM c0 c1 c2
  generalize w1.alloc (.cells #[sV x.n] 9) = w2 at OX B2 ⊢
  generalize w1.heap.size = r at OX ⊢
  have e0 : w2.cell? ⟨r, 0, none⟩ = some (sV x.n) := OX.out.read 0
  cases hnb : nameB x.n
  · obtain rfl : 6 = E := by rw [← hE.out]; unfold nameE; rw [if_pos hnb]
    rw [hnb] at WN
    replace WN := Lib.hid WN
    go_wp2_with (go_at_call 197; refine (WN.out _).mono ?_; rintro e w3 ⟨rfl, b3⟩)
    go_ret
    exact ⟨rfl, B2.out.trans (b3.mono B2.out.size)⟩
  · rw [hnb] at WN
    replace WN := Lib.hid WN
    go_upto_region 4 with (go_at_call 197; refine (WN.out _).mono ?_; rintro e w3 ⟨rfl, b3⟩)
    have O3 := OX.out.below b3 OX.out.inside
    have B3 := B2.out.trans (b3.mono B2.out.size)
    have H3 := H.out.below B3
    have eg : ∀ args w, (callFunc 239 args).run Tryz.prog w = .ok (.enter 239 args) w := enters_of Tryz.func239 (by kernel_rfl) rfl
    have hcon := AnyQ.slices_ContainsFunc Tryz.lHl 3 Tryz.isAgg144 Tryz.sizeOf144 cLo (fun _ => rfl) (fun y => y.n == x.n) 239 #[.pointer (some ⟨r, 0, none⟩)] eg b1 o1 k c M w3
      (near_lo x.n r w3 O3) (by omega) (by omega) (Nat.lt_of_lt_of_le hb1 B3.size) (cells_lo H3 rfl)
    change Calls Tryz.prog 238 _ _ _ at hcon
    rw [any_lo] at hcon
    clear eg H3 H O3 OX B2 b3
    by_cases hm : x.n ∈ (M.take k).map (·.n)
    · obtain rfl : 4 = E := by rw [← hE.out]; unfold nameE; rw [if_neg (by rw [hnb]; simp), if_pos hm]
      rw [decide_eq_true hm] at hcon
      clear hm
      go_wp2_with (go_at_call 238; refine hcon.mono ?_; rintro e w' ⟨rfl, hb'⟩)
      go_ret
      exact ⟨rfl, B3.trans (hb'.mono B3.size)⟩
    · obtain rfl : 0 = E := by rw [← hE.out]; unfold nameE; rw [if_neg (by rw [hnb]; simp), if_neg hm]
      rw [decide_eq_false hm] at hcon
      clear hm
      go_wp2_with (go_at_call 238; refine hcon.mono ?_; rintro e w' ⟨rfl, hb'⟩)
      go_ret
      exact ⟨rfl, B3.trans (hb'.mono B3.size)⟩
theorem name_oq (x : Oq) (w : World) : Calls Tryz.prog 414 #[.agg #[sV x.n, .int .i64 x.k, .int .i64 x.l, .int .i64 x.a, .int .i64 x.x, .int .i64 x.y]] w fun e w' => e = .returned (sV x.n) ∧ Below w.heap.size w w' := by
  go_enter Tryz.func414, Tryz.ntmps414
  go_wp2
  go_ret
  exact ⟨rfl, fresh1 _ _⟩
set_option maxRecDepth 100000 in
theorem near_oq (n : Bs) (g : Nat) (w : World) (h : Whole w g 9 #[sV n]) : PredBelow Tryz.prog 241 #[.pointer (some ⟨g, 0, none⟩)] (fun x : Oq => .agg (cOq x).toArray) (fun x => x.n == n) w := fun W x hb => by
  have O := h.below hb h.inside
  have NM := Lib.hid (name_oq x)
  show Calls Tryz.prog 241 #[.agg #[sV x.n, .int .i64 x.k, .int .i64 x.l, .int .i64 x.a, .int .i64 x.x, .int .i64 x.y], .pointer (some ⟨g, 0, none⟩)] W _
  have c0 : W.cell? ⟨g, 0, none⟩ = some (sV n) := O.read 0
  have hg := O.inside
  have hB := hb.alloc hb.size (.cells #[sV x.n, .int .i64 x.k, .int .i64 x.l, .int .i64 x.a, .int .i64 x.x, .int .i64 x.y] 145)
  have hz := fresh1 W (.cells #[sV x.n, .int .i64 x.k, .int .i64 x.l, .int .i64 x.a, .int .i64 x.x, .int .i64 x.y] 145)
  have OX := Lib.hid (Whole.fresh W 145 #[sV x.n, .int .i64 x.k, .int .i64 x.l, .int .i64 x.a, .int .i64 x.x, .int .i64 x.y])
  replace c0 : (W.alloc (.cells #[sV x.n, .int .i64 x.k, .int .i64 x.l, .int .i64 x.a, .int .i64 x.x, .int .i64 x.y] 145)).cell? ⟨g, 0, none⟩ = some (sV n) := (hz.cell (p := ⟨g, 0, none⟩) hg).trans c0
  clear hb h O
  go_enter Tryz.func241, Tryz.ntmps241
  go_upto_region 1 with fail
  change Code.wp _ _ _ _ (W.alloc (.cells #[sV x.n, .int .i64 x.k, .int .i64 x.l, .int .i64 x.a, .int .i64 x.x, .int .i64 x.y] 145))
  generalize W.alloc (.cells #[sV x.n, .int .i64 x.k, .int .i64 x.l, .int .i64 x.a, .int .i64 x.x, .int .i64 x.y] 145) = W1 at OX c0 hB hz ⊢
  have s0 : ∀ (y : Since W1) (i : Nat), y.1.cell? ⟨W.heap.size, i, none⟩ = #[sV x.n, .int .i64 x.k, .int .i64 x.l, .int .i64 x.a, .int .i64 x.x, .int .i64 x.y][i]? := fun y i => (OX.out.below y.2 OX.out.inside).read i
  have s1 : ∀ y : Since W1, y.1.cell? ⟨g, 0, none⟩ = some (sV n) := fun y => (y.2.cell (p := ⟨g, 0, none⟩) (Nat.lt_of_lt_of_le hg hz.size)).trans c0
  generalize W.heap.size = m at s0 OX hz ⊢
  clear OX hz
  have MT : ∀ w : World, (method 539 145 (.agg #[sV x.n, .int .i64 x.k, .int .i64 x.l, .int .i64 x.a, .int .i64 x.x, .int .i64 x.y]) "watershed/graph.name").run Tryz.prog w = .ok (414, .agg #[sV x.n, .int .i64 x.k, .int .i64 x.l, .int .i64 x.a, .int .i64 x.x, .int .i64 x.y]) w := fun _ => by kernel_rfl
  refine region_since W1 (by kernel_rfl) (by kernel_rfl) (Below.refl _ _) ?_
  repeat (go_big_quiet_step ((go_at_call 414; with_reducible exact since_call NM.out _)))
  refine wpQuiet_nil ?_
  rintro w4 ⟨y, rfl⟩
  have hy := hB.trans (y.2.mono hB.size)
  clear s0 s1 NM MT c0
  go_wp2_with fail
  go_ret
  exact ⟨rfl, hy⟩
theorem cells_oq {w : World} {A : Option Addr} {M : List Oq} {b off : Nat} (h : Lg 6 cOq w A M) (hA : A = some ⟨b, off, none⟩) : ∀ j, j < M.length → ∀ i v, (cOq M[j]!)[i]? = some v → w.cell? ⟨b, off + j * 6 + i, none⟩ = some v := by
  intro j hj i v hi
  have hx : M[j]? = some M[j]! := by rw [List.getElem?_eq_getElem hj, getElem!_pos M j hj]
  obtain ⟨b1, o1, hA1, hb1, hc⟩ := h.cells hx
  rw [hA] at hA1
  injection (Option.some.inj hA1) with h1 h2
  subst h1 h2
  have hi3 : i < 6 := by
    have := (List.getElem?_eq_some_iff.1 hi).1
    simpa [cOq] using this
  rw [← hi, ← hc i hi3, Nat.add_assoc]
theorem any_oq (M : List Oq) (n : Bs) : M.any (fun y => y.n == n) = decide (n ∈ M.map (·.n)) := by
  rw [Bool.eq_iff_iff]
  simp
set_option maxRecDepth 100000 in
theorem nm_oq (A : Option Addr) (c : Nat) (M : List Oq) (k : Nat) (x : Oq) (hx : M[k]? = some x) (h5 : M.length ≤ 100000) (hc : M.length ≤ c) (hn : x.n.length ≤ 100000) (w : World) (h : Lg 6 cOq w A M) :
    Calls Tryz.prog 160 #[.slice A M.length c, .int .i64 k] w fun e w' => e = .returned (.int .i64 (nameE ((M.take k).map (·.n)) x.n)) ∧ Below w.heap.size w w' := by
  obtain ⟨b1, o1, hA, hb1, c0, c1, c2, c3, c4, c5⟩ := at_oq h hx
  subst hA
  have hk := (List.getElem?_eq_some_iff.1 hx).1
  have NM := Lib.hid (name_oq x)
  have WN := name_any x.n hn
  have H := Lib.hid h
  obtain ⟨E, hE⟩ : ∃ E, nameE ((M.take k).map (·.n)) x.n = E := ⟨_, rfl⟩
  rw [hE]
  replace hE := Lib.hid hE
  clear h hx
  go_enter Tryz.func160, Tryz.ntmps160
  go_upto_region 2 with (go_at_call 414; refine (NM.out _).mono ?_; rintro e w1 ⟨rfl, b1'⟩)
  change Code.wp _ _ _ _ (w1.alloc (.cells #[sV x.n] 9))
  have OX := Lib.hid (Whole.fresh w1 9 #[sV x.n])
  have B2 := Lib.hid (b1'.trans ((fresh1 w1 (.cells #[sV x.n] 9)).mono b1'.size))
  clear b1' NM c0 c1 c2 c3 c4 c5
  generalize w1.alloc (.cells #[sV x.n] 9) = w2 at OX B2 ⊢
  generalize w1.heap.size = r at OX ⊢
  have e0 : w2.cell? ⟨r, 0, none⟩ = some (sV x.n) := OX.out.read 0
  cases hnb : nameB x.n
  · obtain rfl : 6 = E := by rw [← hE.out]; unfold nameE; rw [if_pos hnb]
    rw [hnb] at WN
    replace WN := Lib.hid WN
    go_wp2_with (go_at_call 197; refine (WN.out _).mono ?_; rintro e w3 ⟨rfl, b3⟩)
    go_ret
    exact ⟨rfl, B2.out.trans (b3.mono B2.out.size)⟩
  · rw [hnb] at WN
    replace WN := Lib.hid WN
    go_upto_region 4 with (go_at_call 197; refine (WN.out _).mono ?_; rintro e w3 ⟨rfl, b3⟩)
    have O3 := OX.out.below b3 OX.out.inside
    have B3 := B2.out.trans (b3.mono B2.out.size)
    have H3 := H.out.below B3
    have eg : ∀ args w, (callFunc 241 args).run Tryz.prog w = .ok (.enter 241 args) w := enters_of Tryz.func241 (by kernel_rfl) rfl
    have hcon := AnyQ.slices_ContainsFunc Tryz.lHo 6 Tryz.isAgg145 Tryz.sizeOf145 cOq (fun _ => rfl) (fun y => y.n == x.n) 241 #[.pointer (some ⟨r, 0, none⟩)] eg b1 o1 k c M w3
      (near_oq x.n r w3 O3) (by omega) (by omega) (Nat.lt_of_lt_of_le hb1 B3.size) (cells_oq H3 rfl)
    change Calls Tryz.prog 240 _ _ _ at hcon
    rw [any_oq] at hcon
    clear eg H3 H O3 OX B2 b3
    by_cases hm : x.n ∈ (M.take k).map (·.n)
    · obtain rfl : 4 = E := by rw [← hE.out]; unfold nameE; rw [if_neg (by rw [hnb]; simp), if_pos hm]
      rw [decide_eq_true hm] at hcon
      clear hm
      go_wp2_with (go_at_call 240; refine hcon.mono ?_; rintro e w' ⟨rfl, hb'⟩)
      go_ret
      exact ⟨rfl, B3.trans (hb'.mono B3.size)⟩
    · obtain rfl : 0 = E := by rw [← hE.out]; unfold nameE; rw [if_neg (by rw [hnb]; simp), if_neg hm]
      rw [decide_eq_false hm] at hcon
      clear hm
      go_wp2_with (go_at_call 240; refine hcon.mono ?_; rintro e w' ⟨rfl, hb'⟩)
      go_ret
      exact ⟨rfl, B3.trans (hb'.mono B3.size)⟩
end Go.Proofs.YtpblpjopinllcaaGreatDoor.graph
namespace Go.Proofs.YtpblpjopinllcaaGreatDoor.graph
open Go.ChangeShapes Go.WideShapes Go.ChangeAt Go.RowKit Go.Shelf
open Go.Proofs.YtpblpjopinllcaaGreatDoor.opened Go.Proofs.YtpblpjopinllcaaGreatDoor.block Go.Proofs.YtpblpjopinllcaaGreatDoor.words
/-- The rooms are at least as wide as the rows, and the names are no longer than names that come in. -/
structure Fit (v : Gv) (g : Gr) : Prop where
  i : g.c.length ≤ v.i
  j : g.l.length ≤ v.j
  k : g.o.length ≤ v.k
  m : g.h.length ≤ v.m
  c : ∀ x ∈ g.c, x.n.length ≤ 100000
  l : ∀ x ∈ g.l, x.n.length ≤ 100000
  o : ∀ x ∈ g.o, x.n.length ≤ 100000
set_option maxRecDepth 100000 in
theorem clusters_any (v : Gv) (g : Gr) (F : Fit v g) (h4 : g.c.length ≤ 4) (w : World) (h : Lies4 w v g) :
    Calls Tryz.prog 87 #[gV v g] w fun e w' => e = .returned (.int .i64 (firstE (clE g.c) g.c.length)) ∧ Below w.heap.size w w' := by
  have HF := Lib.hid F
  obtain ⟨va, vb, vd, ve, vi, vj, vk, vm⟩ := v
  unfold gV
  have H := Lib.hid h
  dsimp only
  obtain ⟨E, hE⟩ : ∃ E, firstE (clE g.c) g.c.length = E := ⟨_, rfl⟩
  rw [hE]
  replace hE := Lib.hid hE
  have hB := Lib.hid (fresh1 w (.cells #[.slice va g.c.length vi, .slice vb g.l.length vj, .slice vd g.o.length vk, .slice ve g.h.length vm] 27))
  have OX := Lib.hid (Whole.fresh w 27 #[.slice va g.c.length vi, .slice vb g.l.length vj, .slice vd g.o.length vk, .slice ve g.h.length vm])
  clear h F
  go_enter Tryz.func87, Tryz.ntmps87
  go_upto_region 1 with fail
  change Code.wp _ _ _ _ (w.alloc (.cells #[.slice va g.c.length vi, .slice vb g.l.length vj, .slice vd g.o.length vk, .slice ve g.h.length vm] 27))
  generalize w.alloc (.cells #[.slice va g.c.length vi, .slice vb g.l.length vj, .slice vd g.o.length vk, .slice ve g.h.length vm] 27) = w1 at OX hB ⊢
  obtain ⟨gg, hgg⟩ : ∃ gg, w.heap.size = gg := ⟨_, rfl⟩
  rw [hgg] at OX ⊢
  clear hgg
  have k0 : w1.cell? ⟨gg, 0, none⟩ = some (.slice va g.c.length vi) := OX.out.read 0
  go_wp2_with fail
  clear k0
  go_loopw [9] (fun a wr => ∃ i : Nat, i ≤ g.c.length ∧ a = .int .i64 i ∧ Hid (firstE (clE g.c) i = 0) ∧ Hid (Below w1.heap.size w1 wr)) (fun a _ => (g.c.length - intOf a).toNat)
  case atStart => exact ⟨0, by omega, rfl, Lib.hid rfl, Lib.hid (Below.refl _ _)⟩
  case round =>
    obtain ⟨i, hi, rfl, Z, Br⟩ := hrel
    have BB := Lib.hid (hB.out.trans (Br.out.mono hB.out.size))
    have OG := Lib.hid (OX.out.below Br.out OX.out.inside)
    have HR := Lib.hid (H.out.below BB.out)
    by_cases hin : i = g.c.length
    · have e0 : E = 0 := by rw [← hE.out, ← Z.out, hin]
      subst e0
      clear Z
      have hlt : ¬ ((i : Int) < g.c.length) := by omega
      go_wp2_with fail
      go_ret
      exact ⟨rfl, BB.out⟩
    · have hlt : i < g.c.length := by omega
      obtain ⟨x, hx⟩ : ∃ x, g.c[i]? = some x := ⟨g.c[i], List.getElem?_eq_getElem hlt⟩
      obtain ⟨b1, o1, hA, hb1, c0, c1⟩ := at_cl HR.out.c hx
      obtain ⟨N, hN⟩ : ∃ N, nameE ((g.c.take i).map (·.n)) x.n = N := ⟨_, rfl⟩
      have hcl : clE g.c i = if N ≠ 0 then N else if x.w < 1 ∨ 4 < x.w then 1 else 0 := by unfold clE; rw [hx]; dsimp only; rw [hN]
      have NM := fun (w : World) (hw : Lg 2 cCl w va g.c) => nm_cl va vi g.c i x hx (by omega) HF.out.i (HF.out.c x (List.mem_of_getElem? hx)) w hw
      rw [hN] at NM
      replace NM := Lib.hid NM
      replace hcl := Lib.hid hcl
      clear hN
      have k0 : wr.cell? ⟨gg, 0, none⟩ = some (.slice va g.c.length vi) := OG.out.read 0
      change va = _ at hA
      subst hA
      go_upto_region 4 with fail
      change Code.wp _ _ _ _ (wr.alloc (.cells #[sV x.n, .int .i64 x.w] 143))
      have hW := fresh1 wr (.cells #[sV x.n, .int .i64 x.w] 143)
      have OW := Lib.hid (Whole.fresh wr 143 #[sV x.n, .int .i64 x.w])
      have OG2 := OG.out.below hW OG.out.inside
      have H2 := Lib.hid (HR.out.below hW).c
      have B2 := Lib.hid (BB.out.trans (hW.mono BB.out.size))
      have D2 := Lib.hid (Br.out.trans (hW.mono Br.out.size))
      clear OG HR BB Br hW c0 c1 hb1 k0
      generalize wr.alloc (.cells #[sV x.n, .int .i64 x.w] 143) = w2 at OW OG2 H2 B2 D2 ⊢
      generalize wr.heap.size = r at OW ⊢
      have k0 : w2.cell? ⟨gg, 0, none⟩ = some (.slice (some ⟨b1, o1, none⟩) g.c.length vi) := OG2.read 0
      clear OG2
      by_cases hN0 : N = 0
      · subst hN0
        replace hcl := Lib.hid (hcl.out.trans (if_neg (by simp)))
        go_upto_region 7 with (go_at_call 158; refine (NM.out _ H2.out).mono ?_; rintro e w3 ⟨rfl, b3⟩)
        have B3 := Lib.hid (B2.out.trans (b3.mono B2.out.size))
        have D3 := Lib.hid (D2.out.trans (b3.mono D2.out.size))
        have q1 : w3.cell? ⟨r, 1, none⟩ = some (.int .i64 x.w) := (OW.out.below b3 OW.out.inside).read 1
        clear b3 B2 D2 H2 OW NM k0 H
        by_cases a1 : x.w < 1
        · obtain rfl : 1 = E := by rw [← hE.out, first_stop Z.out (by rw [hcl.out, if_pos (.inl a1)]; decide) _ hlt, hcl.out, if_pos (.inl a1)]
          clear hcl Z
          go_wp2_with fail
          go_ret
          exact ⟨rfl, B3.out⟩
        · by_cases a2 : 4 < x.w
          · obtain rfl : 1 = E := by rw [← hE.out, first_stop Z.out (by rw [hcl.out, if_pos (.inr a2)]; decide) _ hlt, hcl.out, if_pos (.inr a2)]
            clear hcl Z
            go_wp2_with fail
            go_ret
            exact ⟨rfl, B3.out⟩
          · have Z2 := Lib.hid ((first_next Z.out).trans (by rw [hcl.out, if_neg (by omega)]))
            clear hcl Z hE
            go_wp2_with fail
            go_roundw
            case rel => exact ⟨i + 1, hlt, by go_num, Z2, D3⟩
            case measure => simp [intOf]; omega
      · have hN1 : (N == 0) = false := by rw [beq_eq_false_iff_ne]; exact hN0
        obtain rfl : N = E := by rw [← hE.out, first_stop Z.out (by rw [hcl.out, if_pos hN0]; exact hN0) _ hlt, hcl.out, if_pos hN0]
        clear hcl Z
        go_wp2_with (go_at_call 158; refine (NM.out _ H2.out).mono ?_; rintro e w3 ⟨rfl, b3⟩)
        go_ret
        exact ⟨rfl, B2.out.trans (b3.mono B2.out.size)⟩
end Go.Proofs.YtpblpjopinllcaaGreatDoor.graph
