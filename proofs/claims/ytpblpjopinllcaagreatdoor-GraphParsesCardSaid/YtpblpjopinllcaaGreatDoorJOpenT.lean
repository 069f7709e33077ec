/-
  A time that came in, as the walk wants it.
  A graph that came in, as the walk wants it (by gen_op.py).
-/
import Derived.Test.YtpblpjopinllcaaGreatDoorJOpen
import Derived.Test.YtpblpjopinllcaaGreatDoorJOg
namespace Go.Proofs.YtpblpjopinllcaaGreatDoor.stamp
open Go.ChangeShapes Go.WideShapes Go.ChangeAt Go.RowKit
open Go.Proofs.YtpblpjopinllcaaGreatDoor.tm Go.Proofs.YtpblpjopinllcaaGreatDoor.opened Go.Proofs.YtpblpjopinllcaaGreatDoor.block

def timeR : Reader (Int × Int × List Int × Unit) := consR 1 (intR .u32) (consR 1 (intR .i64) (consR 3 (arrR 3 1 (intR .u32)) nilR))
set_option maxRecDepth 100000 in
theorem opens_time : Opens Tryz.prog 63 timeR :=
  opens_struct Tryz.underlying63 (by kernel_rfl) (by kernel_rfl) (opensFs_cons (opens_int Tryz.underlying49) (m := 1) (by kernel_rfl) (opensFs_cons (opens_int Tryz.underlying3) (m := 1) (by kernel_rfl) (opensFs_cons (opens_array (n := 3) (m := 1) Tryz.underlying51 (by kernel_rfl) (by kernel_rfl) (opens_int Tryz.underlying49)) (m := 3) (by kernel_rfl) opensFs_nil)))
set_option maxRecDepth 100000 in
theorem time_cells {w : World} {cs : List Value} {p : Int × Int × List Int × Unit} (h : timeR w cs p) : ∃ t : Tm, t.In ∧ cs = #[.int .u32 t.e, .int .i64 t.d, .int .u32 t.a, .int .u32 t.b, .int .u32 t.c].toList := by
  obtain ⟨⟨h1, w1⟩, ⟨h2, w2⟩, ⟨l1, l2, h3⟩, h4⟩ := h
  obtain ⟨e, d, l, u⟩ := p
  dsimp only at *
  match l, l2 with
  | [x, y, z], _ =>
    obtain ⟨k0, v0⟩ := h3 0 x rfl
    obtain ⟨k1, v1⟩ := h3 1 y rfl
    obtain ⟨k2, v2⟩ := h3 2 z rfl
    obtain ⟨a0, a1⟩ := bounds_u32 w1
    obtain ⟨a2, a3⟩ := bounds_i64 w2
    obtain ⟨a4, a5⟩ := bounds_u32 v0
    obtain ⟨a6, a7⟩ := bounds_u32 v1
    obtain ⟨a8, a9⟩ := bounds_u32 v2
    refine ⟨⟨e, d, x, y, z⟩, ⟨a0, by omega, a2, a3, a4, by omega, a6, by omega, a8, by omega⟩, ?_⟩
    unfold nilR at h4
    match cs, h1 with
    | c0 :: cs, h1 =>
      simp at h1
      subst h1
      match cs, h2 with
      | c1 :: cs, h2 =>
        simp at h2
        subst h2
        match cs, k0, k1, k2, h4, l1 with
        | [c2, c3, c4], k0, k1, k2, _, _ => simp at k0 k1 k2; subst k0; subst k1; subst k2; rfl
set_option maxRecDepth 100000 in
theorem top_time {w : World} {r : Reach} {b : Nat} {v : Value} {p : Int × Int × List Int × Unit} (hv : Value.okWide Tryz.prog w r b 63 v) (h : timeR w v.cells.toList p) : ∃ t : Tm, t.In ∧ v = .agg #[.int .u32 t.e, .int .i64 t.d, .int .u32 t.a, .int .u32 t.b, .int .u32 t.c] := by
  obtain ⟨t, i, ht⟩ := time_cells h
  refine ⟨t, i, ?_⟩
  rw [top_struct Tryz.underlying63 hv]
  congr 1
  exact Array.toList_inj.1 ht
end Go.Proofs.YtpblpjopinllcaaGreatDoor.stamp
namespace Go.Proofs.YtpblpjopinllcaaGreatDoor.graph
open Go.ChangeShapes Go.WideShapes Go.ChangeAt Go.RowKit
open Go.Proofs.YtpblpjopinllcaaGreatDoor.opened Go.Proofs.YtpblpjopinllcaaGreatDoor.block Go.Proofs.YtpblpjopinllcaaGreatDoor.words
theorem elemR {α : Type} {R : Reader α} {w : World} {cs : List Value} {m bytes : Nat} {q : Row α} (h : sliceR m bytes R w cs q) : ∀ a ∈ q.elems, ∃ cs', R w cs' a := by
  intro a ha
  obtain ⟨i, hi⟩ := List.getElem?_of_mem ha
  obtain ⟨_, hl, _, _, _, hcase⟩ := h
  rcases hcase with ⟨_, h0, _⟩ | ⟨ad, hp, hat⟩
  · have : q.elems = [] := List.eq_nil_of_length_eq_zero (by omega)
    rw [this] at hi
    simp at hi
  · obtain ⟨cs', -, -, hR⟩ := hat i a hi
    exact ⟨cs', hR⟩
def clR : Reader (ByteArray × Int × Unit) := consR 1 strR (consR 1 (intR .i64) nilR)
set_option maxRecDepth 100000 in
theorem opens_cl : Opens Tryz.prog 137 clR :=
  opens_struct Tryz.underlying137 (by kernel_rfl) (by kernel_rfl) (opensFs_cons (opens_str Tryz.underlying9) (m := 1) (by kernel_rfl) (opensFs_cons (opens_int Tryz.underlying3) (m := 1) (by kernel_rfl) opensFs_nil))
set_option maxRecDepth 100000 in
theorem opens_cls : Opens Tryz.prog 31 (sliceR 2 24 clR) := opens_slice Tryz.underlying31 (m := 2) (bytes := 24) (by kernel_rfl) (by kernel_rfl) opens_cl
def clOf (p : ByteArray × Int × Unit) : Cl := ⟨p.1.data.toList, p.2.1⟩
theorem cl_of {w : World} {cs : List Value} {p : ByteArray × Int × Unit} (h : clR w cs p) : (I64 (clOf p).w) ∧ cs = cCl (clOf p) := by
  obtain ⟨⟨h0, w0⟩, ⟨h1, w1⟩, hz⟩ := h
  have u1 := bounds_i64 w1
  refine ⟨u1, ?_⟩
  unfold nilR at hz
  match cs, h0, h1, hz with
  | [c0, c1], h0, h1, _ =>
    simp at h0 h1
    subst h0 h1
    simp [cCl, clOf, sV]
theorem row_cl {w : World} {cs : List Value} {q : Row (ByteArray × Int × Unit)} (h : sliceR 2 24 clR w cs q) : (∀ x ∈ q.elems.map clOf, I64 x.w) ∧ Lg 2 cCl w q.ptr (q.elems.map clOf) ∧ q.val = .slice q.ptr (q.elems.map clOf).length q.cap := by
  refine ⟨fun x hx => ?_, ?_, by rw [row_val h, List.length_map]⟩
  · obtain ⟨a, ha, rfl⟩ := List.mem_map.1 hx
    obtain ⟨cs', hcs⟩ := elemR h a ha
    exact (cl_of hcs).1
  · have := liesN_of (f := fun a => cCl (clOf a)) (fun w cs a ha => (cl_of ha).2) (by omega) h
    unfold Lg
    rw [List.map_map]
    exact this
def loR : Reader (ByteArray × Int × Int × Unit) := consR 1 strR (consR 1 (intR .i64) (consR 1 (intR .i64) nilR))
set_option maxRecDepth 100000 in
theorem opens_lo : Opens Tryz.prog 139 loR :=
  opens_struct Tryz.underlying139 (by kernel_rfl) (by kernel_rfl) (opensFs_cons (opens_str Tryz.underlying9) (m := 1) (by kernel_rfl) (opensFs_cons (opens_int Tryz.underlying3) (m := 1) (by kernel_rfl) (opensFs_cons (opens_int Tryz.underlying3) (m := 1) (by kernel_rfl) opensFs_nil)))
set_option maxRecDepth 100000 in
theorem opens_los : Opens Tryz.prog 32 (sliceR 3 32 loR) := opens_slice Tryz.underlying32 (m := 3) (bytes := 32) (by kernel_rfl) (by kernel_rfl) opens_lo
def loOf (p : ByteArray × Int × Int × Unit) : Lo := ⟨p.1.data.toList, p.2.1, p.2.2.1⟩
theorem lo_of {w : World} {cs : List Value} {p : ByteArray × Int × Int × Unit} (h : loR w cs p) : (I64 (loOf p).u ∧ I64 (loOf p).r) ∧ cs = cLo (loOf p) := by
  obtain ⟨⟨h0, w0⟩, ⟨h1, w1⟩, ⟨h2, w2⟩, hz⟩ := h
  have u1 := bounds_i64 w1
  have u2 := bounds_i64 w2
  refine ⟨⟨u1, u2⟩, ?_⟩
  unfold nilR at hz
  match cs, h0, h1, h2, hz with
  | [c0, c1, c2], h0, h1, h2, _ =>
    simp at h0 h1 h2
    subst h0 h1 h2
    simp [cLo, loOf, sV]
theorem row_lo {w : World} {cs : List Value} {q : Row (ByteArray × Int × Int × Unit)} (h : sliceR 3 32 loR w cs q) : (∀ x ∈ q.elems.map loOf, I64 x.u ∧ I64 x.r) ∧ Lg 3 cLo w q.ptr (q.elems.map loOf) ∧ q.val = .slice q.ptr (q.elems.map loOf).length q.cap := by
  refine ⟨fun x hx => ?_, ?_, by rw [row_val h, List.length_map]⟩
  · obtain ⟨a, ha, rfl⟩ := List.mem_map.1 hx
    obtain ⟨cs', hcs⟩ := elemR h a ha
    exact (lo_of hcs).1
  · have := liesN_of (f := fun a => cLo (loOf a)) (fun w cs a ha => (lo_of ha).2) (by omega) h
    unfold Lg
    rw [List.map_map]
    exact this
def oqR : Reader (ByteArray × Int × Int × Int × Int × Int × Unit) := consR 1 strR (consR 1 (intR .i64) (consR 1 (intR .i64) (consR 1 (intR .i64) (consR 1 (intR .i64) (consR 1 (intR .i64) nilR)))))
set_option maxRecDepth 100000 in
theorem opens_oq : Opens Tryz.prog 141 oqR :=
  opens_struct Tryz.underlying141 (by kernel_rfl) (by kernel_rfl) (opensFs_cons (opens_str Tryz.underlying9) (m := 1) (by kernel_rfl) (opensFs_cons (opens_int Tryz.underlying3) (m := 1) (by kernel_rfl) (opensFs_cons (opens_int Tryz.underlying3) (m := 1) (by kernel_rfl) (opensFs_cons (opens_int Tryz.underlying3) (m := 1) (by kernel_rfl) (opensFs_cons (opens_int Tryz.underlying2) (m := 1) (by kernel_rfl) (opensFs_cons (opens_int Tryz.underlying2) (m := 1) (by kernel_rfl) opensFs_nil))))))
set_option maxRecDepth 100000 in
theorem opens_oqs : Opens Tryz.prog 33 (sliceR 6 56 oqR) := opens_slice Tryz.underlying33 (m := 6) (bytes := 56) (by kernel_rfl) (by kernel_rfl) opens_oq
def oqOf (p : ByteArray × Int × Int × Int × Int × Int × Unit) : Oq := ⟨p.1.data.toList, p.2.1, p.2.2.1, p.2.2.2.1, p.2.2.2.2.1, p.2.2.2.2.2.1⟩
theorem oq_of {w : World} {cs : List Value} {p : ByteArray × Int × Int × Int × Int × Int × Unit} (h : oqR w cs p) : (I64 (oqOf p).k ∧ I64 (oqOf p).l ∧ I64 (oqOf p).a ∧ I64 (oqOf p).x ∧ I64 (oqOf p).y) ∧ cs = cOq (oqOf p) := by
  obtain ⟨⟨h0, w0⟩, ⟨h1, w1⟩, ⟨h2, w2⟩, ⟨h3, w3⟩, ⟨h4, w4⟩, ⟨h5, w5⟩, hz⟩ := h
  have u1 := bounds_i64 w1
  have u2 := bounds_i64 w2
  have u3 := bounds_i64 w3
  have u4 := bounds_i64 w4
  have u5 := bounds_i64 w5
  refine ⟨⟨u1, u2, u3, u4, u5⟩, ?_⟩
  unfold nilR at hz
  match cs, h0, h1, h2, h3, h4, h5, hz with
  | [c0, c1, c2, c3, c4, c5], h0, h1, h2, h3, h4, h5, _ =>
    simp at h0 h1 h2 h3 h4 h5
    subst h0 h1 h2 h3 h4 h5
    simp [cOq, oqOf, sV]
theorem row_oq {w : World} {cs : List Value} {q : Row (ByteArray × Int × Int × Int × Int × Int × Unit)} (h : sliceR 6 56 oqR w cs q) : (∀ x ∈ q.elems.map oqOf, I64 x.k ∧ I64 x.l ∧ I64 x.a ∧ I64 x.x ∧ I64 x.y) ∧ Lg 6 cOq w q.ptr (q.elems.map oqOf) ∧ q.val = .slice q.ptr (q.elems.map oqOf).length q.cap := by
  refine ⟨fun x hx => ?_, ?_, by rw [row_val h, List.length_map]⟩
  · obtain ⟨a, ha, rfl⟩ := List.mem_map.1 hx
    obtain ⟨cs', hcs⟩ := elemR h a ha
    exact (oq_of hcs).1
  · have := liesN_of (f := fun a => cOq (oqOf a)) (fun w cs a ha => (oq_of ha).2) (by omega) h
    unfold Lg
    rw [List.map_map]
    exact this
def chR : Reader (Int × Int × Unit) := consR 1 (intR .i64) (consR 1 (intR .i64) nilR)
set_option maxRecDepth 100000 in
theorem opens_ch : Opens Tryz.prog 142 chR :=
  opens_struct Tryz.underlying142 (by kernel_rfl) (by kernel_rfl) (opensFs_cons (opens_int Tryz.underlying3) (m := 1) (by kernel_rfl) (opensFs_cons (opens_int Tryz.underlying3) (m := 1) (by kernel_rfl) opensFs_nil))
set_option maxRecDepth 100000 in
theorem opens_chs : Opens Tryz.prog 34 (sliceR 2 16 chR) := opens_slice Tryz.underlying34 (m := 2) (bytes := 16) (by kernel_rfl) (by kernel_rfl) opens_ch
def chOf (p : Int × Int × Unit) : Ch := ⟨p.1, p.2.1⟩
theorem ch_of {w : World} {cs : List Value} {p : Int × Int × Unit} (h : chR w cs p) : (I64 (chOf p).f ∧ I64 (chOf p).t) ∧ cs = cCh (chOf p) := by
  obtain ⟨⟨h0, w0⟩, ⟨h1, w1⟩, hz⟩ := h
  have u0 := bounds_i64 w0
  have u1 := bounds_i64 w1
  refine ⟨⟨u0, u1⟩, ?_⟩
  unfold nilR at hz
  match cs, h0, h1, hz with
  | [c0, c1], h0, h1, _ =>
    simp at h0 h1
    subst h0 h1
    simp [cCh, chOf]
theorem row_ch {w : World} {cs : List Value} {q : Row (Int × Int × Unit)} (h : sliceR 2 16 chR w cs q) : (∀ x ∈ q.elems.map chOf, I64 x.f ∧ I64 x.t) ∧ Lg 2 cCh w q.ptr (q.elems.map chOf) ∧ q.val = .slice q.ptr (q.elems.map chOf).length q.cap := by
  refine ⟨fun x hx => ?_, ?_, by rw [row_val h, List.length_map]⟩
  · obtain ⟨a, ha, rfl⟩ := List.mem_map.1 hx
    obtain ⟨cs', hcs⟩ := elemR h a ha
    exact (ch_of hcs).1
  · have := liesN_of (f := fun a => cCh (chOf a)) (fun w cs a ha => (ch_of ha).2) (by omega) h
    unfold Lg
    rw [List.map_map]
    exact this
def grR : Reader (Row (ByteArray × Int × Unit) × Row (ByteArray × Int × Int × Unit) × Row (ByteArray × Int × Int × Int × Int × Int × Unit) × Row (Int × Int × Unit) × Unit) := consR 1 (sliceR 2 24 clR) (consR 1 (sliceR 3 32 loR) (consR 1 (sliceR 6 56 oqR) (consR 1 (sliceR 2 16 chR) nilR)))
set_option maxRecDepth 100000 in
theorem opens_gr : Opens Tryz.prog 36 grR :=
  opens_struct Tryz.underlying36 (by kernel_rfl) (by kernel_rfl) (opensFs_cons opens_cls (m := 1) (by kernel_rfl) (opensFs_cons opens_los (m := 1) (by kernel_rfl) (opensFs_cons opens_oqs (m := 1) (by kernel_rfl) (opensFs_cons opens_chs (m := 1) (by kernel_rfl) opensFs_nil))))
set_option maxRecDepth 100000 in
/-- A graph that came in. -/
theorem top_gr {w : World} {r : Reach} {b : Nat} {v : Value} {q : Row (ByteArray × Int × Unit) × Row (ByteArray × Int × Int × Unit) × Row (ByteArray × Int × Int × Int × Int × Int × Unit) × Row (Int × Int × Unit) × Unit} (hv : Value.okWide Tryz.prog w r b 36 v) (h : grR w v.cells.toList q) :
    ∃ (V : Gv) (g : Gr), v = gV V g ∧ g.In ∧ Lies4 w V g := by
  have hv := top_struct Tryz.underlying36 hv
  obtain ⟨h0, h1, h2, h3, h4⟩ := h
  unfold nilR at h4
  obtain ⟨i0, l0, e0⟩ := row_cl h0
  obtain ⟨i1, l1, e1⟩ := row_lo h1
  obtain ⟨i2, l2, e2⟩ := row_oq h2
  obtain ⟨i3, l3, e3⟩ := row_ch h3
  have k0 := h0.1
  have k1 := h1.1
  have k2 := h2.1
  have k3 := h3.1
  refine ⟨⟨q.1.ptr, q.2.1.ptr, q.2.2.1.ptr, q.2.2.2.1.ptr, q.1.cap, q.2.1.cap, q.2.2.1.cap, q.2.2.2.1.cap⟩, ⟨q.1.elems.map clOf, q.2.1.elems.map loOf, q.2.2.1.elems.map oqOf, q.2.2.2.1.elems.map chOf⟩, ?_, ⟨i0, i1, i2, i3⟩, ⟨l0, l1, l2, l3⟩⟩
  unfold gV
  dsimp only
  rw [← e0, ← e1, ← e2, ← e3]
  have : v.cells = #[q.1.val, q.2.1.val, q.2.2.1.val, q.2.2.2.1.val] := by
    apply Array.toList_inj.1
    match hc : v.cells.toList, k0, k1, k2, k3, h4 with
    | [c0, c1, c2, c3], k0, k1, k2, k3, _ =>
      simp at k0 k1 k2 k3
      rw [k0, k1, k2, k3]
    | [], k0, _, _, _, _ => simp at k0
    | [_], _, k1, _, _, _ => simp at k1
    | [_, _], _, _, k2, _, _ => simp at k2
    | [_, _, _], _, _, _, k3, _ => simp at k3
    | _ :: _ :: _ :: _ :: _ :: _, _, _, _, _, h4 => simp at h4
  rw [hv, this]
end Go.Proofs.YtpblpjopinllcaaGreatDoor.graph
