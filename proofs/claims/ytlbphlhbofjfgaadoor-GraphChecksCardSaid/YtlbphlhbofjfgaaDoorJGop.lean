/-
  A graph that came in, as the walk wants it (by gen_op.py).
  The frame of the cards: what the listed variables give the walks, a law whose arguments are only read.
-/
import Derived.Test.YtlbphlhbofjfgaaDoorJGk
import Derived.Test.YtlbphlhbofjfgaaDoorJOpenT
import Derived.Test.YtlbphlhbofjfgaaDoorRows
import Derived.Test.YtlbphlhbofjfgaaDoorJGw
import Derived.Test.YtlbphlhbofjfgaaDoorJTb
import Derived.ProofKit
import Derived.OpenShut
import Derived.LaidMore
import Derived.Lay
import Derived.Stop.Joined
import Derived.Stop.LaidErr
import Derived.Shelf.Vars
import Derived.Handed
namespace Go.Proofs.YtlbphlhbofjfgaaDoor.graph
open Go.ChangeShapes Go.WideShapes Go.ChangeAt Go.RowKit
open Go.Proofs.YtlbphlhbofjfgaaDoor.opened Go.Proofs.YtlbphlhbofjfgaaDoor.block Go.Proofs.YtlbphlhbofjfgaaDoor.words
theorem elemR {α : Type} {R : Reader α} {w : World} {cs : List Value} {m bytes : Nat} {q : Row α} (h : sliceR m bytes R w cs q) : ∀ a ∈ q.elems, ∃ cs', R w cs' a := by
  intro a ha
  obtain ⟨i, hi⟩ := List.getElem?_of_mem ha
  obtain ⟨_, hl, _, _, _, hcase⟩ := h
  rcases hcase with ⟨_, h0, _⟩ | ⟨ad, hp, hat⟩
  · have : q.elems = [] := List.eq_nil_of_length_eq_zero (by omega)
    rw [this] at hi
    simp at hi
  · obtain ⟨cs', -, -, hR⟩ := hat i a hi
    exact ⟨cs', hR⟩
def clR : Reader (ByteArray × Int × Unit) := consR 1 strR (consR 1 (intR .i64) nilR)
set_option maxRecDepth 100000 in
theorem opens_cl : Opens Tryd.prog 67 clR :=
  opens_struct Tryd.underlying67 (by kernel_rfl) (by kernel_rfl) (opensFs_cons (opens_str Tryd.underlying9) (m := 1) (by kernel_rfl) (opensFs_cons (opens_int Tryd.underlying3) (m := 1) (by kernel_rfl) opensFs_nil))
set_option maxRecDepth 100000 in
theorem opens_cls : Opens Tryd.prog 22 (sliceR 2 24 clR) := opens_slice Tryd.underlying22 (m := 2) (bytes := 24) (by kernel_rfl) (by kernel_rfl) opens_cl
def clOf (p : ByteArray × Int × Unit) : Cl := ⟨p.1.data.toList, p.2.1⟩
theorem cl_of {w : World} {cs : List Value} {p : ByteArray × Int × Unit} (h : clR w cs p) : (I64 (clOf p).w) ∧ cs = cCl (clOf p) := by
  obtain ⟨⟨h0, w0⟩, ⟨h1, w1⟩, hz⟩ := h
  have u1 := bounds_i64 w1
  refine ⟨u1, ?_⟩
  unfold nilR at hz
  match cs, h0, h1, hz with
  | [c0, c1], h0, h1, _ =>
    simp at h0 h1
    subst h0 h1
    simp [cCl, clOf, sV]
theorem row_cl {w : World} {cs : List Value} {q : Row (ByteArray × Int × Unit)} (h : sliceR 2 24 clR w cs q) : (∀ x ∈ q.elems.map clOf, I64 x.w) ∧ Lg 2 cCl w q.ptr (q.elems.map clOf) ∧ q.val = .slice q.ptr (q.elems.map clOf).length q.cap := by
  refine ⟨fun x hx => ?_, ?_, by rw [row_val h, List.length_map]⟩
  · obtain ⟨a, ha, rfl⟩ := List.mem_map.1 hx
    obtain ⟨cs', hcs⟩ := elemR h a ha
    exact (cl_of hcs).1
  · have := liesN_of (f := fun a => cCl (clOf a)) (fun w cs a ha => (cl_of ha).2) (by omega) h
    unfold Lg
    rw [List.map_map]
    exact this
def loR : Reader (ByteArray × Int × Int × Unit) := consR 1 strR (consR 1 (intR .i64) (consR 1 (intR .i64) nilR))
set_option maxRecDepth 100000 in
theorem opens_lo : Opens Tryd.prog 69 loR :=
  opens_struct Tryd.underlying69 (by kernel_rfl) (by kernel_rfl) (opensFs_cons (opens_str Tryd.underlying9) (m := 1) (by kernel_rfl) (opensFs_cons (opens_int Tryd.underlying3) (m := 1) (by kernel_rfl) (opensFs_cons (opens_int Tryd.underlying3) (m := 1) (by kernel_rfl) opensFs_nil)))
set_option maxRecDepth 100000 in
theorem opens_los : Opens Tryd.prog 23 (sliceR 3 32 loR) := opens_slice Tryd.underlying23 (m := 3) (bytes := 32) (by kernel_rfl) (by kernel_rfl) opens_lo
def loOf (p : ByteArray × Int × Int × Unit) : Lo := ⟨p.1.data.toList, p.2.1, p.2.2.1⟩
theorem lo_of {w : World} {cs : List Value} {p : ByteArray × Int × Int × Unit} (h : loR w cs p) : (I64 (loOf p).u ∧ I64 (loOf p).r) ∧ cs = cLo (loOf p) := by
  obtain ⟨⟨h0, w0⟩, ⟨h1, w1⟩, ⟨h2, w2⟩, hz⟩ := h
  have u1 := bounds_i64 w1
  have u2 := bounds_i64 w2
  refine ⟨⟨u1, u2⟩, ?_⟩
  unfold nilR at hz
  match cs, h0, h1, h2, hz with
  | [c0, c1, c2], h0, h1, h2, _ =>
    simp at h0 h1 h2
    subst h0 h1 h2
    simp [cLo, loOf, sV]
theorem row_lo {w : World} {cs : List Value} {q : Row (ByteArray × Int × Int × Unit)} (h : sliceR 3 32 loR w cs q) : (∀ x ∈ q.elems.map loOf, I64 x.u ∧ I64 x.r) ∧ Lg 3 cLo w q.ptr (q.elems.map loOf) ∧ q.val = .slice q.ptr (q.elems.map loOf).length q.cap := by
  refine ⟨fun x hx => ?_, ?_, by rw [row_val h, List.length_map]⟩
  · obtain ⟨a, ha, rfl⟩ := List.mem_map.1 hx
    obtain ⟨cs', hcs⟩ := elemR h a ha
    exact (lo_of hcs).1
  · have := liesN_of (f := fun a => cLo (loOf a)) (fun w cs a ha => (lo_of ha).2) (by omega) h
    unfold Lg
    rw [List.map_map]
    exact this
def oqR : Reader (ByteArray × Int × Int × Int × Int × Int × Unit) := consR 1 strR (consR 1 (intR .i64) (consR 1 (intR .i64) (consR 1 (intR .i64) (consR 1 (intR .i64) (consR 1 (intR .i64) nilR)))))
set_option maxRecDepth 100000 in
theorem opens_oq : Opens Tryd.prog 71 oqR :=
  opens_struct Tryd.underlying71 (by kernel_rfl) (by kernel_rfl) (opensFs_cons (opens_str Tryd.underlying9) (m := 1) (by kernel_rfl) (opensFs_cons (opens_int Tryd.underlying3) (m := 1) (by kernel_rfl) (opensFs_cons (opens_int Tryd.underlying3) (m := 1) (by kernel_rfl) (opensFs_cons (opens_int Tryd.underlying3) (m := 1) (by kernel_rfl) (opensFs_cons (opens_int Tryd.underlying2) (m := 1) (by kernel_rfl) (opensFs_cons (opens_int Tryd.underlying2) (m := 1) (by kernel_rfl) opensFs_nil))))))
set_option maxRecDepth 100000 in
theorem opens_oqs : Opens Tryd.prog 24 (sliceR 6 56 oqR) := opens_slice Tryd.underlying24 (m := 6) (bytes := 56) (by kernel_rfl) (by kernel_rfl) opens_oq
def oqOf (p : ByteArray × Int × Int × Int × Int × Int × Unit) : Oq := ⟨p.1.data.toList, p.2.1, p.2.2.1, p.2.2.2.1, p.2.2.2.2.1, p.2.2.2.2.2.1⟩
theorem oq_of {w : World} {cs : List Value} {p : ByteArray × Int × Int × Int × Int × Int × Unit} (h : oqR w cs p) : (I64 (oqOf p).k ∧ I64 (oqOf p).l ∧ I64 (oqOf p).a ∧ I64 (oqOf p).x ∧ I64 (oqOf p).y) ∧ cs = cOq (oqOf p) := by
  obtain ⟨⟨h0, w0⟩, ⟨h1, w1⟩, ⟨h2, w2⟩, ⟨h3, w3⟩, ⟨h4, w4⟩, ⟨h5, w5⟩, hz⟩ := h
  have u1 := bounds_i64 w1
  have u2 := bounds_i64 w2
  have u3 := bounds_i64 w3
  have u4 := bounds_i64 w4
  have u5 := bounds_i64 w5
  refine ⟨⟨u1, u2, u3, u4, u5⟩, ?_⟩
  unfold nilR at hz
  match cs, h0, h1, h2, h3, h4, h5, hz with
  | [c0, c1, c2, c3, c4, c5], h0, h1, h2, h3, h4, h5, _ =>
    simp at h0 h1 h2 h3 h4 h5
    subst h0 h1 h2 h3 h4 h5
    simp [cOq, oqOf, sV]
theorem row_oq {w : World} {cs : List Value} {q : Row (ByteArray × Int × Int × Int × Int × Int × Unit)} (h : sliceR 6 56 oqR w cs q) : (∀ x ∈ q.elems.map oqOf, I64 x.k ∧ I64 x.l ∧ I64 x.a ∧ I64 x.x ∧ I64 x.y) ∧ Lg 6 cOq w q.ptr (q.elems.map oqOf) ∧ q.val = .slice q.ptr (q.elems.map oqOf).length q.cap := by
  refine ⟨fun x hx => ?_, ?_, by rw [row_val h, List.length_map]⟩
  · obtain ⟨a, ha, rfl⟩ := List.mem_map.1 hx
    obtain ⟨cs', hcs⟩ := elemR h a ha
    exact (oq_of hcs).1
  · have := liesN_of (f := fun a => cOq (oqOf a)) (fun w cs a ha => (oq_of ha).2) (by omega) h
    unfold Lg
    rw [List.map_map]
    exact this
def chR : Reader (Int × Int × Unit) := consR 1 (intR .i64) (consR 1 (intR .i64) nilR)
set_option maxRecDepth 100000 in
theorem opens_ch : Opens Tryd.prog 76 chR :=
  opens_struct Tryd.underlying76 (by kernel_rfl) (by kernel_rfl) (opensFs_cons (opens_int Tryd.underlying3) (m := 1) (by kernel_rfl) (opensFs_cons (opens_int Tryd.underlying3) (m := 1) (by kernel_rfl) opensFs_nil))
set_option maxRecDepth 100000 in
theorem opens_chs : Opens Tryd.prog 25 (sliceR 2 16 chR) := opens_slice Tryd.underlying25 (m := 2) (bytes := 16) (by kernel_rfl) (by kernel_rfl) opens_ch
def chOf (p : Int × Int × Unit) : Ch := ⟨p.1, p.2.1⟩
theorem ch_of {w : World} {cs : List Value} {p : Int × Int × Unit} (h : chR w cs p) : (I64 (chOf p).f ∧ I64 (chOf p).t) ∧ cs = cCh (chOf p) := by
  obtain ⟨⟨h0, w0⟩, ⟨h1, w1⟩, hz⟩ := h
  have u0 := bounds_i64 w0
  have u1 := bounds_i64 w1
  refine ⟨⟨u0, u1⟩, ?_⟩
  unfold nilR at hz
  match cs, h0, h1, hz with
  | [c0, c1], h0, h1, _ =>
    simp at h0 h1
    subst h0 h1
    simp [cCh, chOf]
theorem row_ch {w : World} {cs : List Value} {q : Row (Int × Int × Unit)} (h : sliceR 2 16 chR w cs q) : (∀ x ∈ q.elems.map chOf, I64 x.f ∧ I64 x.t) ∧ Lg 2 cCh w q.ptr (q.elems.map chOf) ∧ q.val = .slice q.ptr (q.elems.map chOf).length q.cap := by
  refine ⟨fun x hx => ?_, ?_, by rw [row_val h, List.length_map]⟩
  · obtain ⟨a, ha, rfl⟩ := List.mem_map.1 hx
    obtain ⟨cs', hcs⟩ := elemR h a ha
    exact (ch_of hcs).1
  · have := liesN_of (f := fun a => cCh (chOf a)) (fun w cs a ha => (ch_of ha).2) (by omega) h
    unfold Lg
    rw [List.map_map]
    exact this
def grR : Reader (Row (ByteArray × Int × Unit) × Row (ByteArray × Int × Int × Unit) × Row (ByteArray × Int × Int × Int × Int × Int × Unit) × Row (Int × Int × Unit) × Unit) := consR 1 (sliceR 2 24 clR) (consR 1 (sliceR 3 32 loR) (consR 1 (sliceR 6 56 oqR) (consR 1 (sliceR 2 16 chR) nilR)))
set_option maxRecDepth 100000 in
theorem opens_gr : Opens Tryd.prog 27 grR :=
  opens_struct Tryd.underlying27 (by kernel_rfl) (by kernel_rfl) (opensFs_cons opens_cls (m := 1) (by kernel_rfl) (opensFs_cons opens_los (m := 1) (by kernel_rfl) (opensFs_cons opens_oqs (m := 1) (by kernel_rfl) (opensFs_cons opens_chs (m := 1) (by kernel_rfl) opensFs_nil))))
set_option maxRecDepth 100000 in
/-- A graph that came in. -/
theorem top_gr {w : World} {r : Reach} {b : Nat} {v : Value} {q : Row (ByteArray × Int × Unit) × Row (ByteArray × Int × Int × Unit) × Row (ByteArray × Int × Int × Int × Int × Int × Unit) × Row (Int × Int × Unit) × Unit} (hv : Value.okWide Tryd.prog w r b 27 v) (h : grR w v.cells.toList q) :
    ∃ (V : Gv) (g : Gr), v = gV V g ∧ g.In ∧ Lies4 w V g := by
  have hv := top_struct Tryd.underlying27 hv
  obtain ⟨h0, h1, h2, h3, h4⟩ := h
  unfold nilR at h4
  obtain ⟨i0, l0, e0⟩ := row_cl h0
  obtain ⟨i1, l1, e1⟩ := row_lo h1
  obtain ⟨i2, l2, e2⟩ := row_oq h2
  obtain ⟨i3, l3, e3⟩ := row_ch h3
  have k0 := h0.1
  have k1 := h1.1
  have k2 := h2.1
  have k3 := h3.1
  refine ⟨⟨q.1.ptr, q.2.1.ptr, q.2.2.1.ptr, q.2.2.2.1.ptr, q.1.cap, q.2.1.cap, q.2.2.1.cap, q.2.2.2.1.cap⟩, ⟨q.1.elems.map clOf, q.2.1.elems.map loOf, q.2.2.1.elems.map oqOf, q.2.2.2.1.elems.map chOf⟩, ?_, ⟨i0, i1, i2, i3⟩, ⟨l0, l1, l2, l3⟩⟩
  unfold gV
  dsimp only
  rw [← e0, ← e1, ← e2, ← e3]
  have : v.cells = #[q.1.val, q.2.1.val, q.2.2.1.val, q.2.2.2.1.val] := by
    apply Array.toList_inj.1
    match hc : v.cells.toList, k0, k1, k2, k3, h4 with
    | [c0, c1, c2, c3], k0, k1, k2, k3, _ =>
      simp at k0 k1 k2 k3
      rw [k0, k1, k2, k3]
    | [], k0, _, _, _, _ => simp at k0
    | [_], _, k1, _, _, _ => simp at k1
    | [_, _], _, _, k2, _, _ => simp at k2
    | [_, _, _], _, _, _, k3, _ => simp at k3
    | _ :: _ :: _ :: _ :: _ :: _, _, _, _, _, h4 => simp at h4
  rw [hv, this]
end Go.Proofs.YtlbphlhbofjfgaaDoor.graph
namespace Go.Proofs.YtlbphlhbofjfgaaDoor.graph
open Go.ChangeShapes Go.WideShapes Go.ChangeAt Go.RowKit
open Go.Proofs.YtlbphlhbofjfgaaDoor.opened Go.Proofs.YtlbphlhbofjfgaaDoor.tabs Go.Proofs.YtlbphlhbofjfgaaDoor.words
theorem gKinds : Tryd.prog.globalNamed "watershed/graph.kinds" = some 0 := by kernel_rfl
theorem gKindsT : (Tryd.prog.globals[0]?).map (·.type) = some 113 := by kernel_rfl
theorem knows_span (a b : Int) : Knows Tryd.prog 110 (.agg [.lit (.int .i64 a), .lit (.int .i64 b)]) [.int .i64 a, .int .i64 b] :=
  knows_struct Tryd.underlying110 (ts := [2, 2]) (by kernel_rfl) (by kernel_rfl) (knowsFs_cons (knows_int Tryd.underlying2 a) (knowsFs_cons (knows_int Tryd.underlying2 b) knowsFs_nil))
theorem knows_kind (l : List UInt8) (a b c d e f : Int) : Knows Tryd.prog 112 (.agg [.lit (.string l), .lit (.int .i64 a), .lit (.int .i64 b), .agg [.lit (.int .i64 c), .lit (.int .i64 d)], .agg [.lit (.int .i64 e), .lit (.int .i64 f)]]) [sV l, .int .i64 a, .int .i64 b, .int .i64 c, .int .i64 d, .int .i64 e, .int .i64 f] :=
  knows_struct Tryd.underlying112 (ts := [9, 3, 3, 110, 110]) (by kernel_rfl) (by kernel_rfl) (knowsFs_cons (knows_str Tryd.underlying9 l) (knowsFs_cons (knows_int Tryd.underlying3 a) (knowsFs_cons (knows_int Tryd.underlying3 b) (knowsFs_cons (knows_span c d) (knowsFs_cons (knows_span e f) knowsFs_nil)))))
/-- The listed table of kinds is what the walks want. -/
theorem kt_of {W : World} {rest : List (String × DataW Unit)} (h : laidMet Tryd.prog (("watershed/graph.kinds", Rows.laid_watershed_graph_kinds) :: rest) W) : KT W := by
  obtain ⟨hlt, hc⟩ := laid_cells gKinds gKindsT Tryd.underlying113 (n := 15) (m := 7) (by kernel_rfl) (by kernel_rfl) (by decide) (by decide) h
  refine ⟨hlt, fun k hk i hi => ?_⟩
  match k, hk with
  | 0, _ => exact hc 0 _ _ rfl (knows_kind _ _ _ _ _ _ _) i hi
  | 1, _ => exact hc 1 _ _ rfl (knows_kind _ _ _ _ _ _ _) i hi
  | 2, _ => exact hc 2 _ _ rfl (knows_kind _ _ _ _ _ _ _) i hi
  | 3, _ => exact hc 3 _ _ rfl (knows_kind _ _ _ _ _ _ _) i hi
  | 4, _ => exact hc 4 _ _ rfl (knows_kind _ _ _ _ _ _ _) i hi
  | 5, _ => exact hc 5 _ _ rfl (knows_kind _ _ _ _ _ _ _) i hi
  | 6, _ => exact hc 6 _ _ rfl (knows_kind _ _ _ _ _ _ _) i hi
  | 7, _ => exact hc 7 _ _ rfl (knows_kind _ _ _ _ _ _ _) i hi
  | 8, _ => exact hc 8 _ _ rfl (knows_kind _ _ _ _ _ _ _) i hi
  | 9, _ => exact hc 9 _ _ rfl (knows_kind _ _ _ _ _ _ _) i hi
  | 10, _ => exact hc 10 _ _ rfl (knows_kind _ _ _ _ _ _ _) i hi
  | 11, _ => exact hc 11 _ _ rfl (knows_kind _ _ _ _ _ _ _) i hi
  | 12, _ => exact hc 12 _ _ rfl (knows_kind _ _ _ _ _ _ _) i hi
  | 13, _ => exact hc 13 _ _ rfl (knows_kind _ _ _ _ _ _ _) i hi
  | 14, _ => exact hc 14 _ _ rfl (knows_kind _ _ _ _ _ _ _) i hi
  | k + 15, hk => omega
theorem own : ownKnob Tryd.prog.godebug = none := by kernel_rfl
theorem laidOut : laidOutB Tryd.prog = true := by kernel_rfl
set_option maxRecDepth 100000 in
/-- THE FRAME: a law over arguments that are only read, where the listed variables read as laid. -/
theorem liftG {os : Os} {f : FuncId} {fn : Func} {s : ChangeSpec} {H : Type} {enc : TypeId × Value → H} {ts : List TypeId} {dom : List PathCond} {l : List (String × DataW Unit)} {Env : World → Prop} (hEnv : ∀ W : World, W.ShapedOpen Tryd.prog → laidMetH Tryd.prog l W → Env W)
    (started : os.Started) (noInit : Tryd.prog.inits.idxOf? f = none) (hfn : Tryd.prog.funcs[f]? = some fn)
    (hts : fn.params.toList = ts) (hrB : (ts.all fun t => Tryd.prog.readableRec t && decide (t < Tryd.prog.types.size)) = true)
    (hres : fn.resultTypes = #[4]) (hv : s.vars = [])
    (hspec : ∀ ds : List (DataW H), ds.length = ts.length → s.fn H (ds ++ []) = { results := [.lit (.bool true)], args := ds })
    (witness : ∃ (w : World) (tape : Tape) (i : Input), w.os = os ∧ (w.forCall tape i).Shaped Tryd.prog ∧ i.vars = [] ∧ Input.okWide Tryd.prog (w.forCall tape i) .any w.heap.size f i ∧
      ((s.pre enc Tryd.prog fn dom false (w.forCall tape i).memory i.args ∧ laidMetH Tryd.prog l (w.forCall tape i).memory) ∧ sizedMet enc Tryd.prog fn (OpenSpec.ofChange s) false (w.forCall tape i).memory i.args) ∧ ({} : Assume).holds Tryd.prog (lone (Frame.enter Tryd.prog f i.args .normal) [] (w.forCall tape i)))
    (walk : ∀ (W : World) (args : Array Value), Env W → Fed Tryd.prog W ts args → Calls Tryd.prog f args W fun e W' => e = .returned (.bool true) ∧ Below W.heap.size W W') :
    ReturnsInHanded {} Tryd.checked os f .any (fun w args => (s.pre enc Tryd.prog fn dom false w args ∧ laidMetH Tryd.prog l w) ∧ sizedMet enc Tryd.prog fn (OpenSpec.ofChange s) false w args) (s.post enc Tryd.prog fn false true false false) := by
  have hr : ∀ t ∈ ts, Tryd.prog.readableRec t = true ∧ t < Tryd.prog.types.size := fun t ht => by
    have := List.all_eq_true.1 hrB t ht
    simpa using this
  refine returnsInHanded_of_calls own started noInit witness ?_
  intro w tape i _ hsh _ hok hpre hholds
  obtain ⟨_, _, _, fn', hfn', _, _, _, _, hval⟩ := hok
  have e : fn' = fn := Option.some.inj (hfn'.symm.trans hfn)
  subst e
  obtain ⟨⟨⟨ds, gs, before, hw, hc⟩, hx⟩, hz⟩ := hpre
  have hW := DataW.Whole.of_heap (w' := w.forCall tape i) (by rfl) hw
  have hsz := hz.weights hw
  have hL : laidMetH Tryd.prog l (w.forCall tape i) := hx.of_heap (by rfl)
  have hE := hEnv _ hsh hL
  clear hw hz hx hL hsh
  generalize w.forCall tape i = W at *
  generalize i.args = args at *
  generalize w.heap.size = base at *
  have hW' := hW
  obtain ⟨p, q, hA, hV, rfl, _, _⟩ := hW
  rw [hv] at hV
  obtain ⟨rfl, rfl⟩ := trodVars_none hV
  have hA' := hA
  rw [hts] at hA'
  obtain ⟨n1, n2, n3⟩ := trodAll_at hA'
  have hvt : (OpenSpec.ofChange s).bare.plain.varTypes Tryd.prog = [] := by
    show s.plain.varTypes Tryd.prog = []
    simp [ChangeSpec.plain, DataSpec.varTypes, hv]
  rw [hts, hvt, List.append_nil, List.append_nil] at hsz
  refine (walk W args hE ⟨by simpa using n1, fun j t v hj hjv => ?_⟩).mono fun e W' ⟨he, bel⟩ => ?_
  · have hjv' : args.toList[j]? = some v := by simpa using hjv
    obtain ⟨d, pl, hd, fuel, hf⟩ := n3 j t v hj hjv'
    refine ⟨⟨base, hval j t v (by rw [← Array.getElem?_toList, hts]; exact hj) hjv⟩, fun hO => hO enc W fuel _ _ hf (fun k hk => ?_)⟩
    have := List.all_eq_true.1 hsz _ (DataW.weights_mem_each hj hd k hk)
    simpa using this
  · subst he
    refine ChangeSpec.post_blind (v := .bool true) ?_
    refine ⟨ds, [], _, [], p, [], hW', ?_, ?_, ?_, bel.frame _, fun h => by cases h⟩
    · rw [hspec ds n2, hres]
      exact trodAll_mk1 (shut_bool Tryd.underlying4 _)
    · rw [hspec ds n2]
      have h3 := trodAll_below laidOut bel hr hA'
      rw [hts]
      exact h3
    · rw [hspec ds n2, hv]
      rfl
end Go.Proofs.YtlbphlhbofjfgaaDoor.graph
