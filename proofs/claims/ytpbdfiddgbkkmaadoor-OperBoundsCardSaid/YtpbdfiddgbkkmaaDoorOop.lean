/-
  An operator and a record that came in, as the walk wants them.
-/
import Derived.Test.YtpbdfiddgbkkmaaDoorDop
import Derived.Test.YtpbdfiddgbkkmaaDoorOon2
namespace Go.Proofs.YtpbdfiddgbkkmaaDoor.oper
open Go.ChangeShapes Go.WideShapes Go.ChangeAt Go.RowKit
open Go.Proofs.YtpbdfiddgbkkmaaDoor.opened Go.Proofs.YtpbdfiddgbkkmaaDoor.block Go.Proofs.YtpbdfiddgbkkmaaDoor.region Go.Proofs.YtpbdfiddgbkkmaaDoor.data

def odR : Reader (ByteArray × Int × Int × Int × Int × Int × Unit) := consR 1 strR (consR 1 (intR .i64) (consR 1 (intR .i64) (consR 1 (intR .i64) (consR 1 (intR .i64) (consR 1 (intR .i64) nilR)))))
set_option maxRecDepth 100000 in
theorem opens_od : Opens Tryd.prog 23 odR :=
  opens_struct Tryd.underlying23 (by kernel_rfl) (by kernel_rfl) (opensFs_cons (opens_str Tryd.underlying9) (m := 1) (by kernel_rfl) (opensFs_cons (opens_int Tryd.underlying3) (m := 1) (by kernel_rfl) (opensFs_cons (opens_int Tryd.underlying3) (m := 1) (by kernel_rfl) (opensFs_cons (opens_int Tryd.underlying3) (m := 1) (by kernel_rfl) (opensFs_cons (opens_int Tryd.underlying2) (m := 1) (by kernel_rfl) (opensFs_cons (opens_int Tryd.underlying2) (m := 1) (by kernel_rfl) opensFs_nil))))))
def odOf (p : ByteArray × Int × Int × Int × Int × Int × Unit) : Od := ⟨p.1, p.2.1, p.2.2.1, p.2.2.2.1, p.2.2.2.2.1, p.2.2.2.2.2.1⟩
set_option maxRecDepth 100000 in
theorem od_of {w : World} {cs : List Value} {p : ByteArray × Int × Int × Int × Int × Int × Unit} (h : odR w cs p) : (odOf p).In ∧ cs = (odV (odOf p)).toList := by
  obtain ⟨⟨h0, w0⟩, ⟨h1, w1⟩, ⟨h2, w2⟩, ⟨h3, w3⟩, ⟨h4, w4⟩, ⟨h5, w5⟩, hz⟩ := h
  have u1 := bounds_i64 w1
  have u4 := bounds_i64 w4
  have u5 := bounds_i64 w5
  refine ⟨⟨u1, u4, u5⟩, ?_⟩
  unfold nilR at hz
  match cs, h0, h1, h2, h3, h4, h5, hz with
  | [c0, c1, c2, c3, c4, c5], h0, h1, h2, h3, h4, h5, _ =>
    simp at h0 h1 h2 h3 h4 h5
    subst h0 h1 h2 h3 h4 h5
    simp [odOf]
set_option maxRecDepth 100000 in
theorem top_od {w : World} {r : Reach} {b : Nat} {v : Value} {p : ByteArray × Int × Int × Int × Int × Int × Unit} (hv : Value.okWide Tryd.prog w r b 23 v) (h : odR w v.cells.toList p) :
    ∃ o : Od, v = .agg (odV o) ∧ o.In := by
  have hs := top_struct Tryd.underlying23 hv
  obtain ⟨i, e⟩ := od_of h
  refine ⟨odOf p, ?_, i⟩
  rw [hs]
  have e2 := congrArg List.toArray e
  rw [Array.toArray_toList, Array.toArray_toList] at e2
  rw [e2]
set_option maxRecDepth 100000 in
theorem top_rc {w : World} {r : Reach} {b : Nat} {v : Value} {p : Int × Int × Unit} (hv : Value.okWide Tryd.prog w r b 33 v) (h : rcR w v.cells.toList p) :
    ∃ x : Rc, v = .agg #[.int .i64 x.k, .int .i64 x.v] ∧ x.In := by
  have hs := top_struct Tryd.underlying33 hv
  obtain ⟨i, e⟩ := rc_of h
  refine ⟨rcOf p, ?_, i⟩
  rw [hs]
  have e2 := congrArg List.toArray e
  rw [Array.toArray_toList] at e2
  rw [e2]
  rfl
end Go.Proofs.YtpbdfiddgbkkmaaDoor.oper
