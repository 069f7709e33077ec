/-
  What the walk of the bounds needs besides.
-/
import Derived.Test.YtmepiogoofmbbaaDoorLw6
namespace Go.Proofs.YtmepiogoofmbbaaDoor.chain
open Go.ChangeShapes Go.WideShapes Go.ChangeAt Go.RowKit
open Go.Proofs.YtmepiogoofmbbaaDoor.tm Go.Proofs.YtmepiogoofmbbaaDoor.opened Go.Proofs.YtmepiogoofmbbaaDoor.block Go.Proofs.YtmepiogoofmbbaaDoor.stamp

theorem in_make (L : List Tm) (h : InL L) : InL (makeV L h) := by
  by_cases e : makeE L h = 0
  · exact front_in (make_zero e).2.1
  · unfold makeV
    rw [if_neg e]
    intro t ht
    simp at ht
theorem make_few (L : List Tm) (h : InL L) : (makeV L h).length ≤ 64 := by
  by_cases e : makeE L h = 0
  · exact (make_zero e).2.1.few
  · unfold makeV
    rw [if_neg e]
    simp
theorem in_meet (A B : List Tm) (iA : InL A) (iB : InL B) : InL (meetLV A B iA iB) := by
  unfold meetLV
  split
  · intro t ht; simp at ht
  · exact in_make _ _
theorem meet_few (A B : List Tm) (iA : InL A) (iB : InL B) : (meetLV A B iA iB).length ≤ 64 := by
  unfold meetLV
  split
  · simp
  · exact make_few _ _
theorem in_join (A B : List Tm) (iA : InL A) (iB : InL B) : InL (joinLV A B iA iB) := by
  unfold joinLV
  split
  · intro t ht; simp at ht
  · exact in_make _ _
theorem join_few (A B : List Tm) (iA : InL A) (iB : InL B) : (joinLV A B iA iB).length ≤ 64 := by
  unfold joinLV
  split
  · simp
  · exact make_few _ _
theorem checkR4 (t : Tm) (i : t.In) (w : World) : Calls Tryd.prog 18 #[.agg #[.int .u32 t.e, .int .i64 t.d, .int .u32 t.a, .int .u32 t.b, .int .u32 t.c]] w fun e w' => e = .returned (.int .i64 (chk t)) ∧ Below w.heap.size w w' := checkR_is t i rfl w
end Go.Proofs.YtmepiogoofmbbaaDoor.chain
