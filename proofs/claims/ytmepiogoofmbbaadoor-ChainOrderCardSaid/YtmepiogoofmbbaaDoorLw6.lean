/-
  What the laws' walks share.
-/
import Derived.Test.YtmepiogoofmbbaaDoorWk6
import Derived.Test.YtmepiogoofmbbaaDoorGL
import Derived.Test.YtmepiogoofmbbaaDoorTie
import Derived.Test.YtmepiogoofmbbaaDoorCards
namespace Go.Proofs.YtmepiogoofmbbaaDoor.chain
open Go.ChangeShapes Go.WideShapes Go.ChangeAt Go.RowKit
open Go.Proofs.YtmepiogoofmbbaaDoor.tm Go.Proofs.YtmepiogoofmbbaaDoor.opened Go.Proofs.YtmepiogoofmbbaaDoor.block Go.Proofs.YtmepiogoofmbbaaDoor.stamp

/-- A time in its block. -/
def BoxT (w : World) (g : Nat) (t : Tm) : Prop := Whole w g 26 #[.int .u32 t.e, .int .i64 t.d, .int .u32 t.a, .int .u32 t.b, .int .u32 t.c]
theorem BoxT.below {w w' : World} {g : Nat} {t : Tm} (h : BoxT w g t) (hb : Below w.heap.size w w') : BoxT w' g t := Whole.below h hb (Whole.inside h)
theorem great_yes (A : Option Addr) (c : Nat) {n : Nat} (hn : n ≤ 4611686018427387903) (h : 200 < n) (w : World) : Calls Tryd.prog 8 #[.slice A n c] w fun e w' => e = .returned (.bool true) ∧ Below w.heap.size w w' := by
  have := great_any A c n hn w
  rw [decide_eq_true h] at this
  exact this.mono fun e w' ⟨he, hw⟩ => ⟨he, hw ▸ Below.refl _ _⟩
theorem great_no (A : Option Addr) (c : Nat) {n : Nat} (hn : n ≤ 4611686018427387903) (h : ¬ 200 < n) (w : World) : Calls Tryd.prog 8 #[.slice A n c] w fun e w' => e = .returned (.bool false) ∧ Below w.heap.size w w' := by
  have := great_any A c n hn w
  rw [decide_eq_false h] at this
  exact this.mono fun e w' ⟨he, hw⟩ => ⟨he, hw ▸ Below.refl _ _⟩
theorem own_lies (A : Option Addr) (c : Nat) (L : List Tm) (mL : L.length ≤ 4096) (w : World) (hL : Lt w A L) :
    Calls Tryd.prog 10 #[.slice A L.length c] w fun e W' => ∃ B c', e = .returned (.slice B L.length c') ∧ Lt W' B L ∧ Below w.heap.size w W' := by
  refine (own_any A c L mL w hL).mono ?_
  rintro e w' ⟨B, c', he, ho, hb⟩
  exact ⟨B, c', he, ho.lies, hb⟩
end Go.Proofs.YtmepiogoofmbbaaDoor.chain
