/-
  The word for a loop, of the program and of the document; how many numbers a kind has.
-/
import Derived.Test.YtpblpjopinllcaaGreatDoorJLayB
import Derived.Test.YtpblpjopinllcaaGreatDoorJGsc
namespace Go.Proofs.YtpblpjopinllcaaGreatDoor.graph
open Go.ChangeShapes Go.WideShapes Go.ChangeAt Go.RowKit Go.Shelf
open Go.Proofs.YtpblpjopinllcaaGreatDoor.opened Go.Proofs.YtpblpjopinllcaaGreatDoor.block Go.Proofs.YtpblpjopinllcaaGreatDoor.words
def loopN (g : Gr) (k : Int) : Bs := if k < 0 then [45] else match g.l[k.toNat]? with
  | none => []
  | some x => x.n
theorem inW_eq (g : Gr) (k : Int) : inW g k = [105, 110, 61] ++ loopN g k := rfl
theorem str_app9 (a b : Bs) : ({ data := a.toArray } : ByteArray) ++ { data := b.toArray } = ⟨(a ++ b).toArray⟩ := ByteArray.ext (by simp)
set_option maxRecDepth 100000 in
theorem inWord_any (v : Gv) (g : Gr) (F : ∀ x ∈ g.l, x.n.length ≤ 100000) (k : Int) (h0 : -1 ≤ k) (h1 : k < g.l.length) (w : World) (h : Lies4 w v g) :
    Calls Tryz.prog 83 #[gV v g, .int .i64 k] w fun e w' => e = .returned (sV (inW g k)) ∧ Below w.heap.size w w' := by
  obtain ⟨va, vb, vd, ve, vi, vj, vk, vm⟩ := v
  unfold gV inW
  dsimp only
  by_cases hk : k = -1
  · subst hk
    go_enter Tryz.func83, Tryz.ntmps83
    go_wp2_with fail
    go_ret
    exact ⟨rfl, fresh1 _ _⟩
  · obtain ⟨n, rfl⟩ : ∃ n : Nat, k = n := ⟨k.toNat, by omega⟩
    have hn : n < g.l.length := by omega
    obtain ⟨x, hx⟩ : ∃ x, g.l[n]? = some x := ⟨g.l[n], List.getElem?_eq_getElem hn⟩
    have hk2 : ((n : Int) == -1) = false := by rw [beq_eq_false_iff_ne]; omega
    rw [if_neg (by omega), Int.toNat_natCast, hx]
    dsimp only
    have b1 := fresh1 w (.cells #[.slice va g.c.length vi, .slice vb g.l.length vj, .slice vd g.o.length vk, .slice ve g.h.length vm] 27)
    have OX := Whole.fresh w 27 #[.slice va g.c.length vi, .slice vb g.l.length vj, .slice vd g.o.length vk, .slice ve g.h.length vm]
    obtain ⟨bb, o1, hA, hb1, c0, -, -⟩ := at_lo (h.below b1).l hx
    change vb = _ at hA
    subst hA
    go_enter Tryz.func83, Tryz.ntmps83
    go_upto_region 1 with fail
    change Code.wp _ _ _ _ (w.alloc (.cells #[.slice va g.c.length vi, .slice (some ⟨bb, o1, none⟩) g.l.length vj, .slice vd g.o.length vk, .slice ve g.h.length vm] 27))
    generalize w.alloc (.cells #[.slice va g.c.length vi, .slice (some ⟨bb, o1, none⟩) g.l.length vj, .slice vd g.o.length vk, .slice ve g.h.length vm] 27) = w1 at b1 OX hb1 c0 ⊢
    obtain ⟨gg, hgg⟩ : ∃ gg, w.heap.size = gg := ⟨_, rfl⟩
    have k1 := OX.read 1
    rw [hgg] at k1 ⊢
    have hl := F x (List.mem_of_getElem? hx)
    clear hk
    have ha : ({ data := #[105, 110, 61] } : ByteArray) ++ { data := x.n.toArray } = ⟨([105, 110, 61] ++ x.n).toArray⟩ := str_app9 [105, 110, 61] x.n
    clear OX hx
    replace b1 := Lib.hid b1
    clear hgg
    go_wp2_with fail
    go_ret
    exact ⟨rfl, b1.out⟩
theorem more_any (k : Int) (w : World) : Calls Tryz.prog 229 #[.int .i64 k] w fun e w' => e = .returned (.int .i64 (moreK k)) ∧ w' = w := by
  by_cases a3 : k = 3
  · subst a3
    go_enter Tryz.func229, Tryz.ntmps229
    go_wp2
    go_ret
    exact ⟨rfl, rfl⟩
  by_cases a4 : k = 4
  · subst a4
    go_enter Tryz.func229, Tryz.ntmps229
    go_wp2
    go_ret
    exact ⟨rfl, rfl⟩
  by_cases a6 : k = 6
  · subst a6
    go_enter Tryz.func229, Tryz.ntmps229
    go_wp2
    go_ret
    exact ⟨rfl, rfl⟩
  by_cases a10 : k = 10
  · subst a10
    go_enter Tryz.func229, Tryz.ntmps229
    go_wp2
    go_ret
    exact ⟨rfl, rfl⟩
  have f3 : (k == 3) = false := by rw [beq_eq_false_iff_ne]; exact a3
  have f4 : (k == 4) = false := by rw [beq_eq_false_iff_ne]; exact a4
  have f6 : (k == 6) = false := by rw [beq_eq_false_iff_ne]; exact a6
  have f10 : (k == 10) = false := by rw [beq_eq_false_iff_ne]; exact a10
  have e : moreK k = 0 := by simp [moreK, a3, a4, a6, a10]
  rw [e]
  clear e a3 a4 a6 a10
  go_enter Tryz.func229, Tryz.ntmps229
  go_wp2
  go_ret
  exact ⟨rfl, rfl⟩
/-- Two builders' contents in one block are as long as one another. -/
theorem BL.len {w : World} {B b : Nat} {l m : Bs} (h : BL w B b l) (k : BL w B b m) : l.length = m.length := by
  have e : ∀ {p q}, Lib.BuilderAt 150 5 B b p (Lib.byteCells l) w → Lib.BuilderAt 150 5 B b q (Lib.byteCells m) w → l.length = m.length := fun x y => by
    have := x.same_length y
    rwa [Lib.byteCells_length, Lib.byteCells_length] at this
  rcases h.1 with x | x <;> rcases k.1 with y | y <;> exact e x y
/-- A row of words, or what became of it is written. -/
def LoneS (z : Nat) (xs : List Bs) (D : World → Prop) : Value → World → Prop := fun u w => ∃ gx, u = .slice (some ⟨gx, 0, none⟩) xs.length xs.length ∧ z ≤ gx ∧ (Whole w gx 9 (xs.map sV).toArray ∨ D w)
end Go.Proofs.YtpblpjopinllcaaGreatDoor.graph
