/-
  StampBounds: Join is the first time that both are not behind of, Meet the last one that is not behind both; no condition.
-/
import Derived.Test.YtehcnnjhgiiehaaDoorLift
import Derived.Test.YtehcnnjhgiiehaaDoorWorks
import Derived.Test.YtehcnnjhgiiehaaDoorOk
import Derived.Test.YtehcnnjhgiiehaaDoorOrd
import Derived.Test.YtehcnnjhgiiehaaDoorLe
import Derived.Test.YtehcnnjhgiiehaaDoorJoin
import Derived.Test.YtehcnnjhgiiehaaDoorEq
import Derived.Test.YtehcnnjhgiiehaaDoorTie
import Derived.Test.YtehcnnjhgiiehaaDoorCards
import Derived.Deep.Cut
import Derived.Deep.CutRange
namespace Go.Proofs.YtehcnnjhgiiehaaDoor.tm
theorem bd_max (x y : Int) : x ≤ maxI x y ∧ y ≤ maxI x y := by unfold maxI; split <;> omega
theorem bd_min (x y : Int) : minI x y ≤ x ∧ minI x y ≤ y := by unfold minI; split <;> omega
theorem max_le {x y z : Int} (h : x ≤ z) (k : y ≤ z) : maxI x y ≤ z := by unfold maxI; split <;> omega
theorem le_min {x y z : Int} (h : z ≤ x) (k : z ≤ y) : z ≤ minI x y := by unfold minI; split <;> omega
theorem max_comm (x y : Int) : maxI x y = maxI y x := by unfold maxI; split <;> split <;> omega
theorem bd_both {a b : Tm} (ha : chk a = 0) (hb : chk b = 0) (h : a.d = b.d) : both a b = 0 := by unfold both; rw [if_pos ha, if_pos hb, if_pos h]
theorem bd_facts {a b : Tm} (i : a.In) (j : b.In) (ha : chk a = 0) (hb : chk b = 0) (h : a.d = b.d) :
    joinV b a = joinV a b ∧ (joinV a b).In ∧ (meetV a b).In ∧ leB a (joinV a b) = true ∧ leB b (joinV a b) = true ∧ leB (meetV a b) a = true ∧ leB (meetV a b) b = true ∧
    (∀ c, leB a c = true → leB b c = true → leB (joinV a b) c = true) ∧ (∀ c, leB c a = true → leB c b = true → leB c (meetV a b) = true) := by
  have za := chk_zero ha
  have zb := chk_zero hb
  have e1 := bd_max a.e b.e
  have e2 := bd_max a.a b.a
  have e3 := bd_max a.b b.b
  have e4 := bd_max a.c b.c
  have f1 := bd_min a.e b.e
  have f2 := bd_min a.a b.a
  have f3 := bd_min a.b b.b
  have f4 := bd_min a.c b.c
  have u1 : maxI a.e b.e ≤ 1048576 := max_le (by omega) (by omega)
  have u2 : maxI a.a b.a ≤ 1048576 := max_le (by omega) (by omega)
  have u3 : maxI a.b b.b ≤ 1048576 := max_le (by omega) (by omega)
  have u4 : maxI a.c b.c ≤ 1048576 := max_le (by omega) (by omega)
  have v1 : 0 ≤ minI a.e b.e := le_min i.e0 j.e0
  have v2 : 0 ≤ minI a.a b.a := le_min i.a0 j.a0
  have v3 : 0 ≤ minI a.b b.b := le_min i.b0 j.b0
  have v4 : 0 ≤ minI a.c b.c := le_min i.c0 j.c0
  obtain ⟨a1, a2, a3, a4, a5, a6, a7, a8, a9, a10⟩ := i
  obtain ⟨b1, b2, b3, b4, b5, b6, b7, b8, b9, b10⟩ := j
  have hj : joinV a b = ⟨maxI a.e b.e, a.d, maxI a.a b.a, maxI a.b b.b, maxI a.c b.c⟩ := by unfold joinV; rw [if_pos (bd_both ha hb h)]
  have hk : joinV b a = ⟨maxI b.e a.e, b.d, maxI b.a a.a, maxI b.b a.b, maxI b.c a.c⟩ := by unfold joinV; rw [if_pos (bd_both hb ha h.symm)]
  have hm : meetV a b = ⟨minI a.e b.e, a.d, minI a.a b.a, minI a.b b.b, minI a.c b.c⟩ := by unfold meetV; rw [if_pos (bd_both ha hb h)]
  rw [hj, hk, hm]
  refine ⟨?_, ?_, ?_, ?_, ?_, ?_, ?_, ?_, ?_⟩
  · rw [max_comm b.e, max_comm b.a, max_comm b.b, max_comm b.c, h]
  · constructor <;> dsimp only <;> omega
  · constructor <;> dsimp only <;> omega
  · exact leB_iff.2 ⟨rfl, za.1, za.2.1, e1.1, fun _ => e2.1, fun _ => e3.1, fun _ => e4.1⟩
  · exact leB_iff.2 ⟨h.symm, zb.1, zb.2.1, e1.2, fun _ => e2.2, fun _ => e3.2, fun _ => e4.2⟩
  · exact leB_iff.2 ⟨rfl, za.1, za.2.1, f1.1, fun _ => f2.1, fun _ => f3.1, fun _ => f4.1⟩
  · exact leB_iff.2 ⟨h, za.1, za.2.1, f1.2, fun _ => f2.2, fun _ => f3.2, fun _ => f4.2⟩
  · intro c p q
    rw [leB_iff] at p q
    exact leB_iff.2 ⟨p.1, za.1, za.2.1, max_le p.2.2.2.1 q.2.2.2.1, fun k => max_le (p.2.2.2.2.1 k) (q.2.2.2.2.1 (h ▸ k)), fun k => max_le (p.2.2.2.2.2.1 k) (q.2.2.2.2.2.1 (h ▸ k)), fun k => max_le (p.2.2.2.2.2.2 k) (q.2.2.2.2.2.2 (h ▸ k))⟩
  · intro c p q
    rw [leB_iff] at p q
    exact leB_iff.2 ⟨p.1, p.2.1, p.2.2.1, le_min p.2.2.2.1 q.2.2.2.1, fun k => le_min (p.2.2.2.2.1 k) (q.2.2.2.2.1 k), fun k => le_min (p.2.2.2.2.2.1 k) (q.2.2.2.2.2.1 k), fun k => le_min (p.2.2.2.2.2.2 k) (q.2.2.2.2.2.2 k)⟩
end Go.Proofs.YtehcnnjhgiiehaaDoor.tm
namespace Go.Proofs.YtehcnnjhgiiehaaDoor.stampBounds
open Go.ChangeShapes Go.WideShapes Go.ChangeAt Go.RowKit
open Go.Proofs.YtehcnnjhgiiehaaDoor.tm Go.Proofs.YtehcnnjhgiiehaaDoor.opened Go.Proofs.YtehcnnjhgiiehaaDoor.block Go.Proofs.YtehcnnjhgiiehaaDoor.stamp

theorem all_of {w : World} {g : Nat} {t : TypeId} {cs : Array Value} (h : Whole w g t cs) : (∀ i, w.cell? ⟨g, i, none⟩ = cs[i]?) ∧ (∀ i, w.frozen? ⟨g, i, none⟩ = false) := ⟨h.read, h.soft⟩
theorem alloc3 {w wr : World} {g : Nat} {a b c : Tm} (h : Tri w wr g a b c) (o : Obj) : Tri w (wr.alloc o) g a b c := ⟨h.one.alloc o, h.two.alloc o, h.tre.alloc o, h.old.alloc h.old.size _, h.base⟩
/-- Beside the three, what the law itself holds: both bounds, and the first one again. -/
structure Six (w wr : World) (g n m l : Nat) (a b c x y : Tm) : Prop where
  tri : Tri w wr g a b c
  px : Whole wr n 25 #[.int .u32 x.e, .int .i64 x.d, .int .u32 x.a, .int .u32 x.b, .int .u32 x.c]
  py : Whole wr m 25 #[.int .u32 y.e, .int .i64 y.d, .int .u32 y.a, .int .u32 y.b, .int .u32 y.c]
  pz : Whole wr l 25 #[.int .u32 x.e, .int .i64 x.d, .int .u32 x.a, .int .u32 x.b, .int .u32 x.c]
theorem Six.below {w wr w1 : World} {g n m l : Nat} {a b c x y : Tm} (h : Six w wr g n m l a b c x y) (k : Below wr.heap.size wr w1) : Six w w1 g n m l a b c x y :=
  ⟨h.tri.below k, h.px.below k h.px.inside, h.py.below k h.py.inside, h.pz.below k h.pz.inside⟩
theorem le_of {s t : Tm} {v : Bool} (i : s.In) (j : t.In) (h : leB s t = v) : Hid (∀ W, Calls Tryd.prog 14 #[.agg #[.int .u32 s.e, .int .i64 s.d, .int .u32 s.a, .int .u32 s.b, .int .u32 s.c], .agg #[.int .u32 t.e, .int .i64 t.d, .int .u32 t.a, .int .u32 t.b, .int .u32 t.c]] W fun e w' => e = .returned (.bool v) ∧ Below W.heap.size W w') := Lib.hid (h ▸ le_any s t i j)
theorem run_neT (t : Tm) (w : World) : (binOp .neq 25 (.agg #[.int .u32 t.e, .int .i64 t.d, .int .u32 t.a, .int .u32 t.b, .int .u32 t.c]) (.agg #[.int .u32 t.e, .int .i64 t.d, .int .u32 t.a, .int .u32 t.b, .int .u32 t.c])).run Tryd.prog w = .ok (.bool false) w := by
  have h := run_eqT t t w
  rw [run_eql_struct] at h
  rw [run_neq_struct]
  generalize (Op.equalIn 10000 25 (.agg #[.int .u32 t.e, .int .i64 t.d, .int .u32 t.a, .int .u32 t.b, .int .u32 t.c]) (.agg #[.int .u32 t.e, .int .i64 t.d, .int .u32 t.a, .int .u32 t.b, .int .u32 t.c])).run Tryd.prog w = r at h ⊢
  cases r with
  | ok b w' =>
    simp [eqT_self] at h ⊢
    exact h
  | halt x w' => simp [Result.andThen] at h
set_option maxRecDepth 100000 in
set_option maxHeartbeats 4000000 in
theorem walkT (a b c : Tm) (i : a.In) (j : b.In) (k : c.In) (w : World) (hE : Env w) : Calls Tryd.prog 5 #[.agg #[.int .u32 a.e, .int .i64 a.d, .int .u32 a.a, .int .u32 a.b, .int .u32 a.c], .agg #[.int .u32 b.e, .int .i64 b.d, .int .u32 b.a, .int .u32 b.b, .int .u32 b.c], .agg #[.int .u32 c.e, .int .i64 c.d, .int .u32 c.a, .int .u32 c.b, .int .u32 c.c]] w fun e w' => e = .returned (.bool true) ∧ Below w.heap.size w w' := by
  have h0 := Tri.fresh w a b c
  go_enter Tryd.func5, Tryd.ntmps5
  go_wp2_with fail
  refine (works_any _ (hE.below h0.old)).mono ?_
  rintro e w1 ⟨rfl, b1⟩
  have h1 := h0.below b1
  clear b1 h0
  have hg := h1.base
  generalize w.heap.size = g at h1 hg ⊢
  have HG := Lib.hid hg
  clear hg
  obtain ⟨ac, ad⟩ := all_of h1.one
  obtain ⟨bc, bd⟩ := all_of h1.two
  obtain ⟨cc, cd⟩ := all_of h1.tre
  by_cases o : okB a b c = true
  · have OK : Hid (∀ W, Calls Tryd.prog 16 #[.agg #[.int .u32 a.e, .int .i64 a.d, .int .u32 a.a, .int .u32 a.b, .int .u32 a.c], .agg #[.int .u32 b.e, .int .i64 b.d, .int .u32 b.a, .int .u32 b.b, .int .u32 b.c], .agg #[.int .u32 c.e, .int .i64 c.d, .int .u32 c.a, .int .u32 c.b, .int .u32 c.c]] W fun e w' => e = .returned (.bool true) ∧ Below W.heap.size W w') := Lib.hid (o ▸ ok_any a b c i j k)
    obtain ⟨ha, hb, hc, hd, hd2⟩ := okB_iff.1 o
    obtain ⟨f1, f2, f3, f4, f5, f6, f7, f8, f9⟩ := bd_facts i j ha hb hd
    have J1 := Lib.hid (joinT_any a b i j)
    have M1 := Lib.hid (meet_any a b i j)
    have K1 := Lib.hid (joinT_any b a j i)
    rw [bd_both ha hb hd] at J1 M1
    rw [bd_both hb ha hd.symm, f1] at K1
    have L1 := le_of i f2 f4
    have L2 := le_of j f2 f5
    have L3 := le_of f3 i f6
    have L4 := le_of f3 j f7
    have PA := Lib.hid (le_any a c i k)
    have PB := Lib.hid (le_any b c j k)
    have PJ := Lib.hid (le_any (joinV a b) c f2 k)
    have QA := Lib.hid (le_any c a k i)
    have QB := Lib.hid (le_any c b k j)
    have QM := Lib.hid (le_any c (meetV a b) k f3)
    have g8 := f8 c
    have g9 := f9 c
    generalize joinV a b = x at *
    generalize meetV a b = y at *
    generalize leB a c = va at PA g8
    generalize leB b c = vb at PB g8
    generalize leB x c = vx at PJ g8
    generalize leB c a = ua at QA g9
    generalize leB c b = ub at QB g9
    generalize leB c y = uy at QM g9
    have G8 := Lib.hid g8
    have G9 := Lib.hid g9
    have NE := Lib.hid (run_neT x)
    clear o ha hb hc hd hd2 f1 f2 f3 f4 f5 f6 f7 f8 f9 g8 g9 i j k
    go_wp2_with fail
    refine (OK.out _).mono ?_
    rintro e w2 ⟨rfl, b2⟩
    have h2 := h1.below b2
    clear ac ad bc bd cc cd b2 h1
    obtain ⟨ac, ad⟩ := all_of h2.one
    obtain ⟨bc, bd⟩ := all_of h2.two
    go_wp2_with fail
    refine (J1.out _).mono ?_
    rintro e w3 ⟨rfl, b3⟩
    have h3 := h2.below b3
    clear ac ad bc bd b3 h2
    obtain ⟨ac, ad⟩ := all_of h3.one
    obtain ⟨bc, bd⟩ := all_of h3.two
    have g3 : g + 1 + 1 < w3.heap.size := h3.tre.inside
    have g31 : g + 1 < w3.heap.size := h3.two.inside
    have g30 : g < w3.heap.size := h3.one.inside
    go_wp2_with fail
    refine (M1.out _).mono ?_
    rintro e w4 ⟨rfl, b4⟩
    have h4 := (alloc3 h3 (.cells #[.int .u32 x.e, .int .i64 x.d, .int .u32 x.a, .int .u32 x.b, .int .u32 x.c] 25)).below b4
    have X4 := (Whole.fresh w3 25 #[.int .u32 x.e, .int .i64 x.d, .int .u32 x.a, .int .u32 x.b, .int .u32 x.c]).below b4 (by simp)
    have s4 := b4.size
    rw [World.size_alloc] at s4
    clear ac ad bc bd b4 h3
    obtain ⟨ac, ad⟩ := all_of h4.one
    obtain ⟨bc, bd⟩ := all_of h4.two
    have g41 : g + 1 < w4.heap.size := h4.two.inside
    have g40 : g < w4.heap.size := h4.one.inside
    go_wp2_with fail
    refine (K1.out _).mono ?_
    rintro e w5 ⟨rfl, b5⟩
    have h5 := (alloc3 h4 (.cells #[.int .u32 y.e, .int .i64 y.d, .int .u32 y.a, .int .u32 y.b, .int .u32 y.c] 25)).below b5
    have X5 := (X4.alloc (.cells #[.int .u32 y.e, .int .i64 y.d, .int .u32 y.a, .int .u32 y.b, .int .u32 y.c] 25)).below b5 (X4.alloc (.cells #[.int .u32 y.e, .int .i64 y.d, .int .u32 y.a, .int .u32 y.b, .int .u32 y.c] 25)).inside
    have Y5 := (Whole.fresh w4 25 #[.int .u32 y.e, .int .i64 y.d, .int .u32 y.a, .int .u32 y.b, .int .u32 y.c]).below b5 (by simp)
    have s5 := b5.size
    rw [World.size_alloc] at s5
    clear ac ad bc bd b5 h4 X4
    go_upto_region 8 with fail
    have S : Six w (w5.alloc (.cells #[.int .u32 x.e, .int .i64 x.d, .int .u32 x.a, .int .u32 x.b, .int .u32 x.c] 25)) g w3.heap.size w4.heap.size w5.heap.size a b c x y := ⟨alloc3 h5 _, X5.alloc _, Y5.alloc _, Whole.fresh w5 _ _⟩
    clear h5 X5 Y5 s5 s4 g3 g31 g30 g41 g40
    generalize w5.alloc (.cells #[.int .u32 x.e, .int .i64 x.d, .int .u32 x.a, .int .u32 x.b, .int .u32 x.c] 25) = W at S ⊢
    generalize w3.heap.size = n at S ⊢
    generalize w4.heap.size = m at S ⊢
    generalize w5.heap.size = l at S ⊢
    clear w2 w3 w4 w5 w1
    have ne := NE.out
    go_cut [76] from 38 to 76 (fun s wx => s = .bool false ∧ Six w wx g n m l a b c x y)
    case first =>
      obtain ⟨xc, xd⟩ := all_of S.px
      obtain ⟨zc, zd⟩ := all_of S.pz
      obtain ⟨ac, ad⟩ := all_of S.tri.one
      go_wp2_with fail
      refine (L1.out _).mono ?_
      rintro e v1 ⟨rfl, b1⟩
      have S1 := S.below b1
      clear xc xd zc zd ac ad
      clear b1 S
      obtain ⟨bc, bd⟩ := all_of S1.tri.two
      obtain ⟨xc, xd⟩ := all_of S1.px
      go_wp2_with fail
      refine (L2.out _).mono ?_
      rintro e v2 ⟨rfl, b2⟩
      have S2 := S1.below b2
      clear bc bd xc xd
      clear b2 S1
      obtain ⟨yc, yd⟩ := all_of S2.py
      obtain ⟨ac, ad⟩ := all_of S2.tri.one
      go_wp2_with fail
      refine (L3.out _).mono ?_
      rintro e v3 ⟨rfl, b3⟩
      have S3 := S2.below b3
      clear yc yd ac ad
      clear b3 S2
      obtain ⟨yc, yd⟩ := all_of S3.py
      obtain ⟨bc, bd⟩ := all_of S3.tri.two
      go_wp2_with fail
      refine (L4.out _).mono ?_
      rintro e v4 ⟨rfl, b4⟩
      have S4 := S3.below b4
      clear yc yd bc bd
      clear b4 S3
      go_wp2_with fail
      go_meet
      exact ⟨rfl, S4⟩
    clear S ne
    obtain ⟨rfl, S⟩ := hcut
    go_upto_region 10 with fail
    go_cut [90] from 77 to 90 (fun s wx => s = .bool false ∧ Six w wx g n m l a b c x y)
    case first =>
      obtain ⟨ac, ad⟩ := all_of S.tri.one
      obtain ⟨cc, cd⟩ := all_of S.tri.tre
      go_wp2_with fail
      cases va
      · refine (PA.out _).mono ?_
        rintro e v1 ⟨rfl, b1⟩
        have S1 := S.below b1
        clear ac ad cc cd
        clear b1 S
        go_wp2_with fail
        go_meet
        exact ⟨rfl, S1⟩
      · cases vb
        · refine (PA.out _).mono ?_
          rintro e v1 ⟨rfl, b1⟩
          have S1 := S.below b1
          clear ac ad cc cd
          clear b1 S
          obtain ⟨bc, bd⟩ := all_of S1.tri.two
          obtain ⟨cc, cd⟩ := all_of S1.tri.tre
          go_wp2_with fail
          refine (PB.out _).mono ?_
          rintro e v2 ⟨rfl, b2⟩
          have S2 := S1.below b2
          clear bc bd cc cd
          clear b2 S1
          go_wp2_with fail
          go_meet
          exact ⟨rfl, S2⟩
        · have hv := G8.out rfl rfl
          subst hv
          refine (PA.out _).mono ?_
          rintro e v1 ⟨rfl, b1⟩
          have S1 := S.below b1
          clear ac ad cc cd
          clear b1 S
          obtain ⟨bc, bd⟩ := all_of S1.tri.two
          obtain ⟨cc, cd⟩ := all_of S1.tri.tre
          go_wp2_with fail
          refine (PB.out _).mono ?_
          rintro e v2 ⟨rfl, b2⟩
          have S2 := S1.below b2
          clear bc bd cc cd
          clear b2 S1
          obtain ⟨xc, xd⟩ := all_of S2.px
          obtain ⟨cc, cd⟩ := all_of S2.tri.tre
          go_wp2_with fail
          refine (PJ.out _).mono ?_
          rintro e v3 ⟨rfl, b3⟩
          have S3 := S2.below b3
          clear xc xd cc cd
          clear b3 S2
          go_wp2_with fail
          go_meet
          exact ⟨rfl, S3⟩
    clear S
    obtain ⟨rfl, S⟩ := hcut
    obtain ⟨ac, ad⟩ := all_of S.tri.one
    obtain ⟨cc, cd⟩ := all_of S.tri.tre
    go_wp2_with fail
    cases ua
    · refine (QA.out _).mono ?_
      rintro e v1 ⟨rfl, b1⟩
      have S1 := S.below b1
      clear ac ad cc cd
      clear b1 S
      go_wp2_with fail
      go_ret
      exact ⟨rfl, S1.tri.old⟩
    · cases ub
      · refine (QA.out _).mono ?_
        rintro e v1 ⟨rfl, b1⟩
        have S1 := S.below b1
        clear ac ad cc cd
        clear b1 S
        obtain ⟨bc, bd⟩ := all_of S1.tri.two
        obtain ⟨cc, cd⟩ := all_of S1.tri.tre
        go_wp2_with fail
        refine (QB.out _).mono ?_
        rintro e v2 ⟨rfl, b2⟩
        have S2 := S1.below b2
        clear bc bd cc cd
        clear b2 S1
        go_wp2_with fail
        go_ret
        exact ⟨rfl, S2.tri.old⟩
      · have hv := G9.out rfl rfl
        subst hv
        refine (QA.out _).mono ?_
        rintro e v1 ⟨rfl, b1⟩
        have S1 := S.below b1
        clear ac ad cc cd
        clear b1 S
        obtain ⟨bc, bd⟩ := all_of S1.tri.two
        obtain ⟨cc, cd⟩ := all_of S1.tri.tre
        go_wp2_with fail
        refine (QB.out _).mono ?_
        rintro e v2 ⟨rfl, b2⟩
        have S2 := S1.below b2
        clear bc bd cc cd
        clear b2 S1
        obtain ⟨yc, yd⟩ := all_of S2.py
        obtain ⟨cc, cd⟩ := all_of S2.tri.tre
        go_wp2_with fail
        refine (QM.out _).mono ?_
        rintro e v3 ⟨rfl, b3⟩
        have S3 := S2.below b3
        clear yc yd cc cd
        clear b3 S2
        go_wp2_with fail
        go_ret
        exact ⟨rfl, S3.tri.old⟩
  · have OK : Hid (∀ W, Calls Tryd.prog 16 #[.agg #[.int .u32 a.e, .int .i64 a.d, .int .u32 a.a, .int .u32 a.b, .int .u32 a.c], .agg #[.int .u32 b.e, .int .i64 b.d, .int .u32 b.a, .int .u32 b.b, .int .u32 b.c], .agg #[.int .u32 c.e, .int .i64 c.d, .int .u32 c.a, .int .u32 c.b, .int .u32 c.c]] W fun e w' => e = .returned (.bool false) ∧ Below W.heap.size W w') := Lib.hid ((Bool.eq_false_iff.2 o) ▸ ok_any a b c i j k)
    clear o i j k
    go_wp2_with fail
    refine (OK.out _).mono ?_
    rintro e w2 ⟨rfl, b2⟩
    have h2 := h1.below b2
    clear ac ad bc bd cc cd b2 h1
    go_wp2_with fail
    go_ret
    exact ⟨rfl, h2.old⟩
set_option maxRecDepth 100000 in
theorem told (W : World) (args : Array Value) (hE : Env W) (h : Fed Tryd.prog W [25, 25, 25] args) : Calls Tryd.prog 5 args W fun e W' => e = .returned (.bool true) ∧ Below W.heap.size W W' := by
  obtain ⟨v0, v1, v2, rfl⟩ := args3 h.count
  obtain ⟨⟨_, o0⟩, r0⟩ := h.each 0 25 v0 rfl rfl
  obtain ⟨⟨_, o1⟩, r1⟩ := h.each 1 25 v1 rfl rfl
  obtain ⟨⟨_, o2⟩, r2⟩ := h.each 2 25 v2 rfl rfl
  obtain ⟨a0, q0⟩ := r0 opens_time
  obtain ⟨t0, i0, rfl⟩ := top_time o0 q0
  obtain ⟨a1, q1⟩ := r1 opens_time
  obtain ⟨t1, i1, rfl⟩ := top_time o1 q1
  obtain ⟨a2, q2⟩ := r2 opens_time
  obtain ⟨t2, i2, rfl⟩ := top_time o2 q2
  exact walkT t0 t1 t2 i0 i1 i2 W hE

/-! ### The row and the card -/
set_option maxRecDepth 100000 in
theorem lifted (os : Os) (started : os.Started) (H : Type) (enc : TypeId × Value → H) :
    ReturnsInHanded {} Tryd.checked os 5 .any (fun w args => (Rows.stampBoundsSpec.pre enc Tryd.prog Tryd.f5 Rows.stampBoundsRow.domain false w args ∧ laidMetH Tryd.prog Rows.stampBoundsRow.laid w) ∧ sizedMet enc Tryd.prog Tryd.f5 (OpenSpec.ofChange Rows.stampBoundsSpec) false w args) (Rows.stampBoundsSpec.post enc Tryd.prog Tryd.f5 false true false false) :=
  liftL (ts := [25, 25, 25]) rfl started (by kernel_rfl) Tryd.func5 (by kernel_rfl) (by kernel_rfl) (by kernel_rfl) rfl
    (fun ds h => by
      match ds, h with
      | [_, _, _], _ => rfl)
    (ChangeSpec.witness_shaped (enc := enc) (C := Tryd.checked) (os := os) (X := fun w _ => laidMetH Tryd.prog laid7 w) false (Go.Proofs.YtehcnnjhgiiehaaDoor.stamp.start os) #[.agg #[.int .u32 0, .int .i64 0, .int .u32 0, .int .u32 0, .int .u32 0], .agg #[.int .u32 0, .int .i64 0, .int .u32 0, .int .u32 0, .int .u32 0], .agg #[.int .u32 0, .int .i64 0, .int .u32 0, .int .u32 0, .int .u32 0]] 8 (World.laidAll_os _ _ _)
      (World.shaped_of_ZipB (by kernel_rfl) (by kernel_rfl)) (by kernel_rfl) (by kernel_rfl) (by kernel_rfl) (start_met os _)) told

theorem over : Rows.StampBoundsSaid :=
  OpenClaim.holds_of_wide 5 Tryd.f5 rfl rfl rfl rfl rfl rfl rfl ⟨rfl, rfl, rfl, rfl, rfl⟩ rfl rfl rfl rfl rfl (by kernel_rfl) Tryd.func5 (by kernel_rfl)
    (of_decide_eq_true (by kernel_rfl)) (by unfold Func.isWrapper; first | (rw [if_pos (by decide +kernel)]; kernel_rfl) | (rw [if_neg (by decide +kernel)]; exact ⟨rfl, rfl⟩))
    (fun os started H enc _ => lifted os started H enc)

theorem proved : Rows.StampBoundsCardSaid :=
  Claim7.holds_tied_plain_at .later [] [.data, .data, .data, .data, .sentinel, .sentinel, .pinned] true (true, "aab9381282e9a48b52fda4b8d92f7b580332e7240df5507c556c7e28874478b6") true
    over (fun _ h => by cases h) (by kernel_rfl) (fun _ h => by cases h) stampBounds_row_tie rfl ⟨rfl, rfl⟩ (by kernel_rfl) rfl
    (fun f fn hf hfn => by
      obtain rfl : f = 5 := Option.some.inj ((show Tryd.prog.funcNamed "watershed/watershedlaw04.StampBounds" = some 5 by kernel_rfl).symm.trans hf) |>.symm
      obtain rfl : fn = Tryd.f5 := (Option.some.inj (Tryd.func5.symm.trans hfn)).symm
      exact ⟨by kernel_rfl, fun j t ht => by
        rw [Tryd.params5] at ht
        have hm : t ∈ [25, 25, 25] := by simpa using Array.mem_of_getElem? ht
        have hall : ([25, 25, 25].all fun u => !Tryd.prog.wantsStandIn u) = true := by kernel_rfl
        exact (show Tryd.prog.wantsStandIn t = false by simpa using List.all_eq_true.1 hall t hm)⟩)
    (by kernel_rfl)
#print axioms proved

end Go.Proofs.YtehcnnjhgiiehaaDoor.stampBounds
