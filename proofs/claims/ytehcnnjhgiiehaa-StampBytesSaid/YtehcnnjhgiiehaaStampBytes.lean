/-
  Any time's bytes, and the times that are read of any bytes, one behind the other: stamp.Write and stamp.Read answer what the document's own functions answer; no condition.
-/
import Derived.Test.YtehcnnjhgiiehaaRead
import Derived.Test.YtehcnnjhgiiehaaOpenT
import Derived.Test.YtehcnnjhgiiehaaEq
import Derived.Deep.RegionWith
namespace Go.Proofs.Ytehcnnjhgiiehaa.stampBytes
open Go.ChangeShapes Go.WideShapes Go.ChangeAt Go.RowKit
open Go.Proofs.Ytehcnnjhgiiehaa.tm Go.Proofs.Ytehcnnjhgiiehaa.opened Go.Proofs.Ytehcnnjhgiiehaa.block Go.Proofs.Ytehcnnjhgiiehaa.stamp Go.Proofs.Ytehcnnjhgiiehaa.enc Go.Proofs.Ytehcnnjhgiiehaa.code

theorem run_ne_no (t : Tm) (w : World) : (binOp .neq 25 (.agg #[.int .u32 t.e, .int .i64 t.d, .int .u32 t.a, .int .u32 t.b, .int .u32 t.c]) (.agg #[.int .u32 t.e, .int .i64 t.d, .int .u32 t.a, .int .u32 t.b, .int .u32 t.c])).run Try.prog w = .ok (.bool false) w := by
  have h := run_eqT t t w
  rw [run_eql_struct] at h
  rw [run_neq_struct]
  generalize (Op.equalIn 10000 25 (.agg #[.int .u32 t.e, .int .i64 t.d, .int .u32 t.a, .int .u32 t.b, .int .u32 t.c]) (.agg #[.int .u32 t.e, .int .i64 t.d, .int .u32 t.a, .int .u32 t.b, .int .u32 t.c])).run Try.prog w = r at h
  cases r with
  | ok b w' =>
    simp only [Result.andThen_ok] at h ⊢
    injection h with h1 h2
    injection h1 with h1
    rw [h2, h1, eqT_self]
    rfl
  | halt x w' => simp [Result.andThen] at h
theorem rest5 (c : Int) : ∃ m : Nat, (IntKind.u64.wrap c).tmod 5 = (m : Int) ∧ m < 5 := by
  have hu := (wrap_u64_bd c).1
  have h0 := Int.emod_nonneg (IntKind.u64.wrap c) (show (5 : Int) ≠ 0 by omega)
  have h1 := Int.emod_lt_of_pos (IntKind.u64.wrap c) (show (0 : Int) < 5 by omega)
  rw [Int.tmod_eq_emod_of_nonneg hu]
  exact ⟨(IntKind.u64.wrap c % 5).toNat, by omega, by omega⟩
theorem QA.grown {w w' : World} {g : Nat} {row : Option Nat} {q : List UInt8 × Int} (h : QA w g q) (k : w.grownBy w' row) (hr : some g ≠ row) : QA w' g q := Whole.grown h k hr
theorem QB.grown {w w' : World} {g : Nat} {row : Option Nat} {q : List UInt8 × Int} (h : QB w g q) (k : w.grownBy w' row) (hr : some g ≠ row) : QB w' g q := by
  obtain ⟨s, n, a, b, c, h⟩ := h
  exact ⟨s, n, a, b, c, Whole.grown h k hr⟩
theorem leftQA (g : Nat) (q : List UInt8 × Int) (w : World) (h : QA w g q) : Calls Try.prog 32 #[.pointer (some ⟨g, 0, none⟩)] w fun r w' => r = .returned (.int .i64 q.1.length) ∧ w = w' := leftA g q.1 q.2 w h
theorem leftQB (g : Nat) (q : List UInt8 × Int) (w : World) (h : QB w g q) : Calls Try.prog 33 #[.pointer (some ⟨g, 0, none⟩)] w fun r w' => r = .returned (.int .i64 q.1.length) ∧ QB w' g q ∧ w.grownBy w' (some g) := by
  obtain ⟨s, n, a, b, c, h⟩ := h
  rw [c]
  exact (leftB g s n q.2 b a w h).mono fun r w' ⟨e, r1, g1⟩ => ⟨e, ⟨s, n, a, b, c, r1⟩, g1⟩
theorem rd_len (q : List UInt8 × Int) : (rdS q).2.1.length ≤ q.1.length := stt_len q _
theorem then_only {B ga gb : Nat} {a w w2 w3 : World} (h : Below B a w) (g2 : w.grownBy w2 (some ga)) (g3 : w2.grownBy w3 (some gb)) (hB : B ≤ w.heap.size) (ha : B ≤ ga) (hb : B ≤ gb) : Below B a w3 :=
  below_only (below_only h g2 hB ha) g3 (Nat.le_trans hB g2.size) hb
set_option maxRecDepth 100000 in
set_option maxHeartbeats 4000000 in
theorem walkT (t : Tm) (s : ByteArray) (n : Int) (i : t.In) (hs : s.size ≤ 140737488351232) (w : World) : Calls Try.prog 5 #[.agg #[.int .u32 t.e, .int .i64 t.d, .int .u32 t.a, .int .u32 t.b, .int .u32 t.c], .string s, .int .i64 n] w fun e w' => e = .returned (.bool true) ∧ Below w.heap.size w w' := by
  by_cases hbig : 5000 < s.size
  · go_enter Try.func5, Try.ntmps5
    go_wp2
    go_ret
    exact ⟨rfl, fresh1 _ _⟩
  · obtain ⟨T, E, A1, R1⟩ : ∃ (T : ByteArray) (E : Int), Hid (∀ W, Calls Try.prog 26 #[.agg #[.int .u32 t.e, .int .i64 t.d, .int .u32 t.a, .int .u32 t.b, .int .u32 t.c]] W fun e w' => e = .returned (.tuple #[.string T, .int .i64 E]) ∧ Below W.heap.size W w') ∧ Hid (∀ W, Calls Try.prog 27 #[.agg #[.int .u32 t.e, .int .i64 t.d, .int .u32 t.a, .int .u32 t.b, .int .u32 t.c]] W fun e w' => e = .returned (.tuple #[.string T, .int .i64 E]) ∧ Below W.heap.size W w') := ⟨_, _, Lib.hid (write_any t i), Lib.hid (writeR_any t i)⟩
    clear i
    have hb5 : decide ((5000 : Int) < (s.size : Int)) = false := by simp; omega
    clear hbig
    obtain ⟨m, hm, hm5⟩ := rest5 n
    have he := run_ne_no
    go_enter Try.func5, Try.ntmps5
    go_wp2_with fail
    refine (A1.out _).mono ?_
    rintro e w1 ⟨rfl, b1⟩
    have h1 : Whole w1 w.heap.size 25 #[.int .u32 t.e, .int .i64 t.d, .int .u32 t.a, .int .u32 t.b, .int .u32 t.c] := (Whole.fresh w 25 _).below b1 (by simp)
    have v1 := over1 b1
    clear b1
    obtain ⟨aa0, aa1, aa2, aa3, aa4, aaf0, aaf1, aaf2, aaf3, aaf4⟩ := facts5' h1
    go_wp2_with fail
    refine (R1.out _).mono ?_
    rintro e w2 ⟨rfl, b2⟩
    have v2 := v1.trans (b2.mono v1.size)
    clear b2 h1 v1 aa0 aa1 aa2 aa3 aa4 aaf0 aaf1 aaf2 aaf3 aaf4
    go_wp2_with fail
    refine (new_any s _).mono ?_
    rintro e w3 ⟨rfl, rfl⟩
    go_wp2_with fail
    have qa0 : QA ((w2.alloc (.cells #[.string s, .int .i64 0] 65)).alloc (.cells #[.string s, .int .i64 0, .int .i64 0] 43)) w2.heap.size (s.data.toList, 0) := Whole.alloc (Whole.fresh w2 65 #[.string s, .int .i64 0]) _
    have qb0 : QB ((w2.alloc (.cells #[.string s, .int .i64 0] 65)).alloc (.cells #[.string s, .int .i64 0, .int .i64 0] 43)) (w2.heap.size + 1) (s.data.toList, 0) := ⟨s, 0, Nat.zero_le _, hs, rfl, by
      have := Whole.fresh (w2.alloc (.cells #[.string s, .int .i64 0] 65)) 43 #[.string s, .int .i64 0, .int .i64 0]
      rw [World.size_alloc] at this
      exact this⟩
    have v3 : Below w.heap.size w ((w2.alloc (.cells #[.string s, .int .i64 0] 65)).alloc (.cells #[.string s, .int .i64 0, .int .i64 0] 43)) := (v2.alloc v2.size _).alloc (by have := v2.size; simp; omega) _
    have hsl : s.data.toList.length ≤ 9223372036854775807 := by
      have h3 : s.data.toList.length = s.size := rfl
      omega
    have hp := v2.size
    clear v2
    generalize w2.heap.size = p at qa0 qb0 hp ⊢
    go_loopw [13] (fun i wr => ∃ (k : Nat) (q : List UInt8 × Int), k ≤ m ∧ i = .int .i64 k ∧ q.1.length ≤ 9223372036854775807 ∧ QA wr p q ∧ QB wr (p + 1) q ∧ Below w.heap.size w wr) (fun i _ => m - (intOf i).toNat)
    case atStart => exact ⟨0, _, by omega, rfl, hsl, qa0, qb0, v3⟩
    case round =>
      clear qa0 qb0 v3 hsl hs
      obtain ⟨k, q, hk, rfl, hl, qa, qb, hb⟩ := hrel
      by_cases hkm : k < m
      · have hlen := rd_len q
        go_wp2_with fail
        have qbe := qb.err
        go_region_with (first | (go_at_call 29; refine (readA p q hl _ (by exact qa)).mono ?_; rintro r w4 ⟨rfl, qa4, g4⟩; have qb4 : QB w4 (p + 1) q := QB.grown (w := wr.drew) qb g4 (by simp)) | (go_at_call 30; refine (readB (p + 1) q hl _ (by exact qb4)).mono ?_; rintro r w5 ⟨rfl, qb5, g5⟩; have qa5 : QA w5 p (rdS q).2 := QA.grown qa4 g5 (by simp); have qe5 := qb5.err) | (go_at_call 31; refine (errQA p (rdS q).2 _ (by exact qa5)).mono ?_; rintro r w6 ⟨rfl, rfl⟩) | (go_at_call 32; refine (leftQA p (rdS q).2 _ (by exact qa5)).mono ?_; rintro r w6 ⟨rfl, rfl⟩) | (go_at_call 33; refine (leftQB (p + 1) (rdS q).2 _ (by exact qb5)).mono ?_; rintro r w7 ⟨rfl, qb7, g7⟩))
        all_goals go_wp2_with fail
        all_goals go_roundw
        all_goals first | (exact ⟨k + 1, (rdS q).2, by omega, by go_num, by omega, QA.grown qa5 g7 (by simp), qb7, below_only (then_only hb.drew g4 g5 hb.size hp (by omega)) g7 (Nat.le_trans hb.size (Nat.le_trans g4.size g5.size)) (by omega)⟩) | (simp [intOf]; omega)
      · have hkk : decide ((k : Int) < (m : Int)) = false := by simp; omega
        go_wp2
        go_ret
        exact ⟨rfl, hb⟩
theorem walk (t : Tm) (s : ByteArray) (n : Int) (i : t.In) (hs : s.size ≤ 140737488351232) (_h : (Lit.int .i64 n).wf = true) (w : World) : Calls Try.prog 5 #[.agg #[.int .u32 t.e, .int .i64 t.d, .int .u32 t.a, .int .u32 t.b, .int .u32 t.c], .string s, .int .i64 n] w fun e w' => e = .returned (.bool true) ∧ Below w.heap.size w w' :=
  walkT t s n i hs w
theorem told (W : World) (args : Array Value) (h : Fed Try.prog W [25, 9, 3] args) : Calls Try.prog 5 args W fun e W' => e = .returned (.bool true) ∧ Below W.heap.size W W' := by
  obtain ⟨v0, v1, v2, rfl⟩ := args3 h.count
  obtain ⟨⟨_, o0⟩, r0⟩ := h.each 0 25 v0 rfl rfl
  obtain ⟨⟨_, o1⟩, r1⟩ := h.each 1 9 v1 rfl rfl
  obtain ⟨⟨_, o2⟩, r2⟩ := h.each 2 3 v2 rfl rfl
  obtain ⟨a0, q0⟩ := r0 opens_time
  obtain ⟨t0, i0, rfl⟩ := top_time o0 q0
  obtain ⟨a1, q1⟩ := r1 (opens_str Try.underlying9)
  obtain ⟨rfl, w1⟩ := top_str Try.underlying9 o1 q1
  obtain ⟨a2, q2⟩ := r2 (opens_int Try.underlying3)
  obtain ⟨rfl, w2⟩ := top_int Try.underlying3 o2 q2
  exact walk t0 a1 a2 i0 w1 w2 W

/-! ### The row -/
theorem own : ownKnob Try.prog.godebug = none := by kernel_rfl
theorem laidOut : laidOutB Try.prog = true := by kernel_rfl
set_option maxRecDepth 100000 in
theorem lifted (os : Os) (started : os.Started) (H : Type) (enc : TypeId × Value → H) :
    ReturnsInHanded {} Try.checked os 5 .any (Rows.stampBytesSpec.pre6 enc Try.prog Try.f5 Rows.stampBytesRow.domain false) (Rows.stampBytesSpec.post enc Try.prog Try.f5 false true false false) :=
  lift (C := Try.checked) (fn := Try.f5) (tb := 4) (ts := [25, 9, 3]) own started (by kernel_rfl) Try.func5 laidOut (by kernel_rfl) (by kernel_rfl) (by kernel_rfl) Try.underlying4 rfl
    (fun ds h => by
      match ds, h with
      | [_, _, _], _ => rfl)
    (ChangeSpec.witness6 (enc := enc) (C := Try.checked) false ⟨#[], #[.agg #[.int .u32 0, .int .i64 0, .int .u32 0, .int .u32 0, .int .u32 0], .string ByteArray.empty, .int .i64 0], []⟩ 8 (by kernel_rfl) (by kernel_rfl) (by kernel_rfl) (by kernel_rfl)) told

theorem over : Rows.stampBytesRow.holds Try.pinned (OpenSpec.ofChange Rows.stampBytesSpec) :=
  OpenClaim.holds_of_wide 5 Try.f5 rfl rfl rfl rfl rfl rfl rfl ⟨rfl, rfl, rfl, rfl, rfl⟩ rfl rfl rfl rfl rfl (by kernel_rfl) Try.func5 (by kernel_rfl)
    (of_decide_eq_true (by kernel_rfl)) (by unfold Func.isWrapper; first | (rw [if_pos (by decide +kernel)]; kernel_rfl) | (rw [if_neg (by decide +kernel)]; exact ⟨rfl, rfl⟩))
    (fun os started H enc _ => lifted os started H enc)

theorem proved : Rows.StampBytesSaid := over
#print axioms proved
end Go.Proofs.Ytehcnnjhgiiehaa.stampBytes
