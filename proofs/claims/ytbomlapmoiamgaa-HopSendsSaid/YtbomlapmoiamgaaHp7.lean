/-
  hop.Write (by gen_hp7.py).
-/
import Derived.Test.YtbomlapmoiamgaaHp6
set_option linter.unusedSimpArgs false
set_option linter.unusedVariables false
namespace Go.Proofs.Ytbomlapmoiamgaa.hop
open Go.ChangeShapes Go.WideShapes Go.ChangeAt Go.RowKit
open Go.Proofs.Ytbomlapmoiamgaa.opened Go.Proofs.Ytbomlapmoiamgaa.block Go.Proofs.Ytbomlapmoiamgaa.words Go.Proofs.Ytbomlapmoiamgaa.region Go.Proofs.Ytbomlapmoiamgaa.enc Go.Proofs.Ytbomlapmoiamgaa.code Go.Proofs.Ytbomlapmoiamgaa.crcm Go.Proofs.Ytbomlapmoiamgaa.crc
def bodyF (f : Fm) : Bs := enc f.k.toNat ++ enc f.f.toNat ++ enc f.e.toNat ++ enc f.n.toNat ++ f.s
def wrV (f : Fm) : Bs := if chkF f = 0 then sealL (bodyF f) else []
theorem chk_ok {f : Fm} (h : chkF f = 0) : (1 ≤ f.k ∧ f.k ≤ 2) ∧ (0 ≤ f.f ∧ f.f ≤ 1000) ∧ (1 ≤ f.e ∧ f.e ≤ 1073741824) ∧ (0 ≤ f.n ∧ f.n ≤ 1099511627776) ∧ f.s.length ≤ 6000 := by
  unfold chkF at h
  split at h
  · rename_i h1
    split at h
    · rename_i h2
      split at h
      · cases h
      · refine ⟨h1.1, h1.2.1, h1.2.2, ⟨?_, h2.1.2⟩, by omega⟩
        have := h2.1.1
        unfold leastN at this
        split at this <;> omega
    · cases h
  · cases h
theorem chk_bd (f : Fm) : chkF f = 0 ∨ chkF f = 6 ∨ chkF f = 7 := by
  unfold chkF
  split
  · split
    · split
      · exact .inr (.inr rfl)
      · exact .inl rfl
    · exact .inr (.inl rfl)
  · exact .inr (.inl rfl)
theorem cat5 (a b c d s : Bs) : (⟨a.toArray⟩ : ByteArray) ++ (⟨b.toArray⟩ : ByteArray) ++ (⟨c.toArray⟩ : ByteArray) ++ (⟨d.toArray⟩ : ByteArray) ++ (⟨s.toArray⟩ : ByteArray) = ⟨(a ++ b ++ c ++ d ++ s).toArray⟩ := ByteArray.ext (by simp)
section
variable {w : World}
set_option maxRecDepth 100000 in
set_option maxHeartbeats 4000000 in
theorem write_any (f : Fm) (hl : f.s.length ≤ 140737488351232) : Calls Try.prog 54 #[.agg (fmC f)] w fun e w' => e = .returned (.tuple #[sV (wrV f), .int .i64 (chkF f)]) ∧ Below w.heap.size w w' := by
  have HCk := Lib.hid (fun (w1 : World) => check_any (w := w1) f hl)
  unfold wrV bodyF
  by_cases h0 : chkF f = 0
  · obtain ⟨⟨k0, k1⟩, ⟨f0, f1⟩, ⟨e0, e1⟩, ⟨n0, n1⟩, hs⟩ := chk_ok h0
    rw [if_pos h0, h0]
    rw [h0] at HCk
    clear h0 hl
    obtain ⟨k, f, e, n, s⟩ := f
    change Calls Try.prog 54 #[.agg #[.int .i64 k, .int .i64 f, .int .i64 e, .int .i64 n, sV s]] w _
    dsimp only at k0 k1 f0 f1 e0 e1 n0 n1 hs ⊢
    have B0 : Hid (Below w.heap.size w (w.alloc (.cells (fmC ⟨k, f, e, n, s⟩) 88))) := Lib.hid (fresh1 w _)
    have R0 : Hid (Whole (w.alloc (.cells (fmC ⟨k, f, e, n, s⟩) 88)) w.heap.size 88 (fmC ⟨k, f, e, n, s⟩)) := Lib.hid (Whole.fresh w 88 _)
    have Nk := Lib.hid (fun (w1 : World) => numI_any k (by omega) (by omega) w1)
    have Nf := Lib.hid (fun (w1 : World) => numI_any f (by omega) (by omega) w1)
    have Ne := Lib.hid (fun (w1 : World) => numI_any e (by omega) (by omega) w1)
    have Nn := Lib.hid (fun (w1 : World) => numI_any n (by omega) (by omega) w1)
    have u1 : IntKind.u64.wrap k = k := by simp only [IntKind.wrap_u64]; omega
    have u2 : IntKind.u64.wrap f = f := by simp only [IntKind.wrap_u64]; omega
    have u3 : IntKind.u64.wrap e = e := by simp only [IntKind.wrap_u64]; omega
    have u4 : IntKind.u64.wrap n = n := by simp only [IntKind.wrap_u64]; omega
    have l1 := len_enc k.toNat
    have l2 := len_enc f.toNat
    have l3 := len_enc e.toNat
    have l4 := len_enc n.toNat
    clear k0 k1 f0 f1 e0 e1 n0 n1
    generalize enc k.toNat = x1 at Nk l1 ⊢
    generalize enc f.toNat = x2 at Nf l2 ⊢
    generalize enc e.toNat = x3 at Ne l3 ⊢
    generalize enc n.toNat = x4 at Nn l4 ⊢
    have HS := Lib.hid (fun (w1 : World) => seal_any (x1 ++ x2 ++ x3 ++ x4 ++ s) (by simp only [List.length_append]; omega) w1)
    rw [← cat5] at HS
    generalize sealL (x1 ++ x2 ++ x3 ++ x4 ++ s) = r at HS ⊢
    have a1 : ¬ 9223372036854775807 < x1.length + x2.length := by omega
    have a2 : ¬ 9223372036854775807 < x1.length + x2.length + x3.length := by omega
    have a3 : ¬ 9223372036854775807 < x1.length + x2.length + x3.length + x4.length := by omega
    have a4 : ¬ 9223372036854775807 < x1.length + x2.length + x3.length + x4.length + s.length := by omega
    clear l1 l2 l3 l4 hs
    go_enter Try.func54, Try.ntmps54
    go_upto_region 1 with fail
    change Code.wp _ _ _ _ (w.alloc (.cells (fmC ⟨k, f, e, n, s⟩) 88))
    generalize w.alloc (.cells (fmC ⟨k, f, e, n, s⟩) 88) = W at B0 R0 ⊢
    generalize w.heap.size = gz at R0 ⊢
    have HK : Hid (∀ w1, Below W.heap.size W w1 → w1.cell? ⟨gz, 0, none⟩ = some (.int .i64 k) ∧ w1.cell? ⟨gz, 1, none⟩ = some (.int .i64 f) ∧ w1.cell? ⟨gz, 2, none⟩ = some (.int .i64 e) ∧ w1.cell? ⟨gz, 3, none⟩ = some (.int .i64 n) ∧ w1.cell? ⟨gz, 4, none⟩ = some (sV s)) := Lib.hid fun w1 hb => by
      have := R0.out.below hb R0.out.inside
      exact ⟨this.read 0, this.read 1, this.read 2, this.read 3, this.read 4⟩
    go_upto_region 4 with (first
      | (refine get rfl 88 (.tmp 1) rfl rfl R0.out Try.underlying88 rfl (by kernel_rfl) ?_)
      | (go_at_call 59; (with_reducible refine (HCk.out W).mono ?_); rintro r w1 ⟨rfl, b1⟩; have B1 := Lib.hid b1; clear b1))
    have z0 : ∀ y : Since W, y.1.cell? ⟨gz, 0, none⟩ = some (.int .i64 k) := fun y => (HK.out y.1 y.2).1
    have z1 : ∀ y : Since W, y.1.cell? ⟨gz, 1, none⟩ = some (.int .i64 f) := fun y => (HK.out y.1 y.2).2.1
    have z2 : ∀ y : Since W, y.1.cell? ⟨gz, 2, none⟩ = some (.int .i64 e) := fun y => (HK.out y.1 y.2).2.2.1
    have z3 : ∀ y : Since W, y.1.cell? ⟨gz, 3, none⟩ = some (.int .i64 n) := fun y => (HK.out y.1 y.2).2.2.2.1
    refine region_since W (by kernel_rfl) (by kernel_rfl) B1.out ?_
    repeat (go_big_quiet_step (first
      | (go_at_call 60; with_reducible exact since_callW (fun w1 _ => Nk.out w1) _)
      | (go_at_call 60; with_reducible exact since_callW (fun w1 _ => Nf.out w1) _)
      | (go_at_call 60; with_reducible exact since_callW (fun w1 _ => Ne.out w1) _)
      | (go_at_call 60; with_reducible exact since_callW (fun w1 _ => Nn.out w1) _)))
    refine wpQuiet_nil ?_
    rintro w4 ⟨z, rfl⟩
    have y4 := (HK.out z.1 z.2).2.2.2.2
    have B4 := Lib.hid z.2
    clear z0 z1 z2 z3
    generalize z.1 = w4 at y4 B4 ⊢
    go_wp2_with (go_at_call 61; (with_reducible refine (HS.out w4).mono ?_); rintro r w5 ⟨rfl, b5⟩; have B5 := Lib.hid (then_below B4.out b5); clear b5)
    go_ret2
    exact ⟨rfl, then_below B0.out B5.out⟩
  · rw [if_neg h0]
    have h0b : (chkF f != 0) = true := by simpa using h0
    obtain ⟨k, f, e, n, s⟩ := f
    change Calls Try.prog 54 #[.agg #[.int .i64 k, .int .i64 f, .int .i64 e, .int .i64 n, sV s]] w _
    have B0 : Hid (Below w.heap.size w (w.alloc (.cells (fmC ⟨k, f, e, n, s⟩) 88))) := Lib.hid (fresh1 w _)
    have R0 : Hid (Whole (w.alloc (.cells (fmC ⟨k, f, e, n, s⟩) 88)) w.heap.size 88 (fmC ⟨k, f, e, n, s⟩)) := Lib.hid (Whole.fresh w 88 _)
    generalize chkF ⟨k, f, e, n, s⟩ = ck at HCk h0b ⊢
    clear h0
    go_enter Try.func54, Try.ntmps54
    go_upto_region 1 with fail
    change Code.wp _ _ _ _ (w.alloc (.cells (fmC ⟨k, f, e, n, s⟩) 88))
    generalize w.alloc (.cells (fmC ⟨k, f, e, n, s⟩) 88) = W at B0 R0 ⊢
    generalize w.heap.size = gz at R0 ⊢
    go_wp2_with (first
      | (refine get rfl 88 (.tmp 1) rfl rfl R0.out Try.underlying88 rfl (by kernel_rfl) ?_)
      | (go_at_call 59; (with_reducible refine (HCk.out W).mono ?_); rintro r w1 ⟨rfl, b1⟩; have B1 := Lib.hid b1; clear b1))
    go_ret2
    exact ⟨rfl, then_below B0.out B1.out⟩
end
end Go.Proofs.Ytbomlapmoiamgaa.hop
