/-
  The contracts of stepOn, Sync, Remove, Read and Lasts.
-/
import Derived.Test.YtkfjgmfokpgcbaaJKu
namespace Go.Proofs.Ytkfjgmfokpgcbaa.disk
open Go.ChangeShapes Go.WideShapes Go.ChangeAt Go.RowKit Go.Maps Go.WideMaps
open Go.Proofs.Ytkfjgmfokpgcbaa.words Go.Proofs.Ytkfjgmfokpgcbaa.opened Go.Proofs.Ytkfjgmfokpgcbaa.block

theorem isSome_lk {E : List Fe} {D : Dk} (h : E.map Fe.f = D.F) (n : Bs) : (lkE E n).isSome = decide (lk D.F n ≠ none) := by
  rw [← h, lk_map]
  cases lkE E n <;> simp
theorem turn_g {w w1 w2 : World} {g : Nat} (b : Below w.heap.size w w1) (h : w1.grownBy w2 (some g)) : Turn w w2 (fun k => k = g) :=
  (turn_below b _).trans (turn_grown h (S := fun k => k = g) (fun k e => by cases e; rfl)) fun j hj => .inl hj
theorem two_below {w : World} {w1 : World} {o : Obj} (b : Below w.heap.size w w1) : Below w.heap.size w (w1.alloc o) := b.trans ((fresh1' w1 o).mono b.size)
set_option maxRecDepth 100000 in
theorem stepOn_any {g mb : Nat} {D : Dk} {E : List Fe} (n : Bs) (hn : n.length ≤ 100000) (h1 : D.left ≤ 9223372036854775807) (w : World) (h : DiskE w g mb D E) :
    Calls Try.prog 36 #[.pointer (some ⟨g, 0, none⟩), sV n] w fun e w' => e = .returned (.int .i64 (onE D n)) ∧ DiskE w' g mb (onV D n) E ∧ Turn w w' (fun k => k = g) := by
  have HC := Lib.hid (check_any n hn w h)
  have H := Lib.hid h
  have HL : Hid (∀ w1, Below w.heap.size w w1 → (Instr.lookup 52 (.map (some mb)) (sV n) true).run Try.prog w1 = .ok (.tuple #[(lookE E n).val, .bool (lkE E n).isSome]) w1) := Lib.hid (fun w1 b => look_ok_run (h.below b).own h.ok hn)
  have HK : Hid (∀ w1, Below w.heap.size w w1 → w1.cell? ⟨g, 0, none⟩ = some (.map (some mb)) ∧ w1.frozen? ⟨g, 0, none⟩ = false) := Lib.hid (fun w1 b => ⟨(h.below b).cells.read 0, (h.below b).cells.soft 0⟩)
  have HS : Hid (∀ w1, Below w.heap.size w w1 → Calls Try.prog 32 #[.pointer (some ⟨g, 0, none⟩)] w1 fun e w' => e = .returned (.int .i64 (stpE D)) ∧ DiskE w' g mb (stpV D) E ∧ w1.grownBy w' (some g) ∧ w'.heap.size = w1.heap.size) := Lib.hid (fun w1 b => step_any h1 w1 (h.below b))
  have HE : Hid (onE D n = if chk D n ≠ 0 then chk D n else if lk D.F n = none then 3 else stpE D) := Lib.hid rfl
  have HV : Hid (onV D n = if chk D n = 0 ∧ lk D.F n ≠ none then stpV D else D) := Lib.hid rfl
  have hSm := isSome_lk h.fs n
  rw [hSm] at HL
  clear h h1 hSm
  generalize onE D n = oe at HE ⊢
  generalize onV D n = ov at HV ⊢
  generalize lookE E n = e0 at HL
  generalize chk D n = k at HC HE HV
  by_cases hk : k = 0
  · subst hk
    by_cases hf : lk D.F n = none
    · have e1 : oe = 3 := by have := HE.out; rw [if_neg (by simp), if_pos hf] at this; exact this
      have e2 : ov = D := by have := HV.out; rw [if_neg (by simp [hf])] at this; exact this
      rw [decide_eq_false (by simp [hf])] at HL
      subst e1 e2
      clear HE HV hf HS
      go_enter Try.func36, Try.ntmps36
      go_upto_region 4 with (go_at_call 30; refine HC.out.mono ?_; rintro e w1 ⟨rfl, b1⟩; have B1 := Lib.hid b1; clear b1)
      obtain ⟨k0, k1⟩ := HK.out w1 B1.out
      have hlk := HL.out w1 B1.out
      go_wp2_with fail
      go_ret
      exact ⟨rfl, H.out.below (two_below B1.out), turn_below (two_below B1.out) _⟩
    · have e1 : oe = stpE D := by have := HE.out; rw [if_neg (by simp), if_neg hf] at this; exact this
      have e2 : ov = stpV D := by have := HV.out; rw [if_pos ⟨rfl, hf⟩] at this; exact this
      rw [decide_eq_true hf] at HL
      subst e1 e2
      clear HE HV hf
      generalize stpE D = se at HS ⊢
      generalize stpV D = sv at HS ⊢
      go_enter Try.func36, Try.ntmps36
      go_upto_region 4 with (go_at_call 30; refine HC.out.mono ?_; rintro e w1 ⟨rfl, b1⟩; have B1 := Lib.hid b1; clear b1)
      obtain ⟨k0, k1⟩ := HK.out w1 B1.out
      have hlk := HL.out w1 B1.out
      go_wp2_with (go_at_call 32; refine (HS.out _ (two_below B1.out)).mono ?_; rintro e w2 ⟨rfl, d2, g2, -⟩; have D2 := Lib.hid d2; have G2 := Lib.hid g2; clear d2 g2)
      go_ret
      exact ⟨rfl, D2.out, turn_g (two_below B1.out) G2.out⟩
  · have e1 : oe = k := by have := HE.out; rw [if_pos hk] at this; exact this
    have e2 : ov = D := by have := HV.out; rw [if_neg (by simp [hk])] at this; exact this
    subst e1 e2
    have hk' : (oe == 0) = false := by simpa using hk
    clear hk HE HV HL HS HK
    go_enter Try.func36, Try.ntmps36
    go_wp2_with (go_at_call 30; refine HC.out.mono ?_; rintro e w1 ⟨rfl, b1⟩; have B1 := Lib.hid b1; clear b1)
    go_ret
    exact ⟨rfl, H.out.below B1.out, turn_below B1.out _⟩
end Go.Proofs.Ytkfjgmfokpgcbaa.disk
