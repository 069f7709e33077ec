/-
  A sender and a receiver side by side: what each call does to both.
-/
import Derived.Test.YtbomlapmoiamgaaHp5
set_option linter.unusedSimpArgs false
set_option linter.unusedVariables false
namespace Go.Proofs.Ytbomlapmoiamgaa.hop
open Go.ChangeShapes Go.WideShapes Go.ChangeAt Go.RowKit
open Go.Proofs.Ytbomlapmoiamgaa.opened Go.Proofs.Ytbomlapmoiamgaa.block Go.Proofs.Ytbomlapmoiamgaa.words Go.Proofs.Ytbomlapmoiamgaa.region
/-- What senders and receivers lie in. -/
def HObj (o : Obj) : Prop := ∃ cs f t, o = .cells cs t f ∧ (t = 99 ∨ t = 85 ∨ t = 109)
/-- Nothing else has turned. -/
def TW (w w' : World) : Prop := ∀ (k : Nat) (o : Obj), w.heap[k]? = some o → ¬ HObj o → w'.heap[k]? = some o
theorem TW.refl (w : World) : TW w w := fun _ _ h _ => h
theorem TW.trans {a b c : World} (h : TW a b) (k : TW b c) : TW a c := fun j o ho hn => k j o (h j o ho hn) hn
theorem TW.of {w w' : World} (h : Below w.heap.size w w') : TW w w' := fun k o ho _ => (h.block k (Array.getElem?_eq_some_iff.1 ho).1).trans ho
theorem TW.turn {w w' : World} {S : Nat → Prop} (h : TurnS w w' S) (hs : ∀ k, k < w.heap.size → S k → ∃ o, w.heap[k]? = some o ∧ HObj o) : TW w w' := fun k o ho hn => by
  have hk := (Array.getElem?_eq_some_iff.1 ho).1
  by_cases hS : S k
  · obtain ⟨o', ho', hh⟩ := hs k hk hS
    rw [ho] at ho'
    cases ho'
    exact absurd hh hn
  · exact (h.block k hk hS).trans ho
theorem own_tw {α : Type} {m : Nat} {f : α → List Value} {T : TypeId} {w w' : World} {base : Nat} {v : Value} {N : List α} (h : OwnG T m f w base v N) (k : TW w w') (h1 : T ≠ 99) (h2 : T ≠ 85) (h3 : T ≠ 109) : OwnG T m f w' base v N := by
  refine ⟨h.1, ?_⟩
  rcases h.2 with hx | ⟨b, cap, cur, hv, hb, hh, rest⟩
  · exact .inl hx
  · refine .inr ⟨b, cap, cur, hv, hb, k b _ hh ?_, rest⟩
    rintro ⟨cs, f, t, e, ht⟩
    injection e with _ e
    subst e
    rcases ht with ht | ht | ht
    · exact h1 ht
    · exact h2 ht
    · exact h3 ht
theorem own_turn {α : Type} {m : Nat} {f : α → List Value} {T : TypeId} {w w' : World} {base : Nat} {v : Value} {N : List α} {S : Nat → Prop} (h : OwnG T m f w base v N) (k : TurnS w w' S) (hs : ∀ j, S j → j < base) : OwnG T m f w' base v N := by
  refine ⟨h.1, ?_⟩
  rcases h.2 with hx | ⟨b, cap, cur, hv, hb, hh, rest⟩
  · exact .inl hx
  · exact .inr ⟨b, cap, cur, hv, hb, (k.block b (Array.getElem?_eq_some_iff.1 hh).1 (fun e => by have := hs b e; omega)).trans hh, rest⟩
structure WkE (w0 w : World) (g gr : Nat) (S : Sn) (R : Rv) (A : Option Addr) (c : Nat) : Prop where
  s : SnE w0.heap.size w g S A c
  r : Whole w gr 109 (rvC R)
  rb : w0.heap.size ≤ gr
  below : Below w0.heap.size w0 w
section
variable {w0 w w' : World} {g gr : Nat} {S : Sn} {R : Rv} {A : Option Addr} {c : Nat}
theorem WkE.rs (h : WkE w0 w g gr S R A c) : ¬ SnS g A gr := fun e => by
  obtain ⟨cs, hx | hx⟩ := h.s.ty e
  · exact obj_ne hx h.r (ty_ne (by decide)) rfl
  · exact obj_ne hx h.r (ty_ne (by decide)) rfl
theorem WkE.tw (h : WkE w0 w g gr S R A c) (k : TurnS w w' (SnS g A)) : TW w w' := TW.turn k fun j _ hj => by
  obtain ⟨cs, hx | hx⟩ := h.s.ty hj
  · exact ⟨_, hx, cs, _, _, rfl, .inl rfl⟩
  · exact ⟨_, hx, cs, _, _, rfl, .inr (.inl rfl)⟩
theorem WkE.twr (h : WkE w0 w g gr S R A c) (k : TurnS w w' (· = gr)) : TW w w' := TW.turn k fun j _ hj => by
  subst hj
  exact ⟨_, h.r, _, _, _, rfl, .inr (.inr rfl)⟩
theorem WkE.after (h : WkE w0 w g gr S R A c) (k : TurnS w w' (SnS g A)) {S' : Sn} {A' : Option Addr} {c' : Nat} (hs : SnE w0.heap.size w' g S' A' c') : WkE w0 w' g gr S' R A' c' :=
  ⟨hs, whole_turn h.r k h.rs, h.rb, h.below.trans (k.below (h.s.le) fun j hj => (h.s.sns hj).1)⟩
theorem WkE.more (h : WkE w0 w g gr S R A c) (b : Below w.heap.size w w') : WkE w0 w' g gr S R A c := ⟨h.s.below b, h.r.below b h.r.inside, h.rb, then_below h.below b⟩
theorem wk_put (h : WkE w0 w g gr S R A c) (G : GoodS S) (t : Bs) (htl : t.length ≤ 140737488351232) {n e : Int} (hn : putN S t = n) (he : putE S t = e) {V : Sn} (hv : putV S t = V) : Calls Try.prog 27 #[.pointer (some ⟨g, 0, none⟩), sV t] w fun x w' => x = .returned (.tuple #[.int .i64 n, .int .i64 e]) ∧ (∃ A' c', WkE w0 w' g gr V R A' c') ∧ TW w w' := by
  subst hn he hv
  refine (put_any h.s G t htl).mono ?_
  rintro x w' ⟨rfl, A', c', h1, h2⟩
  exact ⟨rfl, ⟨A', c', h.after h2 h1⟩, h.tw h2⟩
theorem wk_ack (h : WkE w0 w g gr S R A c) (G : GoodS S) (e n : Int) {b : Bool} (hb : ackB S e n = b) {V : Sn} (hv : ackV S e n = V) : Calls Try.prog 29 #[.pointer (some ⟨g, 0, none⟩), .int .i64 e, .int .i64 n] w fun x w' => x = .returned (.bool b) ∧ WkE w0 w' g gr V R A c ∧ TurnS w w' (SnS g A) ∧ TW w w' := by
  subst hb hv
  refine (acked_any h.s G e n).mono ?_
  rintro x w' ⟨rfl, h1, h2⟩
  exact ⟨rfl, h.after h2 h1, h2, h.tw h2⟩
theorem wk_tick (h : WkE w0 w g gr S R A c) (G : GoodS S) {V : Sn} (hv : tickV S = V) : Calls Try.prog 31 #[.pointer (some ⟨g, 0, none⟩)] w fun x w' => x = .returned (.tuple #[]) ∧ WkE w0 w' g gr V R A c ∧ TurnS w w' (SnS g A) ∧ TW w w' := by
  subst hv
  refine (tick_any h.s G).mono ?_
  rintro x w' ⟨rfl, h1, h2⟩
  exact ⟨rfl, h.after h2 h1, h2, h.tw h2⟩
theorem wk_out (h : WkE w0 w g gr S R A c) (G : GoodS S) {V : Sn} (hv : outV S = V) {M : List It} (hm : outL S = M) : Calls Try.prog 35 #[.pointer (some ⟨g, 0, none⟩)] w fun x w' => ∃ A2 c2, x = .returned (.slice A2 M.length c2) ∧ OwnG 85 2 cI w' w.heap.size (.slice A2 M.length c2) M ∧ WkE w0 w' g gr V R A c ∧ TurnS w w' (SnS g A) ∧ TW w w' := by
  subst hv hm
  refine (out_any h.s G).mono ?_
  rintro x w' ⟨A2, c2, rfl, h0, h1, h2⟩
  exact ⟨A2, c2, rfl, h0, h.after h2 h1, h2, h.tw h2⟩
theorem wk_state (h : WkE w0 w g gr S R A c) (G : GoodS S) : Calls Try.prog 37 #[.pointer (some ⟨g, 0, none⟩)] w fun e w' => e = .returned (.tuple #[.int .i64 S.a, .int .i64 (nextV S), .int .i64 S.L.length]) ∧ WkE w0 w' g gr S R A c ∧ Below w.heap.size w w' := by
  refine (state_any h.s G).mono ?_
  rintro x w' ⟨rfl, hb⟩
  exact ⟨rfl, h.more hb, hb⟩
theorem wk_take (h : WkE w0 w g gr S R A c) (hl0 : 0 ≤ R.l) (hl : R.l < 4611686018427387904) (e n : Int) {b : Bool} (hb : takeB R e n = b) {V : Rv} (hv : takeV R e n = V) : Calls Try.prog 42 #[.pointer (some ⟨gr, 0, none⟩), .int .i64 e, .int .i64 n] w fun x w' => x = .returned (.bool b) ∧ WkE w0 w' g gr S V A c ∧ TurnS w w' (· = gr) ∧ TW w w' := by
  subst hb hv
  refine (take_any h.r hl hl0 e n).mono ?_
  rintro x w' ⟨rfl, h1, h2⟩
  refine ⟨rfl, ⟨h.s.turn h2 fun j hj e => ?_, h1, h.rb, h.below.trans (h2.below h.s.le fun j hj => by subst hj; exact h.rb)⟩, h2, h.twr h2⟩
  subst e
  exact h.rs hj
theorem wk_last (h : WkE w0 w g gr S R A c) : Calls Try.prog 41 #[.pointer (some ⟨gr, 0, none⟩)] w fun e w' => e = .returned (.tuple #[.int .i64 R.e, .int .i64 R.l]) ∧ WkE w0 w' g gr S R A c ∧ Below w.heap.size w w' := by
  refine (last_any h.r).mono ?_
  rintro x w' ⟨rfl, hb⟩
  exact ⟨rfl, h.more hb, hb⟩
end
end Go.Proofs.Ytbomlapmoiamgaa.hop
