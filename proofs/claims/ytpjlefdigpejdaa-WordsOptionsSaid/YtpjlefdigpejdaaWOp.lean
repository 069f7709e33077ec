/-
  WordsOptions: what stands behind any name, in any words, is what the document says. No condition.
-/
import Derived.Test.YtpjlefdigpejdaaWa
namespace Go.Proofs.Ytpjlefdigpejdaa.words
open Go.ChangeShapes Go.WideShapes Go.ChangeAt Go.RowKit
open Go.Proofs.Ytpjlefdigpejdaa.opened Go.Proofs.Ytpjlefdigpejdaa.block

theorem run_app_none {P : Program} {w : World} (base : Nat) (t ty e : TypeId) (i : TypeInfo) (size : Nat) (ht : P.underlying t = some (.slice e)) (hi : P.info? e = some i)
    (v : Value) (n c : Nat) (xs : List Value) (hown : w.ownsRow base e size v n xs) :
    (Builtin.append_ #[t, t] ty #[v, .slice none 0 c]).run P w = .ok v w := by
  rcases hown.2 with ⟨rfl, rfl⟩ | ⟨g, cap, cur, rfl, _, _, hnc, _⟩
  · simp [Builtin.append_, run_underlying ht, sizeOf, typeInfo, hi, Builtin.lenOf, Builtin.firstCells]
  · simp [Builtin.append_, run_underlying ht, sizeOf, typeInfo, hi, Builtin.lenOf, Builtin.firstCells, hnc, storeCells]
theorem wp_app_none {P : Program} {w : World} {ops : Array Oper} {rest : List Oper} {o : Oper} {a : Act} {Q : Exit → Act → World → Prop} (hgd : o.guard = none) (s x : Operand) (t : TypeId)
    (ho : o.op = .call { callee := .builtin .append, args := #[s, x], argTypes := #[t, t] })
    (base : Nat) (e : TypeId) (i : TypeInfo) (size : Nat) (ht : P.underlying t = some (.slice e)) (hi : P.info? e = some i)
    (v : Value) (n c : Nat) (xs : List Value) (hs : a.eval s = v) (hown : w.ownsRow base e size v n xs) (hx : a.eval x = .slice none 0 c)
    (h : wpList P ops Q rest (a.put o.dst v) w) : wpList P ops Q (o :: rest) a w := by
  refine wpList_plain hgd fun K hK => ?_
  have hrun := run_app_none (P := P) (w := w) base t o.type e i size ht hi v n c xs hown
  unfold Oper.wp
  simp [execOp, ho, resolve, invoke, builtin, hs, hx, hrun, Result.andThen]
  exact hK _ _ h
theorem shapeS {w : World} {base : Nat} {v : Value} {N : List Bs} (h : OwnS w base v N) : ∃ B c, v = .slice B N.length c := by
  rcases h.2 with ⟨hv, hn⟩ | ⟨g, cap, cur, hv, -⟩
  · exact ⟨none, 0, by rw [hv, hn]⟩
  · exact ⟨_, _, hv⟩
theorem grown0S {W w1 : World} {base : Nat} {v : Value} {N : List Bs} (h : OwnS W base v N) (hb0 : base ≤ W.heap.size) (hg : W.grownBy w1 v.ownBlock) : Below base W w1 :=
  (Below.refl base W).grown hg hb0 fun j ej => by
    rcases h.2 with ⟨rfl, _⟩ | ⟨g, cap, cur, rfl, hb, _, _⟩
    · simp [Value.ownBlock] at ej
    · obtain rfl : g = j := by simpa [Value.ownBlock] using ej
      exact hb
theorem one_all (N : List Bs) : ∀ v ∈ N.map sV, v.oneCell' = true := by
  intro v hv
  obtain ⟨x, -, rfl⟩ := List.mem_map.1 hv
  rfl
/-- Strings appended to a row of one's own. -/
theorem wp_appS {w : World} {ops : Array Oper} {rest : List Oper} {o : Oper} {a : Act} {Q : Exit → Act → World → Prop} (hgd : o.guard = none) (s x : Operand)
    (ho : o.op = .call { callee := .builtin .append, args := #[s, x], argTypes := #[75, 75] })
    (base : Nat) (v : Value) (N : List Bs) (hs : a.eval s = v) (hown : OwnS w base v N) (A : Option Addr) (n c : Nat) (M : List Bs) (hx : a.eval x = .slice A n c) (hn : n = M.length) (hM : Ls w A M)
    (h1 : N.length + M.length ≤ 8192) (hbase : base ≤ w.heap.size)
    (h : ∀ B c' w', OwnS w' base (.slice B (N ++ M).length c') (N ++ M) → Below base w w' → wpList Try.prog ops Q rest (a.put o.dst (.slice B (N ++ M).length c')) w') : wpList Try.prog ops Q (o :: rest) a w := by
  obtain ⟨i0, hi0, hz0, hz1, hz2⟩ := infoS_parts
  subst hn
  have key : ∀ ad, A = some ad → (∀ j u, (M.map sV)[j]? = some u → w.cell? (ad.add j) = some u) → wpList Try.prog ops Q (o :: rest) a w := by
    intro ad hA hc
    subst hA
    refine wpList_append_own _ hgd s x 75 ho base 9 i0 (.string ByteArray.empty) 1 16 Try.underlying75 hi0 hz0 hz1 hz2 rfl (by decide) v N.length (N.map sV) hs hown ad M.length c (M.map sV) hx (by simp) hc (one_all _) (by unfold maxLen; omega) (by omega) hbase ?_
    intro v' w' hown' hg _
    have ho2 : OwnS w' base v' (N ++ M) := by unfold OwnS; rw [List.length_append, List.map_append]; exact hown'
    obtain ⟨B, c', hv⟩ := shapeS ho2
    subst hv
    exact h B c' w' ho2 (grown0S hown hbase hg)
  cases M with
  | nil =>
    cases A with
    | none =>
      refine wp_app_none hgd s x 75 ho base 9 i0 1 Try.underlying75 hi0 v N.length c (N.map sV) hs hown hx ?_
      obtain ⟨B, c', hv⟩ := shapeS hown
      subst hv
      have := h B c' w (by rw [List.append_nil]; exact hown) (Below.refl _ _)
      rwa [List.append_nil] at this
    | some ad => exact key ad rfl (by intro j u hj; simp at hj)
  | cons y r =>
    obtain ⟨b, off, rfl, hb, -⟩ := hM.at (k := 0) (x := y) rfl
    refine key _ rfl fun j u hj => ?_
    rcases hM with hM | ⟨b', off', hA, hb', hc⟩
    · simp at hM
    · cases hA
      have := hc j u hj
      rw [show (⟨b, off, none⟩ : Addr).add j = ⟨b, off + j, none⟩ by cases j <;> simp [Addr.add]]
      exact this
set_option maxRecDepth 100000 in
set_option maxHeartbeats 1000000 in
theorem walkO (A : Option Addr) (c : Nat) (l : List Bs) (name : Bs) (W : World) (_hM : MaxIs W) (hL : Ls W A l) :
    Calls Try.prog 10 #[.slice A l.length c, .string ⟨name.toArray⟩] W fun e w' => e = .returned (.bool true) ∧ Below W.heap.size W w' := by
  clear _hM
  have L0 := Lib.hid hL
  clear hL
  by_cases h1 : l.length ≤ 100
  · have h1' : ¬ (100 : Int) < (l.length : Int) := by omega
    by_cases h2 : name.length ≤ 1000
    · have h2' : ¬ (1000 : Int) < (name.length : Int) := by omega
      go_enter Try.func10, Try.ntmps10
      go_wp2_with fail
      go_loop [5] (fun iv => ∃ k : Nat, k ≤ l.length ∧ iv = .int .i64 k ∧ Hid (∀ x ∈ l.take k, x.length ≤ 1000)) (fun iv => l.length - (intOf iv).toNat)
      case atStart => exact ⟨0, Nat.zero_le _, rfl, Lib.hid (by simp)⟩
      case round =>
        obtain ⟨k, hk, rfl, HN⟩ := hrel
        by_cases hlt : k < l.length
        · obtain ⟨x, hx⟩ : ∃ x, l[k]? = some x := ⟨_, List.getElem?_eq_getElem hlt⟩
          obtain ⟨b, off, hA, hb, hc⟩ := L0.out.at hx
          have HX := Lib.hid hx
          subst hA
          clear hx
          by_cases hxl : x.length ≤ 1000
          · have hxl' : ¬ (1000 : Int) < (x.length : Int) := by omega
            have HQ : Hid (∀ y ∈ l.take (k + 1), y.length ≤ 1000) := Lib.hid (by
              intro y hy
              rw [List.take_add_one, HX.out] at hy
              rcases List.mem_append.1 hy with hy | hy
              · exact HN.out y hy
              · simp at hy
                rw [hy]
                exact hxl)
            go_wp2_with fail
            go_round
            case rel => exact ⟨k + 1, by omega, by go_num, HQ⟩
            case measure => simp [intOf]; omega
          · have hxl' : (1000 : Int) < (x.length : Int) := by omega
            go_wp2_with fail
            go_ret
            exact ⟨rfl, Below.refl _ _⟩
        · have hkk : k = l.length := by omega
          subst hkk
          have HAll : Hid (∀ x ∈ l, x.length ≤ 100000) := Lib.hid (fun x hx => by have := HN.out x (by rw [List.take_length]; exact hx); omega)
          have HC := Lib.hid (fun (B : Option Addr) (c' : Nat) w hw => option_any B c' l name (by omega) (by omega) w hw)
          have HR := Lib.hid (optionR_any A c l name (by omega) (by omega) HAll.out)
          generalize (optL name l).1 = o1 at HC HR
          generalize (optL name l).2 = o2 at HC HR
          go_wp2_with (at_builtin; refine wp_appS rfl _ _ rfl W.heap.size _ [] rfl (ownS_lit W [] (by simp) #[] rfl) A l.length c l rfl rfl (L0.out.below (fresh1 W _)) (by simp; omega) (by simp) ?_; intro B c' w5 hown5 b5; rw [List.nil_append] at hown5 ⊢; have HO5 := Lib.hid hown5.lies; have HB5 := Lib.hid ((fresh1 W (.cells #[] 9)).trans b5); clear hown5 b5)
          refine (HC.out _ _ _ HO5.out).mono ?_
          rintro e w6 ⟨rfl, rfl⟩
          go_wp2_with fail
          refine (HR.out _ (L0.out.below HB5.out)).mono ?_
          rintro e w7 ⟨rfl, rfl⟩
          cases o2
          all_goals
            go_wp2_with fail
            go_ret
            exact ⟨by first | rfl | simp, HB5.out⟩
    · have h2' : (1000 : Int) < (name.length : Int) := by omega
      go_enter Try.func10, Try.ntmps10
      go_wp2_with fail
      go_ret
      exact ⟨rfl, Below.refl _ _⟩
  · have h1' : (100 : Int) < (l.length : Int) := by omega
    go_enter Try.func10, Try.ntmps10
    go_wp2_with fail
    go_ret
    exact ⟨rfl, Below.refl _ _⟩
set_option maxRecDepth 100000 in
theorem told (W : World) (args : Array Value) (hE : MaxIs W) (h : Fed Try.prog W [75, 9] args) : Calls Try.prog 10 args W fun e W' => e = .returned (.bool true) ∧ Below W.heap.size W W' := by
  obtain ⟨v0, v1, rfl⟩ := args2 h.count
  obtain ⟨⟨_, o0⟩, r0⟩ := h.each 0 75 v0 rfl rfl
  obtain ⟨⟨_, o1⟩, r1⟩ := h.each 1 9 v1 rfl rfl
  obtain ⟨a0, q0⟩ := r0 opens_strs
  obtain ⟨A0, c0, L0, rfl, hL0, -⟩ := top_strs o0 q0
  obtain ⟨a1, q1⟩ := r1 (opens_str Try.underlying9)
  obtain ⟨rfl, -⟩ := top_str Try.underlying9 o1 q1
  obtain ⟨s1, rfl⟩ : ∃ s : Bs, a1 = ⟨s.toArray⟩ := ⟨a1.data.toList, (Lib.mk_data a1).symm⟩
  exact walkO A0 c0 L0 s1 W hE hL0

/-! ### The row -/
set_option maxRecDepth 100000 in
theorem lifted (os : Os) (started : os.Started) (H : Type) (enc : TypeId × Value → H) :
    ReturnsInHanded {} Try.checked os 10 .any (Rows.wordsOptionsSpec.pre6 enc Try.prog Try.f10 Rows.wordsOptionsRow.domain false) (Rows.wordsOptionsSpec.post enc Try.prog Try.f10 false true false false) :=
  liftM (ts := [75, 9]) started (by kernel_rfl) Try.func10 (by kernel_rfl) (by kernel_rfl) (by kernel_rfl) rfl
    (fun ds h => by
      match ds, h with
      | [_, _], _ => rfl)
    (ChangeSpec.witness6 (enc := enc) (C := Try.checked) false ⟨#[], #[.slice none 0 0, .string ByteArray.empty], []⟩ 8 (by kernel_rfl) (by kernel_rfl) (by kernel_rfl) (by kernel_rfl)) told

theorem over : Rows.wordsOptionsRow.holds Try.pinned (OpenSpec.ofChange Rows.wordsOptionsSpec) :=
  OpenClaim.holds_of_wide 10 Try.f10 rfl rfl rfl rfl rfl rfl rfl ⟨rfl, rfl, rfl, rfl, rfl⟩ rfl rfl rfl rfl rfl (by kernel_rfl) Try.func10 (by kernel_rfl)
    (of_decide_eq_true (by kernel_rfl)) (by unfold Func.isWrapper; first | (rw [if_pos (by decide +kernel)]; kernel_rfl) | (rw [if_neg (by decide +kernel)]; exact ⟨rfl, rfl⟩))
    (fun os started H enc _ => lifted os started H enc)

theorem proved : Rows.WordsOptionsSaid := over
#print axioms proved
end Go.Proofs.Ytpjlefdigpejdaa.words
