/-
  A map from names to their last places, as the parse of a graph keeps it.
  What the program's parse of a graph calls: the number, the place of the name behind a word's front.
-/
import Derived.Test.YtpblpjopinllcaaGreatDoorJGsc
import Derived.Maps.RangeWalk
import Derived.StringKeys
import Derived.WalkKit
import Derived.Test.YtpblpjopinllcaaGreatDoorJNw
import Derived.Test.YtpblpjopinllcaaGreatDoorJGw
set_option linter.unusedSimpArgs false
set_option linter.unusedVariables false
namespace Go.Proofs.YtpblpjopinllcaaGreatDoor.graph
open Go.ChangeShapes Go.WideShapes Go.ChangeAt Go.RowKit Go.Maps Go.WideMaps
open Go.Proofs.YtpblpjopinllcaaGreatDoor.words Go.Proofs.YtpblpjopinllcaaGreatDoor.opened Go.Proofs.YtpblpjopinllcaaGreatDoor.block

def kN (n : Bs) : Lit := .string n
theorem isKN (n : Bs) : WideAt.IsKeyLit (kN n) := by trivial
theorem kN_inj {m n : Bs} (h : kN m = kN n) : m = n := by injection h
def litI (k : Nat) : DataW Nat := .lit (.int .i64 (k : Int))
theorem litI_inj {m n : Nat} (h : litI m = litI n) : m = n := by
  unfold litI at h
  injection h with h
  injection h with _ h
  exact Int.ofNat.inj h
/-- What the map holds, of names the other way round. -/
def entR : List Bs → List (Lit × DataW Nat)
  | [] => []
  | x :: r => (kN x, litI r.length) :: (entR r).filter fun p => !p.1.sameKey (kN x)
theorem mem_entR : ∀ {M : List Bs} {p : Lit × DataW Nat}, p ∈ entR M ↔ ∃ n k, p = (kN n, litI k) ∧ revIx M n = some k
  | [], p => by simp [entR, revIx]
  | x :: r, p => by
    unfold entR
    rw [List.mem_cons, List.mem_filter, mem_entR]
    constructor
    · rintro (rfl | ⟨⟨n, k, rfl, h⟩, hs⟩)
      · exact ⟨x, r.length, rfl, by simp [revIx]⟩
      · refine ⟨n, k, rfl, ?_⟩
        unfold revIx
        rw [if_neg, h]
        rintro rfl
        rw [show ((kN x, litI k) : Lit × DataW Nat).1 = kN x from rfl, WideAt.sameKey_self (isKN x)] at hs
        simp at hs
    · rintro ⟨n, k, rfl, h⟩
      unfold revIx at h
      split at h
      · rename_i e
        left
        rw [e, Option.some.inj h]
      · rename_i e
        right
        refine ⟨⟨n, k, rfl, h⟩, ?_⟩
        show (!(kN n).sameKey (kN x)) = true
        rw [Maps.sameKey_ne (fun h => e (kN_inj h).symm)]
        rfl
/-- Block b is a map that holds the last place of each of these names. -/
def OwnI (w : World) (b : Nat) (N : List Bs) : Prop :=
  ∃ es : List (Lit × DataW Nat), es.Perm (entR N.reverse) ∧ w.ownsMap Tryz.prog 9 (plainElem Tryz.prog 3) b es.length (.map es)
theorem keyS : Keyed Tryz.prog 9 := string_keyed Tryz.underlying9
theorem keyOfS {n : Bs} (h : n.length ≤ 100000) : keyOf Tryz.prog 9 (sV n) = some (kN n) :=
  keyOf_string_mk (s := ⟨n.toArray⟩) Tryz.underlying9 (by show n.toArray.size ≤ maxLen; unfold maxLen; simp; omega)
theorem ownI_tight {w : World} {n b : Nat} {es : List (Lit × DataW Nat)} (h : w.ownsMap Tryz.prog 9 (plainElem Tryz.prog 3) b n (.map es)) : w.ownsMap Tryz.prog 9 (plainElem Tryz.prog 3) b es.length (.map es) := by
  obtain ⟨xs, clock, hb, F, -, hD⟩ := h
  refine ⟨xs, clock, hb, F, ?_, hD⟩
  have := congrArg Maps.size hD
  simp only [Maps.size, length_sorted, List.length_map, Array.length_toList] at this
  omega
theorem OwnI.kept {w w' : World} {row : Option Nat} {b : Nat} {N : List Bs} (h : OwnI w b N) (hg : w.grownBy w' row) (hne : some b ≠ row) : OwnI w' b N := by
  obtain ⟨es, hp, ho⟩ := h
  exact ⟨es, hp, ho.kept hg hne⟩
theorem OwnI.lt {w : World} {b : Nat} {N : List Bs} (h : OwnI w b N) : b < w.heap.size := by obtain ⟨es, hp, ho⟩ := h; exact ho.lt
theorem OwnI.same {w w' : World} {b : Nat} {N : List Bs} (h : OwnI w b N) (hb : w'.heap[b]? = w.heap[b]?) : OwnI w' b N := by
  obtain ⟨es, hp, xs, clock, hx, F, hs, hD⟩ := h
  exact ⟨es, hp, xs, clock, hb.trans hx, F, hs, hD⟩
theorem OwnI.below {w w' : World} {b : Nat} {N : List Bs} (h : OwnI w b N) (hb : Below w.heap.size w w') : OwnI w' b N := h.same (hb.block b h.lt)
/-- The block of a map is no block of cells. -/
theorem OwnI.shape {w : World} {b : Nat} {N : List Bs} (h : OwnI w b N) : ∃ xs c, w.heap[b]? = some (.map xs c) := by
  obtain ⟨es, hp, xs, clock, hx, F, hs, hD⟩ := h
  exact ⟨xs, clock, hx⟩
theorem ownI_made (w : World) : OwnI (w.alloc (.map #[] 0)) w.heap.size [] := ⟨[], by simp [entR], World.ownsMap_made w _ _ _⟩
theorem zeroI (w : World) : (zeroValue 3).run Tryz.prog w = .ok (.int .i64 0) w := by kernel_rfl
theorem plainK {k : Nat} (h : k ≤ 1000000) : plainElem (H := Nat) Tryz.prog 3 (.int .i64 (k : Int)) = some (litI k, []) := plainElem_int Tryz.underlying3 (by
  have h1 : IntKind.i64.min = -9223372036854775808 := by decide
  have h2 : IntKind.i64.max = 9223372036854775807 := by decide
  simp only [Lit.wf, h1, h2, Bool.and_eq_true, decide_eq_true_eq]
  omega)
theorem plainK_inv {v : Value} {k : Nat} {ps : List MemPlace} (h : plainElem Tryz.prog 3 v = some (litI k, ps)) : v = .int .i64 (k : Int) := by
  unfold plainElem at h
  simp only [Tryz.underlying3] at h
  cases v <;> simp at h
  unfold litI at h
  obtain ⟨⟨h1, h2⟩, h3, h4⟩ := h
  injection h3 with h3
  injection h3 with h5 h6
  rw [h1, h6]
theorem keysI_apart {w : World} {n b : Nat} {es : List (Lit × DataW Nat)} (h : w.ownsMap Tryz.prog 9 (plainElem Tryz.prog 3) b n (.map es)) : es.Pairwise (fun p q => p.1 ≠ q.1) := by
  obtain ⟨es', e, hp⟩ := h.tidy keyS
  cases e
  exact hp
theorem hasI {es : List (Lit × DataW Nat)} {N : List Bs} (hp : es.Perm (entR N.reverse)) (n : Bs) : Maps.has (.map es) (kN n) = (lastIx N n).isSome := by
  rw [has_eq]
  unfold lastIx
  cases h : revIx N.reverse n with
  | some k =>
    refine List.any_eq_true.2 ⟨(kN n, litI k), hp.mem_iff.2 (mem_entR.2 ⟨n, k, rfl, h⟩), ?_⟩
    show (kN n).sameKey (kN n) = true
    exact WideAt.sameKey_self (isKN n)
  | none =>
    refine Bool.eq_false_iff.2 fun hany => ?_
    obtain ⟨q, hq, hs⟩ := List.any_eq_true.1 hany
    have e := (WideAt.sameKey_iff (isKN n)).1 hs
    obtain ⟨m, k, rfl, hk⟩ := mem_entR.1 (hp.mem_iff.1 hq)
    rw [kN_inj e, h] at hk
    cases hk
theorem atI {es : List (Lit × DataW Nat)} {N : List Bs} (hp : es.Perm (entR N.reverse)) (ha : es.Pairwise (fun p q => p.1 ≠ q.1)) (n : Bs) : (DataW.map es).atKey (kN n) (litI 0) = litI ((lastIx N n).getD 0) := by
  have hh := hasI hp n
  unfold lastIx at hh ⊢
  cases h : revIx N.reverse n with
  | some k => exact WideAt.atKey_mem _ (isKN n) ha (hp.mem_iff.2 (mem_entR.2 ⟨n, k, rfl, h⟩))
  | none => exact Maps.atKey_of_not_has (by rw [hh, h]; rfl) _
theorem lookI_run {w : World} {b : Nat} {N : List Bs} (h : OwnI w b N) {n : Bs} (hn : n.length ≤ 100000) :
    (Instr.lookup 128 (.map (some b)) (sV n) true).run Tryz.prog w = .ok (.tuple #[.int .i64 (((lastIx N n).getD 0 : Nat) : Int), .bool (lastIx N n).isSome]) w := by
  obtain ⟨es, hp, ho⟩ := h
  obtain ⟨v, ps, hrun, hv⟩ := ho.look_ok keyS Tryz.underlying128 (zeroI w) (plainK (k := 0) (by omega)) (keyOfS hn)
  rw [atI hp (keysI_apart ho)] at hv
  rw [hrun, plainK_inv hv, hasI hp]
theorem putI_run {w : World} {b : Nat} {N : List Bs} (h : OwnI w b N) (hl : N.length ≤ 100000) (he : ∀ es : List (Lit × DataW Nat), es.Perm (entR N.reverse) → es.length ≤ 1000000) {n : Bs} (hn : n.length ≤ 100000) :
    ∃ w', (Instr.mapUpdate 128 (.map (some b)) (sV n) (.int .i64 (N.length : Int))).run Tryz.prog w = .ok () w' ∧ OwnI w' b (N ++ [n]) ∧ w.grownBy w' (some b) ∧ w'.heap.size = w.heap.size := by
  obtain ⟨es, hp, ho⟩ := h
  obtain ⟨w', hrun, hown, ht⟩ := ho.store keyS Tryz.underlying128 (by have := he es hp; unfold maxLen; omega) (keyOfS hn) (plainK (k := N.length) (by omega))
  refine ⟨w', hrun, ⟨_, ?_, ownI_tight hown⟩, ht.grown, ?_⟩
  · refine (insert_perm _ _).trans ?_
    rw [List.reverse_append]
    change List.Perm _ ((kN n, litI N.reverse.length) :: (entR N.reverse).filter fun p => !p.1.sameKey (kN n))
    rw [List.length_reverse]
    exact List.Perm.cons _ (hp.filter _)
  · obtain ⟨_, _, _, _, _, rfl⟩ := ht
    simp [Go.ChangeMaps.setBlock]
theorem entR_len : ∀ M : List Bs, (entR M).length ≤ M.length
  | [] => by simp [entR]
  | x :: r => by
    have := entR_len r
    have h2 := List.length_filter_le (fun p : Lit × DataW Nat => !p.1.sameKey (kN x)) (entR r)
    unfold entR
    simp only [List.length_cons]
    omega
theorem storeI_run {w : World} {b : Nat} {N : List Bs} (h : OwnI w b N) (hl : N.length ≤ 100000) {n : Bs} (hn : n.length ≤ 100000) :
    ∃ w', (Instr.mapUpdate 128 (.map (some b)) (sV n) (.int .i64 (N.length : Int))).run Tryz.prog w = .ok () w' ∧ OwnI w' b (N ++ [n]) ∧ w.grownBy w' (some b) ∧ w'.heap.size = w.heap.size :=
  putI_run h hl (fun es hp => by have h1 := hp.length_eq; have h2 := entR_len N.reverse; rw [List.length_reverse] at h2; omega) hn
end Go.Proofs.YtpblpjopinllcaaGreatDoor.graph
set_option linter.unusedSimpArgs false
set_option linter.unusedVariables false
namespace Go.Proofs.YtpblpjopinllcaaGreatDoor.graph
open Go.ChangeShapes Go.WideShapes Go.ChangeAt Go.RowKit
open Go.Proofs.YtpblpjopinllcaaGreatDoor.opened Go.Proofs.YtpblpjopinllcaaGreatDoor.block Go.Proofs.YtpblpjopinllcaaGreatDoor.words

theorem trim_yes {w f : Bs} (h : Lib.hasPrefix w f = true) : Lib.trimPrefix w f = w.drop f.length := by
  unfold Lib.trimPrefix
  rw [h, if_pos rfl]
set_option maxRecDepth 100000 in
theorem numberP_any (x front : Bs) (hx : x.length ≤ 100000) (w : World) (hE : Env w) :
    Calls Tryz.prog 219 #[.string ⟨x.toArray⟩, .string ⟨front.toArray⟩] w fun e w' => e = .returned (.tuple #[.int .i64 (numV front x), .int .i64 (numE front x)]) ∧ Below w.heap.size w w' := by
  have P := Lib.hid (fun W => cutp_any x front W)
  unfold numV numE
  cases hf : Lib.hasPrefix x front
  · rw [hf] at P
    rw [if_neg (by simp), if_neg (by simp)]
    clear hf
    go_enter Tryz.func219, Tryz.ntmps219
    go_wp2_with ((go_at_call 199; refine (P.out _).mono ?_; rintro e w4 ⟨rfl, rfl⟩))
    go_ret2
    exact ⟨rfl, Below.refl _ _⟩
  · rw [hf, trim_yes hf] at P
    rw [if_pos rfl, if_pos rfl]
    have S := Lib.hid (fun W hW => signed_any (x.drop front.length) (by simp; omega) W hW)
    generalize x.drop front.length = y at P S ⊢
    have HE := Lib.hid hE
    clear hf hE
    go_enter Tryz.func219, Tryz.ntmps219
    go_wp2_with (first
      | (go_at_call 199; refine (P.out _).mono ?_; rintro e w4 ⟨rfl, rfl⟩)
      | (go_at_call 267; refine (S.out _ HE.out).mono ?_; rintro e w5 ⟨rfl, b5⟩))
    go_ret2
    exact ⟨rfl, b5⟩
set_option maxRecDepth 100000 in
theorem placeP_any (x front : Bs) (hx : x.length ≤ 100000) (N : List Bs) (mb : Nat) (w : World) (hO : OwnI w mb N) :
    Calls Tryz.prog 222 #[.string ⟨x.toArray⟩, .string ⟨front.toArray⟩, .map (some mb)] w fun e w' => e = .returned (.tuple #[.int .i64 (plV lastIx front N x : Nat), .int .i64 (plE lastIx front N x)]) ∧ w = w' := by
  have P := Lib.hid (fun W => cutp_any x front W)
  unfold plV plE
  cases hf : Lib.hasPrefix x front
  · rw [hf] at P
    rw [if_neg (by simp), if_neg (by simp)]
    clear hf
    go_enter Tryz.func222, Tryz.ntmps222
    go_wp2_with ((go_at_call 199; refine (P.out _).mono ?_; rintro e w4 ⟨rfl, rfl⟩))
    go_ret2
    exact ⟨rfl, rfl⟩
  · rw [hf, trim_yes hf] at P
    rw [if_pos rfl, if_pos rfl]
    have hy : (x.drop front.length).length ≤ 100000 := by simp; omega
    generalize x.drop front.length = y at P hy ⊢
    have L := lookI_run hO hy
    clear hf hO hy
    cases hk : lastIx N y with
    | none =>
      rw [hk] at L
      clear hk
      go_enter Tryz.func222, Tryz.ntmps222
      go_wp2_with ((go_at_call 199; refine (P.out _).mono ?_; rintro e w4 ⟨rfl, rfl⟩))
      go_ret2
      exact ⟨rfl, rfl⟩
    | some k =>
      rw [hk] at L
      clear hk
      go_enter Tryz.func222, Tryz.ntmps222
      go_wp2_with ((go_at_call 199; refine (P.out _).mono ?_; rintro e w4 ⟨rfl, rfl⟩))
      go_ret2
      exact ⟨rfl, rfl⟩
end Go.Proofs.YtpblpjopinllcaaGreatDoor.graph
