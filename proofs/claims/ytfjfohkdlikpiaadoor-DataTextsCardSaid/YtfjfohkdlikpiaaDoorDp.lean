/-
  Records in writing, as mathematics.
-/
import Derived.Test.YtfjfohkdlikpiaaDoorDm
import Derived.Test.YtfjfohkdlikpiaaDoorWm
import Derived.Test.YtfjfohkdlikpiaaDoorNw
import Derived.Lib.Join
namespace Go.Proofs.YtfjfohkdlikpiaaDoor.data
open Go.Proofs.YtfjfohkdlikpiaaDoor.words

/-- What stands between the commas of a text, with what the first part has already. -/
def cutsC : Bs → Bs → List Bs
  | w, [] => [w]
  | w, c :: r => if c = 44 then w :: cutsC [] r else cutsC (w ++ [c]) r
def cutsL (s : Bs) : List Bs := cutsC [] s
theorem cutsC_app : ∀ (a : Bs) (w r : Bs), (44 : UInt8) ∉ a → cutsC w (a ++ r) = cutsC (w ++ a) r
  | [], w, r, _ => by simp
  | c :: a, w, r, h => by
    have h1 : c ≠ 44 := fun e => h (by simp [e])
    have h2 : (44 : UInt8) ∉ a := fun e => h (by simp [e])
    rw [List.cons_append, cutsC, if_neg h1, cutsC_app a _ r h2, List.append_assoc]
    rfl
theorem cuts_pos (w s : Bs) : cutsC w s ≠ [] := by
  induction s generalizing w with
  | nil => simp [cutsC]
  | cons c r ih =>
    rw [cutsC]
    split
    · simp
    · exact ih _
theorem cuts_yes {l : Bs} {a b : Bs} (h : Lib.cut l [44] = (a, b, true)) : cutsL l = a :: cutsL b ∧ l = a ++ 44 :: b ∧ (44 : UInt8) ∉ a := by
  unfold cutsL
  rcases cut_one l 44 with ⟨a', b', rfl, ha, e⟩ | ⟨hn, e⟩
  · rw [h] at e
    injection e with e1 e2
    injection e2 with e3 e4
    subst e1 e3
    rw [cutsC_app a [] _ ha, cutsC, if_pos rfl]
    exact ⟨rfl, rfl, ha⟩
  · rw [h] at e
    injection e with e1 e2
    injection e2 with e3 e4
    cases e4
theorem cuts_no {l : Bs} (h : (44 : UInt8) ∉ l) : cutsL l = [l] := by
  unfold cutsL
  have := cutsC_app l [] [] h
  rw [List.append_nil] at this
  rw [this]
  rfl
theorem cut_uniq {x : UInt8} : ∀ {a a' b b' : Bs}, a ++ x :: b = a' ++ x :: b' → x ∉ a → x ∉ a' → a = a' ∧ b = b'
  | [], [], b, b', h, _, _ => by simpa using h
  | [], c :: a', b, b', h, _, h2 => by
    simp at h
    exact absurd h.1 (fun e => h2 (by simp [e]))
  | c :: a, [], b, b', h, h1, _ => by
    simp at h
    exact absurd h.1 (fun e => h1 (by simp [e]))
  | c :: a, c' :: a', b, b', h, h1, h2 => by
    simp only [List.cons_append, List.cons.injEq] at h
    obtain ⟨e1, e2⟩ := cut_uniq h.2 (fun e => h1 (by simp [e])) (fun e => h2 (by simp [e]))
    exact ⟨by rw [h.1, e1], e2⟩
theorem cut_at {x : UInt8} {a b : Bs} (h : x ∉ a) : Lib.cut (a ++ x :: b) [x] = (a, b, true) := by
  rcases cut_one (a ++ x :: b) x with ⟨a', b', e, ha, e2⟩ | ⟨hn, e⟩
  · obtain ⟨e3, e4⟩ := cut_uniq e h ha
    rw [e2, ← e3, ← e4]
  · exact absurd (by simp) hn
theorem cut_not {x : UInt8} {l : Bs} (h : x ∉ l) : Lib.cut l [x] = (l, [], false) := by
  rcases cut_one l x with ⟨a', b', e, ha, e2⟩ | ⟨hn, e⟩
  · exact absurd (by rw [e]; simp) h
  · exact e
/-- The record of a text. -/
def recP (w : Bs) : Option Rc := if (Lib.cut w [58]).2.2 = true then (match sgP (Lib.cut w [58]).1, sgP (Lib.cut w [58]).2.1 with
  | some k, some v => some ⟨k, v⟩
  | _, _ => none) else none
/-- The records of texts. -/
def recs : List Bs → Option (List Rc)
  | [] => some []
  | w :: l => match recP w, recs l with
    | some r, some L => some (r :: L)
    | _, _ => none
theorem recs_len : ∀ {P : List Bs} {L : List Rc}, recs P = some L → L.length = P.length
  | [], L, h => by simp [recs] at h; simp [← h]
  | w :: l, L, h => by
    rw [recs] at h
    cases h1 : recP w with
    | none => simp [h1] at h
    | some r =>
      cases h2 : recs l with
      | none => simp [h1, h2] at h
      | some M =>
        simp [h1, h2] at h
        rw [← h]
        simp [recs_len h2]
theorem recs_app : ∀ (P : List Bs) (w : Bs), recs (P ++ [w]) = match recs P, recP w with
    | some L, some r => some (L ++ [r])
    | _, _ => none
  | [], w => by
    simp only [List.nil_append, recs]
    cases recP w <;> rfl
  | p :: P, w => by
    rw [List.cons_append, recs, recs_app P w, recs]
    cases recP p <;> cases recs P <;> cases recP w <;> rfl
theorem recs_some {P : List Bs} {w : Bs} {L : List Rc} {r : Rc} (h : recs P = some L) (hr : recP w = some r) : recs (P ++ [w]) = some (L ++ [r]) := by rw [recs_app, h, hr]
theorem recs_none {P : List Bs} {w : Bs} (hr : recP w = none) : ∀ Q, recs (P ++ w :: Q) = none := by
  intro Q
  induction P with
  | nil =>
    rw [List.nil_append, recs, hr]
  | cons p P ih =>
    rw [List.cons_append, recs, ih]
    cases recP p <;> rfl
theorem recP_in {w : Bs} {r : Rc} (h : recP w = some r) : r.In := by
  unfold recP at h
  split at h
  · cases h1 : sgP (Lib.cut w [58]).1 with
    | none => simp [h1] at h
    | some k =>
      cases h2 : sgP (Lib.cut w [58]).2.1 with
      | none => simp [h1, h2] at h
      | some v =>
        simp [h1, h2] at h
        rw [← h]
        exact ⟨(sg_some h1).2, (sg_some h2).2⟩
  · cases h
theorem recs_in : ∀ {P : List Bs} {L : List Rc}, recs P = some L → InR L
  | [], L, h => by simp [recs] at h; subst h; intro r hr; cases hr
  | w :: l, L, h => by
    rw [recs] at h
    cases h1 : recP w with
    | none => simp [h1] at h
    | some r =>
      cases h2 : recs l with
      | none => simp [h1, h2] at h
      | some M =>
        simp [h1, h2] at h
        subst h
        intro x hx
        rcases List.mem_cons.1 hx with rfl | hx
        · exact recP_in h1
        · exact recs_in h2 x hx
/-- What data.Parse answers. -/
def prsV (s : Bs) : List Rc := if s = [45] then [] else match recs (cutsL s) with
  | none => []
  | some L => if 64 < L.length then [] else L
def prsE (s : Bs) : Int := if s = [45] then 0 else match recs (cutsL s) with
  | none => 6
  | some L => if 64 < L.length then 7 else 0
theorem prs_dash : prsV [45] = [] ∧ prsE [45] = 0 := ⟨by simp [prsV], by simp [prsE]⟩
theorem prs_none {s : Bs} (h : s ≠ [45]) (hr : recs (cutsL s) = none) : prsV s = [] ∧ prsE s = 6 := ⟨by simp [prsV, h, hr], by simp [prsE, h, hr]⟩
theorem prs_long {s : Bs} {L : List Rc} (h : s ≠ [45]) (hr : recs (cutsL s) = some L) (hl : 64 < L.length) : prsV s = [] ∧ prsE s = 7 := ⟨by simp [prsV, h, hr, hl], by simp [prsE, h, hr, hl]⟩
theorem prs_some {s : Bs} {L : List Rc} (h : s ≠ [45]) (hr : recs (cutsL s) = some L) (hl : ¬ 64 < L.length) : prsV s = L ∧ prsE s = 0 := ⟨by simp [prsV, h, hr, hl], by simp [prsE, h, hr, hl]⟩
theorem prs_in (s : Bs) : InR (prsV s) := by
  unfold prsV
  split
  · intro r hr; cases hr
  · split
    · intro r hr; cases hr
    · rename_i L hL
      split
      · intro r hr; cases hr
      · exact recs_in hL
theorem prs_len (s : Bs) : (prsV s).length ≤ 64 := by
  unfold prsV
  split
  · simp
  · split
    · simp
    · split
      · simp
      · omega
/-! ### In writing -/
def txtR (r : Rc) : Bs := Lib.itoa r.k ++ 58 :: Lib.itoa r.v
def txtL (L : List Rc) : Bs := if L = [] then [45] else Lib.join (L.map txtR) [44]
theorem digits_in (u : Nat) : ∀ c ∈ Lib.decDigits u, 48 ≤ c.toNat ∧ c.toNat ≤ 57 := by
  induction u using Nat.strongRecOn with
  | _ u ih =>
    intro c hc
    rw [Lib.decDigits] at hc
    split at hc
    · simp at hc
      subst hc
      simp
      omega
    · rw [List.mem_append] at hc
      rcases hc with hc | hc
      · exact ih (u / 10) (by omega) c hc
      · simp at hc
        subst hc
        simp
        omega
theorem itoa_in (n : Int) : ∀ c ∈ Lib.itoa n, c = 45 ∨ (48 ≤ c.toNat ∧ c.toNat ≤ 57) := by
  intro c hc
  unfold Lib.itoa at hc
  split at hc
  · rcases List.mem_cons.1 hc with rfl | hc
    · exact .inl rfl
    · exact .inr (digits_in _ c hc)
  · exact .inr (digits_in _ c hc)
theorem itoa_out (n : Int) : (44 : UInt8) ∉ Lib.itoa n ∧ (58 : UInt8) ∉ Lib.itoa n := by
  constructor
  · intro h
    rcases itoa_in n _ h with h | h
    · cases h
    · simp at h
  · intro h
    rcases itoa_in n _ h with h | h
    · cases h
    · simp at h
theorem txtR_out (r : Rc) : (44 : UInt8) ∉ txtR r := by
  unfold txtR
  intro h
  rw [List.mem_append, List.mem_cons] at h
  rcases h with h | h | h
  · exact (itoa_out _).1 h
  · cases h
  · exact (itoa_out _).1 h
theorem rec_txt {r : Rc} (h : r.In) : recP (txtR r) = some r := by
  unfold recP txtR
  rw [cut_at (itoa_out r.k).2, if_pos rfl, sg_itoa _ h.1.1 h.1.2, sg_itoa _ h.2.1 h.2.2]
theorem recs_txt : ∀ {L : List Rc}, InR L → recs (L.map txtR) = some L
  | [], _ => rfl
  | r :: L, h => by
    rw [List.map_cons, recs, rec_txt (h r (by simp)), recs_txt (L := L) fun x hx => h x (by simp [hx])]
theorem join_more (x y : Bs) (r : List Bs) : Lib.join (x :: y :: r) [44] = x ++ 44 :: Lib.join (y :: r) [44] := by
  rw [Lib.join_cons, Lib.join_cons]
  simp [Lib.joinTail]
theorem cuts_join : ∀ {P : List Bs}, P ≠ [] → (∀ p ∈ P, (44 : UInt8) ∉ p) → cutsL (Lib.join P [44]) = P
  | [], h, _ => absurd rfl h
  | [p], _, h => by
    rw [Lib.join_one]
    exact cuts_no (h p (by simp))
  | p :: q :: P, _, h => by
    rw [join_more]
    rw [(cuts_yes (cut_at (h p (by simp)))).1, cuts_join (P := q :: P) (by simp) fun x hx => h x (by simp [hx])]
theorem join_colon {r : Rc} {L : List Rc} : (58 : UInt8) ∈ Lib.join ((r :: L).map txtR) [44] := by
  rw [List.map_cons, Lib.join_cons, List.mem_append]
  exact .inl (by unfold txtR; simp)
/-- What is written is read as it was. -/
theorem recs_text {L : List Rc} (hL : InR L) (h : L ≠ []) : txtL L ≠ [45] ∧ recs (cutsL (txtL L)) = some L := by
  obtain ⟨r, M, rfl⟩ := List.exists_cons_of_ne_nil h
  unfold txtL
  rw [if_neg h]
  constructor
  · intro e
    have := join_colon (r := r) (L := M)
    rw [e] at this
    simp at this
  · rw [cuts_join (by simp) (fun p hp => ?_)]
    · exact recs_txt hL
    · obtain ⟨x, -, rfl⟩ := List.mem_map.1 hp
      exact txtR_out x
end Go.Proofs.YtfjfohkdlikpiaaDoor.data
