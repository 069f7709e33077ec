/-
  Frames of a log, mathematics: a text's frame, the frame at the front of some bytes; frames behind each other, and beginnings of them.
  A log as mathematics: what each call of it does to it and to its disk.
-/
import Derived.Test.YtfpmcomigolacaaGreatDoorJRd
import Derived.Test.YtfpmcomigolacaaGreatDoorJCrcMath
import Derived.Test.YtfpmcomigolacaaGreatDoorJWm
import Derived.Test.YtfpmcomigolacaaGreatDoorJNw
set_option linter.unusedSimpArgs false
set_option linter.unusedVariables false
namespace Go.Proofs.YtfpmcomigolacaaGreatDoor.wal
open Go.Proofs.YtfpmcomigolacaaGreatDoor.enc Go.Proofs.YtfpmcomigolacaaGreatDoor.code Go.Proofs.YtfpmcomigolacaaGreatDoor.crcm Go.Proofs.YtfpmcomigolacaaGreatDoor.words
def frameL (s : Bs) : Bs := enc s.length ++ sealL s
/-- The frame at the front: its text, how many bytes it has, whether there is one. -/
def unfV (s : Bs) : Bs × Nat × Bool :=
  if (rInt s 0 4096).2.2 ≠ 0 ∨ ((s.length - (rInt s 0 4096).2.1 : Nat) : Int) < (rInt s 0 4096).1 + 4 then ([], 0, false)
  else if isSeal ((s.drop (rInt s 0 4096).2.1).take ((rInt s 0 4096).1.toNat + 4)) = true then (openT ((s.drop (rInt s 0 4096).2.1).take ((rInt s 0 4096).1.toNat + 4)), (rInt s 0 4096).2.1 + 4 + (rInt s 0 4096).1.toNat, true) else ([], 0, false)
theorem frame_len (s : Bs) : (frameL s).length = (enc s.length).length + s.length + 4 := by
  unfold frameL
  rw [List.length_append, sealL_length]
  omega
theorem unf_frame {s : Bs} (h : s.length ≤ 4096) (r : Bs) : unfV (frameL s ++ r) = (s, (frameL s).length, true) := by
  have e1 : rInt (frameL s ++ r) 0 4096 = ((s.length : Int), (enc s.length).length, 0) := by
    unfold rInt rNum frameL
    rw [if_pos rfl, List.append_assoc, dec_enc (by omega)]
    dsimp only
    rw [if_pos rfl, if_neg (by omega)]
  unfold unfV
  rw [e1]
  dsimp only
  have hl := frame_len s
  have hd : (frameL s ++ r).drop (enc s.length).length = sealL s ++ r := by
    unfold frameL
    rw [List.append_assoc, List.drop_left]
  rw [if_neg (by
    rintro (h' | h')
    · exact h' rfl
    · rw [List.length_append, hl] at h'
      omega)]
  rw [hd, Int.toNat_natCast]
  have ht : (sealL s ++ r).take (s.length + 4) = sealL s := by
    rw [← sealL_length s, List.take_left]
  rw [ht, isSeal_seal, if_pos rfl, openT_seal, hl]
  congr 2
  omega
theorem unf_pos {s : Bs} (h : (unfV s).2.2 = true) : 1 ≤ (unfV s).2.1 ∧ (unfV s).2.1 ≤ s.length := by
  obtain ⟨q0, q1, q2⟩ := rInt_bd s 0 4096
  unfold unfV at h ⊢
  split at h
  · cases h
  · rename_i a
    split at h
    · rename_i b
      rw [if_neg a, if_pos b]
      dsimp only
      have : ¬ ((s.length - (rInt s 0 4096).2.1 : Nat) : Int) < (rInt s 0 4096).1 + 4 := fun e => a (.inr e)
      omega
    · cases h
/-- The texts of the frames at the front, and how many bytes they have. -/
def frsF : Nat → Bs → List Bs × Nat
  | 0, _ => ([], 0)
  | f + 1, s => if (unfV s).2.2 = true then ((unfV s).1 :: (frsF f (s.drop (unfV s).2.1)).1, (unfV s).2.1 + (frsF f (s.drop (unfV s).2.1)).2) else ([], 0)
def frsV (s : Bs) : List Bs × Nat := frsF (s.length + 1) s
theorem frs_more : ∀ (f k : Nat) (s : Bs), s.length < f → s.length < k → frsF f s = frsF k s
  | 0, _, _, h, _ => by omega
  | _ + 1, 0, _, _, h => by omega
  | f + 1, k + 1, s, h1, h2 => by
    unfold frsF
    by_cases e : (unfV s).2.2 = true
    · have hp := unf_pos e
      rw [if_pos e, if_pos e, frs_more f k (s.drop (unfV s).2.1) (by simp; omega) (by simp; omega)]
    · rw [if_neg e, if_neg e]
theorem frs_step {s r : Bs} (h : s.length ≤ 4096) : frsV (frameL s ++ r) = (s :: (frsV r).1, (frameL s).length + (frsV r).2) := by
  have hu := unf_frame h r
  have hl := frame_len s
  unfold frsV
  rw [frsF, hu]
  dsimp only
  rw [if_pos rfl, List.drop_left, frs_more _ (r.length + 1) r (by rw [List.length_append]; omega) (by omega)]
/-- Frames behind each other, and what is none behind them. -/
theorem frs_all : ∀ (L : List Bs) (t : Bs), (∀ s ∈ L, s.length ≤ 4096) → (unfV t).2.2 = false → frsV ((L.map frameL).flatten ++ t) = (L, ((L.map frameL).flatten).length)
  | [], t, _, h => by
    unfold frsV
    simp only [List.map_nil, List.flatten_nil, List.nil_append]
    rw [frsF, h, if_neg (by simp)]
    rfl
  | s :: L, t, hL, h => by
    simp only [List.map_cons, List.flatten_cons, List.append_assoc]
    rw [frs_step (hL s (by simp)), frs_all L t (fun x hx => hL x (by simp [hx])) h]
    simp
theorem unf_nil : (unfV []).2.2 = false := by decide
theorem frs_whole (L : List Bs) (hL : ∀ s ∈ L, s.length ≤ 4096) : frsV (L.map frameL).flatten = (L, ((L.map frameL).flatten).length) := by
  have := frs_all L [] hL unf_nil
  simpa using this

/-! ### Beginnings -/
theorem rInt_ok {s : Bs} {n : Int} {u : Nat} (h : rInt s 0 4096 = (n, u, 0)) : dec s = (n, u, 0) ∧ n ≤ 4096 := by
  unfold rInt rNum at h
  rw [if_pos rfl] at h
  split at h
  · split at h
    · injection h with h1 h2
      injection h2 with h3 h4
      cases h4
    · rename_i h1 h2
      rw [h] at h2
      exact ⟨h, by dsimp only at h2; omega⟩
  · rename_i h1
    injection h with h3 h4
    injection h4 with h5 h6
    exact absurd h6 h1
theorem rInt_of {s : Bs} {n : Int} {u : Nat} (h : dec s = (n, u, 0)) (hn : n ≤ 4096) : rInt s 0 4096 = (n, u, 0) := by
  unfold rInt rNum
  rw [if_pos rfl, h]
  dsimp only
  rw [if_pos rfl, if_neg (by omega)]
/-- What an intact frame at the front is. -/
theorem unf_iff {s t : Bs} {k : Nat} : unfV s = (t, k, true) ↔ ∃ n u : Nat, rInt s 0 4096 = ((n : Int), u, 0) ∧ u + n + 4 ≤ s.length ∧ isSeal ((s.drop u).take (n + 4)) = true ∧ t = openT ((s.drop u).take (n + 4)) ∧ k = u + 4 + n := by
  obtain ⟨q0, q1, q2⟩ := rInt_bd s 0 4096
  unfold unfV
  generalize hr : rInt s 0 4096 = r at q0 q1 q2
  obtain ⟨n, u, e⟩ := r
  dsimp only at q0 q1 q2 ⊢
  constructor
  · intro h
    split at h
    · cases h
    · rename_i h1
      split at h
      · rename_i h2
        injection h with h3 h4
        injection h4 with h5 h6
        have he : e = 0 := Classical.byContradiction fun hne => h1 (.inl hne)
        refine ⟨n.toNat, u, by rw [he, Int.toNat_of_nonneg q0], ?_, h2, h3.symm, by omega⟩
        have : ¬ ((s.length - u : Nat) : Int) < n + 4 := fun x => h1 (.inr x)
        omega
      · cases h
  · rintro ⟨n', u', h1, h2, h3, h4, h5⟩
    injection h1 with h6 h7
    injection h7 with h8 h9
    subst h6 h8 h9
    rw [if_neg (by
      rintro (h | h)
      · exact h rfl
      · omega), Int.toNat_natCast, if_pos h3, h4, h5]
theorem unf_false {s : Bs} (h : ∀ t k, unfV s ≠ (t, k, true)) : (unfV s).2.2 = false := by
  generalize hu : unfV s = x at h
  obtain ⟨t, k, b⟩ := x
  cases b
  · rfl
  · exact absurd rfl (h t k)
/-- An intact frame of a beginning is one of the whole. -/
theorem unf_up {s t : Bs} {k m : Nat} (h : unfV (s.take m) = (t, k, true)) : unfV s = (t, k, true) ∧ k ≤ m := by
  obtain ⟨n, u, h1, h2, h3, h4, h5⟩ := unf_iff.1 h
  obtain ⟨d1, d2⟩ := rInt_ok h1
  obtain ⟨v, u', e1, e2, e3, e4, e5, -⟩ := dec_ok (by rw [d1])
  rw [d1] at e1
  injection e1 with e6 e7
  injection e7 with e8
  subst e8
  have hl : (s.take m).length ≤ m := by simp; omega
  have hl2 : (s.take m).length ≤ s.length := by simp; omega
  have hv : n = v := by omega
  subst hv
  have e9 : enc n = s.take u := by
    rw [e2, List.take_take]
    congr 1
    omega
  have hd : dec s = ((n : Int), u, 0) := by
    have := dec_enc (v := n) (by omega) (s.drop u)
    rw [e9, List.take_append_drop] at this
    rw [this]
    congr 2
    simp
    omega
  have hs : ((s.take m).drop u).take (n + 4) = (s.drop u).take (n + 4) := by
    rw [List.drop_take, List.take_take]
    congr 1
    omega
  rw [hs] at h3 h4
  exact ⟨unf_iff.2 ⟨n, u, rInt_of hd d2, by omega, h3, h4, h5⟩, by omega⟩
/-- There is no intact frame at the front. -/
def Tail (s : Bs) : Prop := (unfV s).2.2 = false
theorem tail_nil : Tail [] := unf_nil
theorem tail_take {s : Bs} (h : Tail s) (m : Nat) : Tail (s.take m) :=
  unf_false fun t k e => by
    have := (unf_up e).1
    unfold Tail at h
    rw [this] at h
    cases h
theorem tail_part {s : Bs} (hs : s.length ≤ 4096) (r : Bs) {m : Nat} (hm : m < (frameL s).length) : Tail ((frameL s ++ r).take m) :=
  unf_false fun t k e => by
    obtain ⟨h1, h2⟩ := unf_up e
    rw [unf_frame hs] at h1
    injection h1 with h3 h4
    injection h4 with h5
    omega
/-- The bytes of a file: frames, and what is torn behind them. -/
def fileB (T : List Bs) (tl : Bs) : Bs := (T.map frameL).flatten ++ tl
def Short (T : List Bs) : Prop := ∀ s ∈ T, s.length ≤ 4096
theorem file_frs {T : List Bs} {tl : Bs} (hT : Short T) (h : Tail tl) : frsV (fileB T tl) = (T, ((T.map frameL).flatten).length) := frs_all T tl hT h
theorem file_nil (tl : Bs) : fileB [] tl = tl := rfl
theorem file_cons (s : Bs) (T : List Bs) (tl : Bs) : fileB (s :: T) tl = frameL s ++ fileB T tl := by simp [fileB]
theorem file_snoc (s : Bs) (T : List Bs) : fileB (T ++ [s]) [] = fileB T [] ++ frameL s := by simp [fileB]
theorem frame_pos (s : Bs) : 5 ≤ (frameL s).length := by rw [frame_len]; have := pos_enc s.length; omega
/-- So many frames stand wholly in a beginning. -/
def inN : List Bs → Nat → Nat
  | [], _ => 0
  | s :: T, m => if (frameL s).length ≤ m then inN T (m - (frameL s).length) + 1 else 0
theorem inN_le : ∀ (T : List Bs) (m : Nat), inN T m ≤ T.length
  | [], _ => Nat.le_refl _
  | s :: T, m => by
    unfold inN
    split
    · have := inN_le T (m - (frameL s).length)
      simp
      exact this
    · simp
theorem inN_ge : ∀ (T : List Bs) (m i : Nat), i ≤ T.length → (fileB (T.take i) []).length ≤ m → i ≤ inN T m
  | [], m, i, h, _ => by simpa [inN] using h
  | s :: T, m, 0, _, _ => Nat.zero_le _
  | s :: T, m, i + 1, h, hm => by
    rw [List.take_succ_cons, file_cons, List.length_append] at hm
    unfold inN
    rw [if_pos (by omega)]
    have := inN_ge T (m - (frameL s).length) i (by simpa using h) (by omega)
    omega
theorem file_take : ∀ (T : List Bs) (tl : Bs) (m : Nat), Short T → Tail tl → ∃ tl', (fileB T tl).take m = fileB (T.take (inN T m)) tl' ∧ Tail tl'
  | [], tl, m, _, h => ⟨tl.take m, rfl, tail_take h m⟩
  | s :: T, tl, m, hT, h => by
    unfold inN
    rw [file_cons]
    split
    · rename_i hm
      obtain ⟨tl', h1, h2⟩ := file_take T tl (m - (frameL s).length) (fun x hx => hT x (by simp [hx])) h
      refine ⟨tl', ?_, h2⟩
      rw [List.take_append, List.take_of_length_le hm, h1, List.take_succ_cons, file_cons]
    · rename_i hm
      exact ⟨_, rfl, tail_part (hT s (by simp)) _ (by omega)⟩
theorem file_all {T : List Bs} {tl : Bs} {m : Nat} (h : (fileB T tl).length ≤ m) : (fileB T tl).take m = fileB T tl := List.take_of_length_le h
end Go.Proofs.YtfpmcomigolacaaGreatDoor.wal
set_option linter.unusedSimpArgs false
set_option linter.unusedVariables false
namespace Go.Proofs.YtfpmcomigolacaaGreatDoor.wal
open Go.Proofs.YtfpmcomigolacaaGreatDoor.enc Go.Proofs.YtfpmcomigolacaaGreatDoor.code Go.Proofs.YtfpmcomigolacaaGreatDoor.crcm Go.Proofs.YtfpmcomigolacaaGreatDoor.words Go.Proofs.YtfpmcomigolacaaGreatDoor.disk

structure Lg where
  nm : Bs
  per : Int
  least : Int
  heads : List Int
  recs : List Bs
  torn : Bool
  syn : Int
  fail : Bool

def baseN (L : Lg) : Int := L.heads.head?.getD 0
def nextN (L : Lg) : Int := baseN L + L.recs.length
def nextF (L : Lg) : Int := L.least + L.heads.length
def fn (nm : Bs) (k : Int) : Bs := nm ++ Lib.itoa k
def lastF (L : Lg) : Bs := fn L.nm (nextF L - 1)
def lastH (L : Lg) : Int := L.heads.getLast?.getD 0
def closedB (L : Lg) : Bool := decide (L.heads = []) || (L.torn || decide (L.per ≤ nextN L - lastH L))
def noteL (L : Lg) (e : Int) : Lg := if e = 14 then { L with fail := true } else L
/-- What is read of the last file: what is wrong; whether all of it lasts. -/
def slE (L : Lg) (D : Dk) : Int :=
  if D.off = true then 14 else if L.heads = [] then 0 else if readE D (lastF L) ≠ 0 then readE D (lastF L) else if oldL D.F (lastF L) = (readV D (lastF L)).length then 0 else onE D (lastF L)
def slD (L : Lg) (D : Dk) : Dk :=
  if D.off = true then D else if L.heads = [] then D else if readE D (lastF L) ≠ 0 then D else if oldL D.F (lastF L) = (readV D (lastF L)).length then D else synV D (lastF L)
def syE (L : Lg) (D : Dk) : Int := if L.fail = true then 14 else slE L D
def syD (L : Lg) (D : Dk) : Dk := if L.fail = true then D else slD L D
def syL (L : Lg) (D : Dk) : Lg := if L.fail = true then L else if slE L D ≠ 0 then noteL L (slE L D) else { L with syn := nextN L }
/-- The bytes of a file that begins. -/
def newB (L : Lg) (s : Bs) : Bs := frameL (enc (nextN L).toNat) ++ frameL s
def bgE (L : Lg) (D : Dk) (s : Bs) : Int := if 999 < nextF L then 2 else if syE L D ≠ 0 then syE L D else appE (syD L D) (fn L.nm (nextF L)) (newB L s)
def bgD (L : Lg) (D : Dk) (s : Bs) : Dk := if 999 < nextF L then D else if syE L D ≠ 0 then syD L D else appV (syD L D) (fn L.nm (nextF L)) (newB L s)
def bgL (L : Lg) (D : Dk) (s : Bs) : Lg :=
  if 999 < nextF L then L else if syE L D ≠ 0 then syL L D else if appE (syD L D) (fn L.nm (nextF L)) (newB L s) ≠ 0 then syL L D
  else { syL L D with heads := L.heads ++ [nextN L], torn := false }
def wrE (L : Lg) (D : Dk) (s : Bs) : Int := if closedB L = true then bgE L D s else appE D (lastF L) (frameL s)
def wrD (L : Lg) (D : Dk) (s : Bs) : Dk := if closedB L = true then bgD L D s else appV D (lastF L) (frameL s)
def wrL (L : Lg) (D : Dk) (s : Bs) : Lg := if closedB L = true then bgL L D s else L
def apE (L : Lg) (D : Dk) (s : Bs) : Int := if L.fail = true then 14 else if 4096 < s.length then 7 else wrE L D s
def apN (L : Lg) (D : Dk) (s : Bs) : Int := if apE L D s = 0 then nextN L else 0
def apD (L : Lg) (D : Dk) (s : Bs) : Dk := if L.fail = true then D else if 4096 < s.length then D else wrD L D s
def apL (L : Lg) (D : Dk) (s : Bs) : Lg :=
  if L.fail = true then L else if 4096 < s.length then L else if wrE L D s ≠ 0 then noteL (wrL L D s) (wrE L D s) else { wrL L D s with recs := L.recs ++ [s] }
def pastB (L : Lg) (n : Int) : Bool := match L.heads with
  | _ :: h :: _ => decide (h ≤ n)
  | _ => false
def dfE (L : Lg) (D : Dk) : Int := onE D (fn L.nm L.least)
def dfD (L : Lg) (D : Dk) : Dk := remV D (fn L.nm L.least)
def h0 (L : Lg) : Int := (L.heads[0]?).getD 0
def h1 (L : Lg) : Int := (L.heads[1]?).getD 0
def dfV (L : Lg) : Lg := { L with recs := L.recs.drop (h1 L - h0 L).toNat, heads := L.heads.tail, least := L.least + 1 }
def drF : Nat → Lg → Dk → Int → Int × Lg × Dk
  | 0, L, D, _ => (0, L, D)
  | k + 1, L, D, n => if pastB L n = true then (if dfE L D ≠ 0 then (dfE L D, noteL L (dfE L D), dfD L D) else drF k (dfV L) (dfD L D) n) else (0, L, D)
def drV (L : Lg) (D : Dk) (n : Int) : Int × Lg × Dk :=
  if L.fail = true then (14, L, D) else if pastB L n = false then (0, L, D) else if syE L D ≠ 0 then (syE L D, syL L D, syD L D) else drF L.heads.length (syL L D) (syD L D) n
def gtE (L : Lg) (n : Int) : Int := if n < baseN L ∨ nextN L ≤ n then 1 else 0
def gtV (L : Lg) (n : Int) : Bs := if n < baseN L ∨ nextN L ≤ n then [] else (L.recs[(n - baseN L).toNat]?).getD []

/-! ### Opening -/
def numOf (nm f : Bs) : Option Int := if Lib.hasPrefix f nm = true then (if inE (Lib.trimPrefix f nm) 1 999 = 0 then some (inV (Lib.trimPrefix f nm) 1 999) else none) else none
def numsU (nm : Bs) (F : List Fl) : List Int := (F.map Fl.n).filterMap (numOf nm)
def headV (L : Lg) (t : Bs) : Int := if L.heads = [] then (rInt t 0 1099511627776).1 else nextN L
def headB (L : Lg) (t : Bs) : Bool := if L.heads = [] then decide (rEnd (t.drop (rInt t 0 1099511627776).2.1) (rInt t 0 1099511627776).2.2 = 0) else (t == enc (nextN L).toNat)
def textsV (L : Lg) (D : Dk) (k : Int) : List Bs := (frsV (readV D (fn L.nm k))).1
def takeB (L : Lg) (D : Dk) (k : Int) : Bool :=
  if L.heads ≠ [] ∧ k ≠ nextF L then false else match textsV L D k with
    | [] => false
    | t :: _ => headB L t
def takeV (L : Lg) (D : Dk) (k : Int) : Lg :=
  { L with least := if L.heads = [] then k else L.least, heads := L.heads ++ [headV L ((textsV L D k).head?.getD [])], recs := L.recs ++ (textsV L D k).tail, torn := decide ((frsV (readV D (fn L.nm k))).2 < (readV D (fn L.nm k)).length) }
def takesV (D : Dk) : Lg → List Int → Lg
  | L, [] => L
  | L, k :: r => if takeB L D k = true then takesV D (takeV L D k) r else L
def rmV (nm : Bs) : Dk → List Int → Int × Dk
  | D, [] => (0, D)
  | D, k :: r => if onE D (fn nm k) ≠ 0 then (onE D (fn nm k), remV D (fn nm k)) else rmV nm (remV D (fn nm k)) r
def lg0 (nm : Bs) (per : Int) : Lg := ⟨nm, per, 1, [], [], false, 0, false⟩
def isDig (c : UInt8) : Bool := decide (48 ≤ c.toNat ∧ c.toNat ≤ 57)
def chkE (D : Dk) (nm : Bs) (per : Int) : Int :=
  if D.off = true then 14 else if nameB nm = false then 6 else if 8 < nm.length then 6 else if isDig (nm.getLast?.getD 0) = true then 6 else if per < 1 ∨ 64 < per then 1 else 0
/-- What Open tells, the log, the disk; nums: the numbers of the files, in order. -/
def opnV (D : Dk) (nm : Bs) (per : Int) (nums : List Int) : Int × Lg × Dk :=
  if chkE D nm per ≠ 0 then (chkE D nm per, lg0 nm per, D) else
  let L := takesV D (lg0 nm per) nums
  let R := rmV nm D (nums.drop L.heads.length).reverse
  if R.1 ≠ 0 then (R.1, L, R.2) else (syE L R.2, syL L R.2, syD L R.2)

/-! ### What holds of every log -/
structure GoodL (L : Lg) : Prop where
  len : L.nm.length ≤ 8
  lo : 1 ≤ L.least
  hi : nextF L ≤ 1000
  sorted : L.heads.Pairwise (· ≤ ·)
  base : 0 ≤ baseN L
  last : ∀ h ∈ L.heads, h ≤ nextN L
theorem note_fields (L : Lg) (e : Int) : (noteL L e).nm = L.nm ∧ (noteL L e).per = L.per ∧ (noteL L e).least = L.least ∧ (noteL L e).heads = L.heads ∧ (noteL L e).recs = L.recs ∧ (noteL L e).torn = L.torn ∧ (noteL L e).syn = L.syn := by
  unfold noteL
  split <;> exact ⟨rfl, rfl, rfl, rfl, rfl, rfl, rfl⟩
theorem sy_fields (L : Lg) (D : Dk) : (syL L D).nm = L.nm ∧ (syL L D).per = L.per ∧ (syL L D).least = L.least ∧ (syL L D).heads = L.heads ∧ (syL L D).recs = L.recs ∧ (syL L D).torn = L.torn := by
  unfold syL
  split
  · exact ⟨rfl, rfl, rfl, rfl, rfl, rfl⟩
  · split
    · obtain ⟨h1, h2, h3, h4, h5, h6, _⟩ := note_fields L (slE L D)
      exact ⟨h1, h2, h3, h4, h5, h6⟩
    · exact ⟨rfl, rfl, rfl, rfl, rfl, rfl⟩
theorem GoodL.as {L M : Lg} (G : GoodL L) (h1 : M.nm = L.nm) (h2 : M.least = L.least) (h3 : M.heads = L.heads) (h4 : M.recs = L.recs) : GoodL M :=
  ⟨h1 ▸ G.len, h2 ▸ G.lo, by unfold nextF; rw [h2, h3]; exact G.hi, h3 ▸ G.sorted, by unfold baseN; rw [h3]; exact G.base, by unfold nextN baseN; rw [h3, h4]; exact G.last⟩
theorem good_note {L : Lg} (G : GoodL L) (e : Int) : GoodL (noteL L e) := by
  obtain ⟨h1, h2, h3, h4, h5, h6, _⟩ := note_fields L e
  exact G.as h1 h3 h4 h5
theorem good_sy {L : Lg} (G : GoodL L) (D : Dk) : GoodL (syL L D) := by
  obtain ⟨h1, h2, h3, h4, h5, h6⟩ := sy_fields L D
  exact G.as h1 h3 h4 h5
theorem sy_next (L : Lg) (D : Dk) : nextN (syL L D) = nextN L ∧ nextF (syL L D) = nextF L ∧ baseN (syL L D) = baseN L := by
  obtain ⟨h1, h2, h3, h4, h5, h6⟩ := sy_fields L D
  unfold nextN nextF baseN
  rw [h3, h4, h5]
  exact ⟨rfl, rfl, rfl⟩
theorem base_mem {L : Lg} {a : Int} {r : List Int} (h : L.heads = a :: r) : baseN L = a := by unfold baseN; rw [h]; rfl
theorem heads_ge {L : Lg} (G : GoodL L) : ∀ h ∈ L.heads, baseN L ≤ h := by
  intro h hh
  cases e : L.heads with
  | nil => rw [e] at hh; cases hh
  | cons a r =>
    rw [base_mem e]
    rw [e] at hh
    have := G.sorted
    rw [e] at this
    rcases List.mem_cons.1 hh with rfl | hh
    · exact Int.le_refl _
    · exact (List.pairwise_cons.1 this).1 h hh
theorem base_le {L : Lg} (G : GoodL L) : baseN L ≤ nextN L := by unfold nextN; omega
/-- A file more. -/
theorem good_head {L M : Lg} (G : GoodL L) (hF : nextF L ≤ 999) (h1 : M.nm = L.nm) (h2 : M.least = L.least) (h3 : M.heads = L.heads ++ [nextN L]) (hb : L.heads = [] → L.recs = []) (h4 : ∃ r, M.recs = L.recs ++ r) : GoodL M ∧ baseN M = (if L.heads = [] then nextN L else baseN L) := by
  obtain ⟨r, h4⟩ := h4
  have hbase : baseN M = (if L.heads = [] then nextN L else baseN L) := by
    unfold baseN
    rw [h3]
    cases e : L.heads with
    | nil => simp
    | cons a t => simp
  refine ⟨⟨h1 ▸ G.len, h2 ▸ G.lo, ?_, ?_, ?_, ?_⟩, hbase⟩
  · unfold nextF at hF ⊢
    rw [h2, h3, List.length_append]
    simp
    omega
  · rw [h3]
    refine List.pairwise_append.2 ⟨G.sorted, List.pairwise_singleton _ _, fun a ha b hb => ?_⟩
    rw [List.mem_singleton] at hb
    rw [hb]
    exact G.last a ha
  · rw [hbase]
    split
    · have := G.base
      unfold nextN
      omega
    · exact G.base
  · intro h hh
    have hn : nextN M = nextN L + r.length := by
      unfold nextN
      rw [hbase, h4, List.length_append]
      split
      · rename_i he
        rw [hb he]
        unfold nextN
        rw [hb he]
        simp
      · push_cast
        omega
    rw [h3] at hh
    rcases List.mem_append.1 hh with hh | hh
    · have := G.last h hh
      omega
    · rw [List.mem_singleton] at hh
      omega
/-- No file, no record. -/
def Bare (L : Lg) : Prop := L.heads = [] → L.recs = []
theorem good_df {L : Lg} (G : GoodL L) {n : Int} (h : pastB L n = true) : GoodL (dfV L) ∧ 0 ≤ h1 L - h0 L ∧ h1 L - h0 L ≤ L.recs.length ∧ nextN (dfV L) = nextN L ∧ baseN (dfV L) = h1 L ∧ baseN (dfV L) ≤ n := by
  cases e : L.heads with
  | nil => unfold pastB at h; rw [e] at h; cases h
  | cons a t =>
    cases e2 : t with
    | nil => unfold pastB at h; rw [e, e2] at h; cases h
    | cons b r =>
      subst e2
      have hs := G.sorted
      rw [e] at hs
      obtain ⟨s1, s2⟩ := List.pairwise_cons.1 hs
      have hab := s1 b (by simp)
      have hl := G.last b (by rw [e]; simp)
      have hba := base_mem e
      have hn : nextN L = a + L.recs.length := by unfold nextN; rw [hba]
      have hbd : baseN (dfV L) = b := by unfold baseN dfV; rw [e]; rfl
      have e0 : h0 L = a := by unfold h0; rw [e]; rfl
      have e1 : h1 L = b := by unfold h1; rw [e]; rfl
      have hrl : (dfV L).recs.length = L.recs.length - (b - a).toNat := by show (L.recs.drop _).length = _; rw [e0, e1]; simp
      have hnd : nextN (dfV L) = nextN L := by
        rw [hn]
        unfold nextN
        rw [hbd, hrl]
        omega
      have hbn : b ≤ n := by unfold pastB at h; rw [e] at h; simpa using h
      have ha := G.base
      rw [hba] at ha
      refine ⟨⟨G.len, ?_, ?_, ?_, by rw [hbd]; omega, fun x hx => ?_⟩, by rw [e0, e1]; omega, by rw [e0, e1]; omega, hnd, by rw [hbd, e1], by rw [hbd]; exact hbn⟩
      · show 1 ≤ L.least + 1
        have := G.lo
        omega
      · show L.least + 1 + (L.heads.tail.length : Int) ≤ 1000
        have := G.hi
        unfold nextF at this
        rw [e] at this ⊢
        simp at this ⊢
        omega
      · show L.heads.tail.Pairwise _
        rw [e]
        exact s2
      · rw [hnd]
        refine G.last x ?_
        have hx' : x ∈ L.heads.tail := hx
        rw [e] at hx' ⊢
        simp at hx' ⊢
        exact .inr hx'
end Go.Proofs.YtfpmcomigolacaaGreatDoor.wal
