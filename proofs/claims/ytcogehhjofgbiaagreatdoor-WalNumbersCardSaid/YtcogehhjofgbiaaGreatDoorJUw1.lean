/-
  A log as mathematics: what each call of it does to it and to its disk.
  A log in the world: its block, its two rows; what turns while something is done to it.
-/
import Derived.Test.YtcogehhjofgbiaaGreatDoorJMath
import Derived.Test.YtcogehhjofgbiaaGreatDoorJWm
import Derived.Test.YtcogehhjofgbiaaGreatDoorJNw
import Derived.Test.YtcogehhjofgbiaaGreatDoorJKme
import Derived.Test.YtcogehhjofgbiaaGreatDoorJUk0
set_option linter.unusedSimpArgs false
set_option linter.unusedVariables false
namespace Go.Proofs.YtcogehhjofgbiaaGreatDoor.wal
open Go.Proofs.YtcogehhjofgbiaaGreatDoor.enc Go.Proofs.YtcogehhjofgbiaaGreatDoor.code Go.Proofs.YtcogehhjofgbiaaGreatDoor.crcm Go.Proofs.YtcogehhjofgbiaaGreatDoor.words Go.Proofs.YtcogehhjofgbiaaGreatDoor.disk

structure Lg where
  nm : Bs
  per : Int
  least : Int
  heads : List Int
  recs : List Bs
  torn : Bool
  syn : Int
  fail : Bool

def baseN (L : Lg) : Int := L.heads.head?.getD 0
def nextN (L : Lg) : Int := baseN L + L.recs.length
def nextF (L : Lg) : Int := L.least + L.heads.length
def fn (nm : Bs) (k : Int) : Bs := nm ++ Lib.itoa k
def lastF (L : Lg) : Bs := fn L.nm (nextF L - 1)
def lastH (L : Lg) : Int := L.heads.getLast?.getD 0
def closedB (L : Lg) : Bool := decide (L.heads = []) || (L.torn || decide (L.per ≤ nextN L - lastH L))
def noteL (L : Lg) (e : Int) : Lg := if e = 14 then { L with fail := true } else L
/-- What is read of the last file: what is wrong; whether all of it lasts. -/
def slE (L : Lg) (D : Dk) : Int :=
  if D.off = true then 14 else if L.heads = [] then 0 else if readE D (lastF L) ≠ 0 then readE D (lastF L) else if oldL D.F (lastF L) = (readV D (lastF L)).length then 0 else onE D (lastF L)
def slD (L : Lg) (D : Dk) : Dk :=
  if D.off = true then D else if L.heads = [] then D else if readE D (lastF L) ≠ 0 then D else if oldL D.F (lastF L) = (readV D (lastF L)).length then D else synV D (lastF L)
def syE (L : Lg) (D : Dk) : Int := if L.fail = true then 14 else slE L D
def syD (L : Lg) (D : Dk) : Dk := if L.fail = true then D else slD L D
def syL (L : Lg) (D : Dk) : Lg := if L.fail = true then L else if slE L D ≠ 0 then noteL L (slE L D) else { L with syn := nextN L }
/-- The bytes of a file that begins. -/
def newB (L : Lg) (s : Bs) : Bs := frameL (enc (nextN L).toNat) ++ frameL s
def bgE (L : Lg) (D : Dk) (s : Bs) : Int := if 999 < nextF L then 2 else if syE L D ≠ 0 then syE L D else appE (syD L D) (fn L.nm (nextF L)) (newB L s)
def bgD (L : Lg) (D : Dk) (s : Bs) : Dk := if 999 < nextF L then D else if syE L D ≠ 0 then syD L D else appV (syD L D) (fn L.nm (nextF L)) (newB L s)
def bgL (L : Lg) (D : Dk) (s : Bs) : Lg :=
  if 999 < nextF L then L else if syE L D ≠ 0 then syL L D else if appE (syD L D) (fn L.nm (nextF L)) (newB L s) ≠ 0 then syL L D
  else { syL L D with heads := L.heads ++ [nextN L], torn := false }
def wrE (L : Lg) (D : Dk) (s : Bs) : Int := if closedB L = true then bgE L D s else appE D (lastF L) (frameL s)
def wrD (L : Lg) (D : Dk) (s : Bs) : Dk := if closedB L = true then bgD L D s else appV D (lastF L) (frameL s)
def wrL (L : Lg) (D : Dk) (s : Bs) : Lg := if closedB L = true then bgL L D s else L
def apE (L : Lg) (D : Dk) (s : Bs) : Int := if L.fail = true then 14 else if 4096 < s.length then 7 else wrE L D s
def apN (L : Lg) (D : Dk) (s : Bs) : Int := if apE L D s = 0 then nextN L else 0
def apD (L : Lg) (D : Dk) (s : Bs) : Dk := if L.fail = true then D else if 4096 < s.length then D else wrD L D s
def apL (L : Lg) (D : Dk) (s : Bs) : Lg :=
  if L.fail = true then L else if 4096 < s.length then L else if wrE L D s ≠ 0 then noteL (wrL L D s) (wrE L D s) else { wrL L D s with recs := L.recs ++ [s] }
def pastB (L : Lg) (n : Int) : Bool := match L.heads with
  | _ :: h :: _ => decide (h ≤ n)
  | _ => false
def dfE (L : Lg) (D : Dk) : Int := onE D (fn L.nm L.least)
def dfD (L : Lg) (D : Dk) : Dk := remV D (fn L.nm L.least)
def h0 (L : Lg) : Int := (L.heads[0]?).getD 0
def h1 (L : Lg) : Int := (L.heads[1]?).getD 0
def dfV (L : Lg) : Lg := { L with recs := L.recs.drop (h1 L - h0 L).toNat, heads := L.heads.tail, least := L.least + 1 }
def drF : Nat → Lg → Dk → Int → Int × Lg × Dk
  | 0, L, D, _ => (0, L, D)
  | k + 1, L, D, n => if pastB L n = true then (if dfE L D ≠ 0 then (dfE L D, noteL L (dfE L D), dfD L D) else drF k (dfV L) (dfD L D) n) else (0, L, D)
def drV (L : Lg) (D : Dk) (n : Int) : Int × Lg × Dk :=
  if L.fail = true then (14, L, D) else if pastB L n = false then (0, L, D) else if syE L D ≠ 0 then (syE L D, syL L D, syD L D) else drF L.heads.length (syL L D) (syD L D) n
def gtE (L : Lg) (n : Int) : Int := if n < baseN L ∨ nextN L ≤ n then 1 else 0
def gtV (L : Lg) (n : Int) : Bs := if n < baseN L ∨ nextN L ≤ n then [] else (L.recs[(n - baseN L).toNat]?).getD []

/-! ### Opening -/
def numOf (nm f : Bs) : Option Int := if Lib.hasPrefix f nm = true then (if inE (Lib.trimPrefix f nm) 1 999 = 0 then some (inV (Lib.trimPrefix f nm) 1 999) else none) else none
def numsU (nm : Bs) (F : List Fl) : List Int := (F.map Fl.n).filterMap (numOf nm)
def headV (L : Lg) (t : Bs) : Int := if L.heads = [] then (rInt t 0 1099511627776).1 else nextN L
def headB (L : Lg) (t : Bs) : Bool := if L.heads = [] then decide (rEnd (t.drop (rInt t 0 1099511627776).2.1) (rInt t 0 1099511627776).2.2 = 0) else (t == enc (nextN L).toNat)
def textsV (L : Lg) (D : Dk) (k : Int) : List Bs := (frsV (readV D (fn L.nm k))).1
def takeB (L : Lg) (D : Dk) (k : Int) : Bool :=
  if L.heads ≠ [] ∧ k ≠ nextF L then false else match textsV L D k with
    | [] => false
    | t :: _ => headB L t
def takeV (L : Lg) (D : Dk) (k : Int) : Lg :=
  { L with least := if L.heads = [] then k else L.least, heads := L.heads ++ [headV L ((textsV L D k).head?.getD [])], recs := L.recs ++ (textsV L D k).tail, torn := decide ((frsV (readV D (fn L.nm k))).2 < (readV D (fn L.nm k)).length) }
def takesV (D : Dk) : Lg → List Int → Lg
  | L, [] => L
  | L, k :: r => if takeB L D k = true then takesV D (takeV L D k) r else L
def rmV (nm : Bs) : Dk → List Int → Int × Dk
  | D, [] => (0, D)
  | D, k :: r => if onE D (fn nm k) ≠ 0 then (onE D (fn nm k), remV D (fn nm k)) else rmV nm (remV D (fn nm k)) r
def lg0 (nm : Bs) (per : Int) : Lg := ⟨nm, per, 1, [], [], false, 0, false⟩
def isDig (c : UInt8) : Bool := decide (48 ≤ c.toNat ∧ c.toNat ≤ 57)
def chkE (D : Dk) (nm : Bs) (per : Int) : Int :=
  if D.off = true then 14 else if nameB nm = false then 6 else if 8 < nm.length then 6 else if isDig (nm.getLast?.getD 0) = true then 6 else if per < 1 ∨ 64 < per then 1 else 0
/-- What Open tells, the log, the disk; nums: the numbers of the files, in order. -/
def opnV (D : Dk) (nm : Bs) (per : Int) (nums : List Int) : Int × Lg × Dk :=
  if chkE D nm per ≠ 0 then (chkE D nm per, lg0 nm per, D) else
  let L := takesV D (lg0 nm per) nums
  let R := rmV nm D (nums.drop L.heads.length).reverse
  if R.1 ≠ 0 then (R.1, L, R.2) else (syE L R.2, syL L R.2, syD L R.2)

/-! ### What holds of every log -/
structure GoodL (L : Lg) : Prop where
  len : L.nm.length ≤ 8
  lo : 1 ≤ L.least
  hi : nextF L ≤ 1000
  sorted : L.heads.Pairwise (· ≤ ·)
  base : 0 ≤ baseN L
  last : ∀ h ∈ L.heads, h ≤ nextN L
theorem note_fields (L : Lg) (e : Int) : (noteL L e).nm = L.nm ∧ (noteL L e).per = L.per ∧ (noteL L e).least = L.least ∧ (noteL L e).heads = L.heads ∧ (noteL L e).recs = L.recs ∧ (noteL L e).torn = L.torn ∧ (noteL L e).syn = L.syn := by
  unfold noteL
  split <;> exact ⟨rfl, rfl, rfl, rfl, rfl, rfl, rfl⟩
theorem sy_fields (L : Lg) (D : Dk) : (syL L D).nm = L.nm ∧ (syL L D).per = L.per ∧ (syL L D).least = L.least ∧ (syL L D).heads = L.heads ∧ (syL L D).recs = L.recs ∧ (syL L D).torn = L.torn := by
  unfold syL
  split
  · exact ⟨rfl, rfl, rfl, rfl, rfl, rfl⟩
  · split
    · obtain ⟨h1, h2, h3, h4, h5, h6, _⟩ := note_fields L (slE L D)
      exact ⟨h1, h2, h3, h4, h5, h6⟩
    · exact ⟨rfl, rfl, rfl, rfl, rfl, rfl⟩
theorem GoodL.as {L M : Lg} (G : GoodL L) (h1 : M.nm = L.nm) (h2 : M.least = L.least) (h3 : M.heads = L.heads) (h4 : M.recs = L.recs) : GoodL M :=
  ⟨h1 ▸ G.len, h2 ▸ G.lo, by unfold nextF; rw [h2, h3]; exact G.hi, h3 ▸ G.sorted, by unfold baseN; rw [h3]; exact G.base, by unfold nextN baseN; rw [h3, h4]; exact G.last⟩
theorem good_note {L : Lg} (G : GoodL L) (e : Int) : GoodL (noteL L e) := by
  obtain ⟨h1, h2, h3, h4, h5, h6, _⟩ := note_fields L e
  exact G.as h1 h3 h4 h5
theorem good_sy {L : Lg} (G : GoodL L) (D : Dk) : GoodL (syL L D) := by
  obtain ⟨h1, h2, h3, h4, h5, h6⟩ := sy_fields L D
  exact G.as h1 h3 h4 h5
theorem sy_next (L : Lg) (D : Dk) : nextN (syL L D) = nextN L ∧ nextF (syL L D) = nextF L ∧ baseN (syL L D) = baseN L := by
  obtain ⟨h1, h2, h3, h4, h5, h6⟩ := sy_fields L D
  unfold nextN nextF baseN
  rw [h3, h4, h5]
  exact ⟨rfl, rfl, rfl⟩
theorem base_mem {L : Lg} {a : Int} {r : List Int} (h : L.heads = a :: r) : baseN L = a := by unfold baseN; rw [h]; rfl
theorem heads_ge {L : Lg} (G : GoodL L) : ∀ h ∈ L.heads, baseN L ≤ h := by
  intro h hh
  cases e : L.heads with
  | nil => rw [e] at hh; cases hh
  | cons a r =>
    rw [base_mem e]
    rw [e] at hh
    have := G.sorted
    rw [e] at this
    rcases List.mem_cons.1 hh with rfl | hh
    · exact Int.le_refl _
    · exact (List.pairwise_cons.1 this).1 h hh
theorem base_le {L : Lg} (G : GoodL L) : baseN L ≤ nextN L := by unfold nextN; omega
/-- A file more. -/
theorem good_head {L M : Lg} (G : GoodL L) (hF : nextF L ≤ 999) (h1 : M.nm = L.nm) (h2 : M.least = L.least) (h3 : M.heads = L.heads ++ [nextN L]) (hb : L.heads = [] → L.recs = []) (h4 : ∃ r, M.recs = L.recs ++ r) : GoodL M ∧ baseN M = (if L.heads = [] then nextN L else baseN L) := by
  obtain ⟨r, h4⟩ := h4
  have hbase : baseN M = (if L.heads = [] then nextN L else baseN L) := by
    unfold baseN
    rw [h3]
    cases e : L.heads with
    | nil => simp
    | cons a t => simp
  refine ⟨⟨h1 ▸ G.len, h2 ▸ G.lo, ?_, ?_, ?_, ?_⟩, hbase⟩
  · unfold nextF at hF ⊢
    rw [h2, h3, List.length_append]
    simp
    omega
  · rw [h3]
    refine List.pairwise_append.2 ⟨G.sorted, List.pairwise_singleton _ _, fun a ha b hb => ?_⟩
    rw [List.mem_singleton] at hb
    rw [hb]
    exact G.last a ha
  · rw [hbase]
    split
    · have := G.base
      unfold nextN
      omega
    · exact G.base
  · intro h hh
    have hn : nextN M = nextN L + r.length := by
      unfold nextN
      rw [hbase, h4, List.length_append]
      split
      · rename_i he
        rw [hb he]
        unfold nextN
        rw [hb he]
        simp
      · push_cast
        omega
    rw [h3] at hh
    rcases List.mem_append.1 hh with hh | hh
    · have := G.last h hh
      omega
    · rw [List.mem_singleton] at hh
      omega
/-- No file, no record. -/
def Bare (L : Lg) : Prop := L.heads = [] → L.recs = []
theorem good_df {L : Lg} (G : GoodL L) {n : Int} (h : pastB L n = true) : GoodL (dfV L) ∧ 0 ≤ h1 L - h0 L ∧ h1 L - h0 L ≤ L.recs.length ∧ nextN (dfV L) = nextN L ∧ baseN (dfV L) = h1 L ∧ baseN (dfV L) ≤ n := by
  cases e : L.heads with
  | nil => unfold pastB at h; rw [e] at h; cases h
  | cons a t =>
    cases e2 : t with
    | nil => unfold pastB at h; rw [e, e2] at h; cases h
    | cons b r =>
      subst e2
      have hs := G.sorted
      rw [e] at hs
      obtain ⟨s1, s2⟩ := List.pairwise_cons.1 hs
      have hab := s1 b (by simp)
      have hl := G.last b (by rw [e]; simp)
      have hba := base_mem e
      have hn : nextN L = a + L.recs.length := by unfold nextN; rw [hba]
      have hbd : baseN (dfV L) = b := by unfold baseN dfV; rw [e]; rfl
      have e0 : h0 L = a := by unfold h0; rw [e]; rfl
      have e1 : h1 L = b := by unfold h1; rw [e]; rfl
      have hrl : (dfV L).recs.length = L.recs.length - (b - a).toNat := by show (L.recs.drop _).length = _; rw [e0, e1]; simp
      have hnd : nextN (dfV L) = nextN L := by
        rw [hn]
        unfold nextN
        rw [hbd, hrl]
        omega
      have hbn : b ≤ n := by unfold pastB at h; rw [e] at h; simpa using h
      have ha := G.base
      rw [hba] at ha
      refine ⟨⟨G.len, ?_, ?_, ?_, by rw [hbd]; omega, fun x hx => ?_⟩, by rw [e0, e1]; omega, by rw [e0, e1]; omega, hnd, by rw [hbd, e1], by rw [hbd]; exact hbn⟩
      · show 1 ≤ L.least + 1
        have := G.lo
        omega
      · show L.least + 1 + (L.heads.tail.length : Int) ≤ 1000
        have := G.hi
        unfold nextF at this
        rw [e] at this ⊢
        simp at this ⊢
        omega
      · show L.heads.tail.Pairwise _
        rw [e]
        exact s2
      · rw [hnd]
        refine G.last x ?_
        have hx' : x ∈ L.heads.tail := hx
        rw [e] at hx' ⊢
        simp at hx' ⊢
        exact .inr hx'
end Go.Proofs.YtcogehhjofgbiaaGreatDoor.wal
set_option linter.unusedSimpArgs false
set_option linter.unusedVariables false
namespace Go.Proofs.YtcogehhjofgbiaaGreatDoor.wal
open Go.ChangeShapes Go.WideShapes Go.ChangeAt Go.RowKit Go.Maps Go.WideMaps
open Go.Proofs.YtcogehhjofgbiaaGreatDoor.opened Go.Proofs.YtcogehhjofgbiaaGreatDoor.block Go.Proofs.YtcogehhjofgbiaaGreatDoor.words Go.Proofs.YtcogehhjofgbiaaGreatDoor.disk

/-! ### Rows that are one's own -/
theorem own_same {w w' : World} {base : Nat} {e : TypeId} {size : Nat} {v : Value} {n : Nat} {xs : List Value} (h : w.ownsRow base e size v n xs) (hb : ∀ k, v.ownBlock = some k → w'.heap[k]? = w.heap[k]?) : w'.ownsRow base e size v n xs := by
  refine ⟨h.1, ?_⟩
  rcases h.2 with hn | ⟨g, cap, cur, hv, hg, hh, rest⟩
  · exact .inl hn
  · exact .inr ⟨g, cap, cur, hv, hg, (hb g (by rw [hv]; rfl)).trans hh, rest⟩
theorem own_low {w : World} {base base' : Nat} {e : TypeId} {size : Nat} {v : Value} {n : Nat} {xs : List Value} (h : w.ownsRow base e size v n xs) (hb : ∀ k, v.ownBlock = some k → base' ≤ k) : w.ownsRow base' e size v n xs := by
  refine ⟨h.1, ?_⟩
  rcases h.2 with hn | ⟨g, cap, cur, hv, hg, hh, rest⟩
  · exact .inl hn
  · exact .inr ⟨g, cap, cur, hv, hb g (by rw [hv]; rfl), hh, rest⟩
theorem own_type {w : World} {base : Nat} {e : TypeId} {size : Nat} {v : Value} {n : Nat} {xs : List Value} (h : w.ownsRow base e size v n xs) {k : Nat} (hk : v.ownBlock = some k) : ∃ cs, Whole w k e cs := by
  rcases h.2 with ⟨hv, -⟩ | ⟨g, cap, cur, hv, hg, hh, rest⟩
  · rw [hv] at hk
    simp [Value.ownBlock] at hk
  · rw [hv] at hk
    obtain rfl : g = k := by simpa [Value.ownBlock] using hk
    exact ⟨cur, hh⟩
theorem own_shape {w : World} {base : Nat} {e : TypeId} {size : Nat} {v : Value} {n : Nat} {xs : List Value} (h : w.ownsRow base e size v n xs) : ∃ A c, v = .slice A n c := by
  rcases h.2 with ⟨hv, hn⟩ | ⟨g, cap, cur, hv, -⟩
  · exact ⟨none, 0, by rw [hv, hn]⟩
  · exact ⟨_, _, hv⟩
theorem own_at {w : World} {base : Nat} {e : TypeId} {n c : Nat} {A : Option Addr} {xs : List Value} (h : w.ownsRow base e 1 (.slice A n c) n xs) {k : Nat} {x : Value} (hk : xs[k]? = some x) : ∃ g, A = some ⟨g, 0, none⟩ ∧ g < w.heap.size ∧ w.cell? ⟨g, k, none⟩ = some x := by
  obtain ⟨hL, -⟩ := lies_own h
  obtain ⟨b, off, hA, hb, hc⟩ := lies_at hL hk
  rcases h.2 with ⟨hv, -⟩ | ⟨g, cap, cur, hv, hg, hh, rest⟩
  · injection hv with h1
    rw [h1] at hA
    cases hA
  · injection hv with h1
    rw [h1] at hA
    cases hA
    rw [Nat.zero_add] at hc
    exact ⟨_, h1, hb, hc⟩
theorem own_none {w : World} {base : Nat} {e : TypeId} {n c : Nat} {A : Option Addr} {xs : List Value} (h : w.ownsRow base e 1 (.slice A n c) n xs) : n = xs.length := by
  have := h.1
  omega

/-! ### What turns -/
/-- An object that a disk lies in. -/
def DObj (o : Obj) : Prop := (∃ cs f, o = .cells cs 65 f) ∨ (∃ cs f, o = .cells cs 5 f) ∨ ∃ es n, o = .map es n
/-- Of what was there nothing has turned but blocks of Q, and what disks lie in. -/
structure WT (w w' : World) (Q : Nat → Prop) : Prop where
  os : w'.os = w.os
  tape : w'.tape = w.tape
  output : w'.output = w.output
  size : w.heap.size ≤ w'.heap.size
  block : ∀ k o, w.heap[k]? = some o → ¬ Q k → ¬ DObj o → w'.heap[k]? = some o
theorem WT.refl (w : World) (Q : Nat → Prop) : WT w w Q := ⟨rfl, rfl, rfl, Nat.le_refl _, fun _ _ h _ _ => h⟩
theorem WT.wide {w w' : World} {Q R : Nat → Prop} (h : WT w w' Q) (hq : ∀ k, Q k → R k) : WT w w' R := ⟨h.os, h.tape, h.output, h.size, fun k o ho hn hd => h.block k o ho (fun x => hn (hq k x)) hd⟩
theorem WT.trans {a b c : World} {Q R : Nat → Prop} (h : WT a b Q) (k : WT b c R) (hr : ∀ j, R j → Q j ∨ a.heap.size ≤ j) : WT a c Q :=
  ⟨k.os.trans h.os, k.tape.trans h.tape, k.output.trans h.output, Nat.le_trans h.size k.size, fun j o ho hn hd => k.block j o (h.block j o ho hn hd) (fun hR => by
    have hj := (Array.getElem?_eq_some_iff.1 ho).1
    rcases hr j hR with h1 | h1
    · exact hn h1
    · omega) hd⟩
theorem wt_below {w w' : World} (h : Below w.heap.size w w') (Q : Nat → Prop) : WT w w' Q := ⟨h.os, h.tape, h.output, h.size, fun k o ho _ _ => (h.block k (Array.getElem?_eq_some_iff.1 ho).1).trans ho⟩
theorem wt_grown {w w' : World} {row : Option Nat} (h : w.grownBy w' row) {Q : Nat → Prop} (hq : ∀ k, row = some k → Q k) : WT w w' Q :=
  ⟨h.os, h.tape, h.output, h.size, fun k o ho hn _ => (h.block k (Array.getElem?_eq_some_iff.1 ho).1 (fun e => hn (hq k e.symm))).trans ho⟩
theorem disk_obj {w : World} {g mb : Nat} {D : Dk} {E : List Fe} (h : DiskE w g mb D E) {k : Nat} (hk : blk g mb E k) : ∃ o, w.heap[k]? = some o ∧ DObj o := by
  rcases hk with rfl | rfl | ⟨e, he, a, ha, rfl⟩
  · exact ⟨_, h.cells, .inl ⟨_, _, rfl⟩⟩
  · obtain ⟨es, -, xs, clock, hm, -⟩ := h.own
    exact ⟨_, hm, .inr (.inr ⟨_, _, rfl⟩)⟩
  · have hr := (h.rows e he).1
    rcases hr.2 with ⟨hv, -⟩ | ⟨b, cap, cur, hv, -, hg, -⟩
    · unfold Fe.row at hv
      injection hv with h1
      rw [h1] at ha
      cases ha
    · unfold Fe.row at hv
      injection hv with h1
      rw [h1] at ha
      cases ha
      exact ⟨_, hg, .inr (.inl ⟨_, _, rfl⟩)⟩
theorem wt_turn {w w' : World} {g mb : Nat} {D : Dk} {E : List Fe} (h : DiskE w g mb D E) (ht : Turn w w' (blk g mb E)) (Q : Nat → Prop) : WT w w' Q :=
  ⟨ht.os, ht.tape, ht.output, ht.size, fun k o ho _ hd => (ht.block k (Array.getElem?_eq_some_iff.1 ho).1 (fun hk => by
    obtain ⟨o', h1, h2⟩ := disk_obj h hk
    rw [ho] at h1
    cases h1
    exact hd h2)).trans ho⟩
theorem not_dobj {cs : Array Value} {t : TypeId} {f : Nat × Nat} (h1 : t ≠ 65) (h2 : t ≠ 5) : ¬ DObj (.cells cs t f) := by
  rintro (⟨_, _, h⟩ | ⟨_, _, h⟩ | ⟨_, _, h⟩)
  · injection h with _ h; exact h1 h
  · injection h with _ h; exact h2 h
  · cases h
theorem Whole.wt {w w' : World} {g : Nat} {t : TypeId} {cs : Array Value} {Q : Nat → Prop} (h : Whole w g t cs) (k : WT w w' Q) (hn : ¬ Q g) (h1 : t ≠ 65) (h2 : t ≠ 5) : Whole w' g t cs := k.block g _ h hn (not_dobj h1 h2)
/-- A call of the disk. -/
theorem stepW {B gd : Nat} {D D' : Dk} {w : World} {f : FuncId} {args : Array Value} {R : Ending → Prop} (hB : B ≤ w.heap.size) (h : DiskB w B gd D)
    (hc : ∀ S, DiskP w S gd D → Calls Tryz.prog f args w fun e w' => R e ∧ DiskP w' (More w S) gd D' ∧ Turn w w' S) :
    Calls Tryz.prog f args w fun e w' => R e ∧ DiskB w' B gd D' ∧ WT w w' (fun _ => False) ∧ Below B w w' := by
  obtain ⟨mb, E, h1, h2⟩ := h
  refine (hc (blk gd mb E) ⟨mb, E, h1, fun k hk => hk⟩).mono fun e w' ⟨e1, e2, ht⟩ => ?_
  obtain ⟨u1, u2⟩ := up hB e2 h2 ht
  exact ⟨e1, u1, wt_turn h1 ht _, u2⟩

/-! ### A log -/
structure LogE (w : World) (gl gd : Nat) (L : Lg) (A : Option Addr) (c : Nat) (R : Option Addr) (d : Nat) : Prop where
  cells : Whole w gl 68 #[.pointer (some ⟨gd, 0, none⟩), sV L.nm, .int .i64 L.per, .int .i64 L.least, .slice A L.heads.length c, .slice R L.recs.length d, .bool L.torn, .int .i64 L.syn, .bool L.fail]
  heads : w.ownsRow 0 3 1 (.slice A L.heads.length c) L.heads.length (L.heads.map (Value.int .i64))
  recs : OwnS w 0 (.slice R L.recs.length d) L.recs
def lblk (gl : Nat) (A R : Option Addr) (k : Nat) : Prop := k = gl ∨ (∃ a, A = some a ∧ k = a.block) ∨ ∃ a, R = some a ∧ k = a.block
def LP (w : World) (Q : Nat → Prop) (gl gd : Nat) (L : Lg) : Prop := ∃ A c R d, LogE w gl gd L A c R d ∧ ∀ k, lblk gl A R k → Q k
theorem own_blk {A : Option Addr} {n c : Nat} {k : Nat} (h : (Value.slice A n c).ownBlock = some k) : ∃ a, A = some a ∧ k = a.block := by
  cases A with
  | none => simp [Value.ownBlock] at h
  | some a => exact ⟨a, rfl, by simpa [Value.ownBlock] using h.symm⟩
theorem blk_own {A : Option Addr} {n c : Nat} {a : Addr} (h : A = some a) : (Value.slice A n c).ownBlock = some a.block := by subst h; rfl
theorem LogE.same {w w' : World} {gl gd : Nat} {L : Lg} {A : Option Addr} {c : Nat} {R : Option Addr} {d : Nat} (h : LogE w gl gd L A c R d) (hb : ∀ k, lblk gl A R k → w'.heap[k]? = w.heap[k]?) : LogE w' gl gd L A c R d :=
  ⟨(hb gl (.inl rfl)).trans h.cells, own_same h.heads fun k hk => hb k (.inr (.inl (own_blk hk))), own_same h.recs fun k hk => hb k (.inr (.inr (own_blk hk)))⟩
theorem LogE.obj {w : World} {gl gd : Nat} {L : Lg} {A : Option Addr} {c : Nat} {R : Option Addr} {d : Nat} (h : LogE w gl gd L A c R d) {k : Nat} (hk : lblk gl A R k) : ∃ t cs, Whole w k t cs ∧ (t = 68 ∨ t = 3 ∨ t = 9) := by
  rcases hk with rfl | ⟨a, ha, rfl⟩ | ⟨a, ha, rfl⟩
  · exact ⟨_, _, h.cells, .inl rfl⟩
  · obtain ⟨cs, hcs⟩ := own_type h.heads (blk_own ha)
    exact ⟨_, cs, hcs, .inr (.inl rfl)⟩
  · obtain ⟨cs, hcs⟩ := own_type h.recs (blk_own ha)
    exact ⟨_, cs, hcs, .inr (.inr rfl)⟩
theorem tyL {t : TypeId} (h : t = 68 ∨ t = 3 ∨ t = 9) : t ≠ 65 ∧ t ≠ 5 := by
  rcases h with rfl | rfl | rfl <;> decide
theorem LogE.inside {w : World} {gl gd : Nat} {L : Lg} {A : Option Addr} {c : Nat} {R : Option Addr} {d : Nat} (h : LogE w gl gd L A c R d) {k : Nat} (hk : lblk gl A R k) : k < w.heap.size := by
  obtain ⟨t, cs, h1, -⟩ := h.obj hk
  exact h1.inside
theorem LogE.wt {w w' : World} {gl gd : Nat} {L : Lg} {A : Option Addr} {c : Nat} {R : Option Addr} {d : Nat} {Q : Nat → Prop} (h : LogE w gl gd L A c R d) (k : WT w w' Q) (hq : ∀ j, lblk gl A R j → ¬ Q j) : LogE w' gl gd L A c R d :=
  h.same fun j hj => by
    obtain ⟨t, cs, h1, h2⟩ := h.obj hj
    exact (Whole.wt h1 k (hq j hj) (tyL h2).1 (tyL h2).2).trans h1.symm
theorem LogE.below {w w' : World} {gl gd : Nat} {L : Lg} {A : Option Addr} {c : Nat} {R : Option Addr} {d : Nat} (h : LogE w gl gd L A c R d) (hb : Below w.heap.size w w') : LogE w' gl gd L A c R d := h.same fun k hk => hb.block k (h.inside hk)
theorem LP.wt {w w' : World} {Q P : Nat → Prop} {gl gd : Nat} {L : Lg} (h : LP w Q gl gd L) (k : WT w w' P) (hq : ∀ j, Q j → ¬ P j) : LP w' Q gl gd L := by
  obtain ⟨A, c, R, d, h1, h2⟩ := h
  exact ⟨A, c, R, d, h1.wt k (fun j hj => hq j (h2 j hj)), h2⟩
theorem LP.below {w w' : World} {Q : Nat → Prop} {gl gd : Nat} {L : Lg} (h : LP w Q gl gd L) (hb : Below w.heap.size w w') : LP w' Q gl gd L := by
  obtain ⟨A, c, R, d, h1, h2⟩ := h
  exact ⟨A, c, R, d, h1.below hb, h2⟩
theorem LP.wide {w : World} {Q P : Nat → Prop} {gl gd : Nat} {L : Lg} (h : LP w Q gl gd L) (hq : ∀ j, Q j → P j) : LP w P gl gd L := by
  obtain ⟨A, c, R, d, h1, h2⟩ := h
  exact ⟨A, c, R, d, h1, fun j hj => hq j (h2 j hj)⟩
theorem LP.exact {w : World} {Q : Nat → Prop} {gl gd : Nat} {L : Lg} (h : LP w Q gl gd L) : LP w (fun k => Q k ∧ k < w.heap.size) gl gd L := by
  obtain ⟨A, c, R, d, h1, h2⟩ := h
  exact ⟨A, c, R, d, h1, fun j hj => ⟨h2 j hj, h1.inside hj⟩⟩
/-- A disk, while a block turns that is none of its own. -/
theorem DiskB.own {w w' : World} {B gd : Nat} {D : Dk} {row : Option Nat} (h : DiskB w B gd D) (hg : w.grownBy w' row) (hr : ∀ k, row = some k → k < w.heap.size → ∃ t cs, Whole w k t cs ∧ t ≠ 65 ∧ t ≠ 5) : DiskB w' B gd D := by
  obtain ⟨mb, E, h1, h2⟩ := h
  refine ⟨mb, E, h1.same fun k hk => hg.block k (h1.inside hk) fun e => ?_, h2⟩
  obtain ⟨t, cs, q1, q2, q3⟩ := hr k e.symm (h1.inside hk)
  obtain ⟨o, q4, q5⟩ := disk_obj h1 hk
  rw [q1] at q4
  cases q4
  exact not_dobj q2 q3 q5
theorem DiskB.lower {w : World} {B B' gd : Nat} {D : Dk} (h : DiskB w B gd D) (hb : B' ≤ B) : DiskB w B' gd D := DiskP.wide h fun k hk => Nat.le_trans hb hk
section
variable {B gd : Nat} {D : Dk} {w : World}
theorem appW (G : GoodD D) (hF : D.F.length ≤ 1000) (n s : Bs) (hn : n.length ≤ 100000) (hs : s.length ≤ 100000) (hB : B ≤ w.heap.size) (h : DiskB w B gd D) :
    Calls Tryz.prog 67 #[.pointer (some ⟨gd, 0, none⟩), sV n, sV s] w fun e w' => e = .returned (.int .i64 (appE D n s)) ∧ DiskB w' B gd (appV D n s) ∧ WT w w' (fun _ => False) ∧ Below B w w' :=
  stepW hB h fun S hS => append_any G hF n s hn hs w hS
theorem synW (G : GoodD D) (hF : D.F.length ≤ 1000) (n : Bs) (hn : n.length ≤ 100000) (hB : B ≤ w.heap.size) (h : DiskB w B gd D) :
    Calls Tryz.prog 70 #[.pointer (some ⟨gd, 0, none⟩), sV n] w fun e w' => e = .returned (.int .i64 (onE D n)) ∧ DiskB w' B gd (synV D n) ∧ WT w w' (fun _ => False) ∧ Below B w w' :=
  stepW hB h fun S hS => sync_any G hF n hn w hS
theorem remW (G : GoodD D) (n : Bs) (hn : n.length ≤ 100000) (hB : B ≤ w.heap.size) (h : DiskB w B gd D) :
    Calls Tryz.prog 36 #[.pointer (some ⟨gd, 0, none⟩), sV n] w fun e w' => e = .returned (.int .i64 (onE D n)) ∧ DiskB w' B gd (remV D n) ∧ WT w w' (fun _ => False) ∧ Below B w w' :=
  stepW hB h fun S hS => remove_any G n hn w hS
end
end Go.Proofs.YtcogehhjofgbiaaGreatDoor.wal
