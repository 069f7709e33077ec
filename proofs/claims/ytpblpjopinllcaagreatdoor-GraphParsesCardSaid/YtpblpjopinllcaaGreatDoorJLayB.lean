/-
  DERIVED: THE SHELF's CONTRACTS AT THIS DUMP, IN PLAIN WORDS (tools/lay-plain.mjs out of 'TryzShelfX.lean', which tools/lay-shelf.mjs wrote): THE SAME DECLARATIONS UNDER THE SAME NAMES: 'import', 'namespace', 'open', 'def', 'theorem' AND NOTHING ELSE: no command of the shelf's: FOR A HAND-IN. Each laying: the table of numbers ('.._ren') and one theorem, a field a fact of the dump's own or the kernel's comparison; each contract: ONE APPLICATION.
  A graph in writing (mathematics); a builder of texts; words.Number; a line written.
-/
import Derived.Shelf.Strings.Builder1
import Derived.Shelf.Strings.Builder2
import Derived.Shelf.Strings.OnBuilder
import Derived.Shelf.Small.Bits
import Derived.Shelf.Small.Wraps
import Derived.Shelf.Strconv.Itoa0
import Derived.Shelf.Strconv.Itoa1
import Derived.Shelf.LaysM
import Derived.Shelf.Strconv.Itoa2
import Derived.Shelf.Strconv.Itoa3
import Derived.Shelf.Strconv.Itoa4
import Derived.Shelf.Strconv.ParseIntEmpty
import Derived.Shelf.Strconv.Clone
import Derived.Shelf.Strconv.SyntaxError
import Derived.Shelf.LaysC
import Derived.Shelf.Strconv.ToError
import Derived.Shelf.Strconv.Lower
import Derived.Shelf.Strconv.ParseUint10
import Derived.Shelf.Strconv.ParseUint10Empty
import Derived.Shelf.Strconv.ParseUint10Any
import Derived.Shelf.Strconv.ParseInt10
import Derived.Shelf.Strconv.RangeError
import Derived.Shelf.Strconv.ToErrorRange
import Derived.Shelf.Strconv.ParseUintEmpty
import Derived.Shelf.Strconv.ParseUint10b64
import Derived.Shelf.Strconv.ParseUint10b32
import Derived.Shelf.Strconv.ParseUint10b16
import Derived.Shelf.Strconv.ParseUint10b8
import Derived.Shelf.Strconv.ParseUint10At
import Derived.Shelf.Strconv.ParseInt10At64
import Derived.Shelf.Strconv.ParseInt10At32
import Derived.Shelf.Strconv.ParseInt10At16
import Derived.Shelf.Strconv.ParseInt10At8
import Derived.Shelf.Strconv.ParseInt10All
import Derived.Shelf.Strconv.ParseIntPublic10
import Derived.Shelf.Strconv.ErrVarParseInt
import Derived.Shelf.Strings.Search1
import Derived.Shelf.Strings.Search2
import Derived.Shelf.Strings.Cut
import Derived.Shelf.Strings.Prefix
import Derived.Ground.SlgmProg
import Derived.Shelf.SortM.Plain
import Derived.Shelf.SortM.SortNone
import Derived.Test.YtpblpjopinllcaaGreatDoorProg
import Derived.Test.YtpblpjopinllcaaGreatDoorJOg
import Derived.Test.YtpblpjopinllcaaGreatDoorJGd
import Derived.Lib.AppendIntMem
import Derived.Laws.OwnMore
import Derived.Lib.ItoaLen
namespace Go.Proofs
open Go.Shelf
def Tryz.lays156_ren : Go.Shelf.Ren := ⟨fun | 156 => 156 | 165 => 234 | 166 => 155 | 169 => 85 | 240 => 233 | 241 => 284 | 276 => 283 | 277 => 331 | n => n, fun | 31 => 126 | 9 => 9 | 3 => 3 | 4 => 4 | 0 => 0 | 20 => 20 | 72 => 150 | 76 => 228 | 70 => 147 | 37 => 148 | 75 => 227 | 127 => 237 | 164 => 331 | 5 => 5 | 80 => 155 | n => n, fun | n => n⟩
theorem Tryz.lays156 : Go.Proofs.Lays.n156 Tryz.prog Tryz.lays156_ren := {
  mixed := by kernel_rfl
  f156 := Tryz.func156.trans (congrArg some (by kernel_rfl))
  f165 := Tryz.func234.trans (congrArg some (by kernel_rfl))
  f166 := Tryz.func155.trans (congrArg some (by kernel_rfl))
  f169 := Tryz.func85.trans (congrArg some (by kernel_rfl))
  f240 := Tryz.func233.trans (congrArg some (by kernel_rfl))
  f241 := Tryz.func284.trans (congrArg some (by kernel_rfl))
  f276 := Tryz.func283.trans (congrArg some (by kernel_rfl))
  f277 := Tryz.func331.trans (congrArg some (by kernel_rfl))
  t0 := Tryz.underlying0
  a0 := Tryz.isAgg0
  z0 := Tryz.sizeOf0
  v0 := Tryz.zeroValue0
  t3 := Tryz.underlying3
  a3 := Tryz.isAgg3
  z3 := Tryz.sizeOf3
  v3 := Tryz.zeroValue3
  t4 := Tryz.underlying4
  a4 := Tryz.isAgg4
  z4 := Tryz.sizeOf4
  v4 := Tryz.zeroValue4
  t9 := Tryz.underlying9
  a9 := Tryz.isAgg9
  z9 := Tryz.sizeOf9
  v9 := Tryz.zeroValue9
  t20 := Tryz.underlying20
  a20 := Tryz.isAgg20
  z20 := Tryz.sizeOf20
  v20 := Tryz.zeroValue20
  t31 := Tryz.underlying126
  a31 := Tryz.isAgg126
  z31 := Tryz.sizeOf126
  v31 := Tryz.zeroValue126
  t37 := Tryz.underlying148
  a37 := Tryz.isAgg148
  z37 := Tryz.sizeOf148
  v37 := Tryz.zeroValue148
  t70 := Tryz.underlying147
  a70 := Tryz.isAgg147
  z70 := Tryz.sizeOf147
  v70 := Tryz.zeroValue147
  t72 := Tryz.underlying150
  a72 := Tryz.isAgg150
  z72 := Tryz.sizeOf150
  v72 := Tryz.zeroValue150
  t75 := Tryz.underlying227
  a75 := Tryz.isAgg227
  z75 := Tryz.sizeOf227
  v75 := Tryz.zeroValue227
  t76 := Tryz.underlying228
  a76 := Tryz.isAgg228
  z76 := Tryz.sizeOf228
  v76 := Tryz.zeroValue228
  t127 := Tryz.underlying237
  a127 := Tryz.isAgg237
  z127 := Tryz.sizeOf237
  v127 := Tryz.zeroValue237
  t164 := Tryz.underlying331
  a164 := Tryz.isAgg331
  z164 := Tryz.sizeOf331
  v164 := Tryz.zeroValue331 }
theorem Tryz.Builder_Extra_156 : Builder.Extra Tryz.prog Tryz.lays156_ren := {
  sizeBuilder := by kernel_rfl
  liesBuilder := by kernel_rfl
  t5 := Tryz.underlying5
  a5 := Tryz.isAgg5
  z5 := Tryz.sizeOf5
  v5 := Tryz.zeroValue5
  infoByte := by kernel_rfl
  cellsByte := by kernel_rfl
  sizeByte := by kernel_rfl
  neB5 := by decide }
end Go.Proofs
namespace Go.Proofs.YtpblpjopinllcaaGreatDoor.graph
open Go.ChangeShapes Go.WideShapes Go.ChangeAt Go.RowKit Go.Shelf
open Go.Proofs.YtpblpjopinllcaaGreatDoor.opened Go.Proofs.YtpblpjopinllcaaGreatDoor.block Go.Proofs.YtpblpjopinllcaaGreatDoor.words

/-! ### The text -/
def sp (l : List Bs) : Bs := Lib.join l [32] ++ [10]
def inW (g : Gr) (k : Int) : Bs := ([105, 110, 61] : Bs) ++ (if k < 0 then [45] else match g.l[k.toNat]? with
  | none => []
  | some x => x.n)
def clWords (x : Cl) : List Bs := [[99, 108, 117, 115, 116, 101, 114], x.n, [119, 111, 114, 107, 101, 114, 115, 61] ++ Lib.itoa x.w]
def loWords (g : Gr) (x : Lo) : List Bs := [([108, 111, 111, 112] : Bs), x.n, inW g x.u, [114, 111, 117, 110, 100, 115, 61] ++ Lib.itoa x.r]
def moreK (k : Int) : Nat := if k = 3 ∨ k = 4 then 2 else if k = 6 ∨ k = 10 then 1 else 0
def nameC (g : Gr) (k : Int) : Bs := match g.c[k.toNat]? with
  | none => []
  | some x => x.n
def nameO (g : Gr) (k : Int) : Bs := match g.o[k.toNat]? with
  | none => []
  | some x => x.n
def oqWords (g : Gr) (x : Oq) : List Bs := [[111, 112], x.n, wordB x.k, inW g x.l, [97, 116, 61] ++ nameC g x.a] ++ ([[97, 61] ++ Lib.itoa x.x, [98, 61] ++ Lib.itoa x.y].take (moreK x.k))
def chWords (g : Gr) (x : Ch) : List Bs := [[102, 114, 111, 109], nameO g x.f, [116, 111], nameO g x.t]
def textG (g : Gr) : Bs := (g.c.map fun x => sp (clWords x)).flatten ++ ((g.l.map fun x => sp (loWords g x)).flatten ++ ((g.o.map fun x => sp (oqWords g x)).flatten ++ (g.h.map fun x => sp (chWords g x)).flatten))
/-- What is written of a list, up to a place. -/
def upto {α : Type} (L : List α) (f : α → Bs) (i : Nat) : Bs := ((L.take i).map f).flatten
theorem upto_zero {α : Type} (L : List α) (f : α → Bs) : upto L f 0 = [] := by simp [upto]
theorem upto_next {α : Type} {L : List α} {f : α → Bs} {i : Nat} {x : α} (h : L[i]? = some x) : upto L f (i + 1) = upto L f i ++ f x := by
  unfold upto
  rw [List.take_add_one, h]
  simp
theorem upto_all {α : Type} (L : List α) (f : α → Bs) : upto L f L.length = (L.map f).flatten := by simp [upto]
/-! ### A builder -/
/-- Block b is a builder that holds these bytes; nothing of it lies below B. -/
def BL (w : World) (B b : Nat) (l : Bs) : Prop := Lib.IsBuilder 150 5 B b (Lib.byteCells l) w ∧ B ≤ w.heap.size
theorem write_any (B b : Nat) (l s : Bs) (h1 : l.length + s.length ≤ 140737488355328) (w : World) (h : BL w B b l) :
    Calls Tryz.prog 155 #[.pointer (some ⟨b, 0, none⟩), .string ⟨s.toArray⟩] w fun e w' => (∃ v, e = .returned v) ∧ BL w' B b (l ++ s) ∧ Below B w w' := by
  have k := Any.Builder_WriteString { Tryz.lays156 with } Tryz.Builder_Extra_156 B b (Lib.byteCells l) ⟨s.toArray⟩ w h.1 (by rw [Lib.byteCells_length, show (⟨s.toArray⟩ : ByteArray).size = s.length by show s.toArray.size = _; simp]; exact h1) h.2
  refine k.mono fun e w' ⟨he, hb, hB⟩ => ⟨⟨_, he⟩, ⟨.inr ?_, Nat.le_trans h.2 hB.size⟩, hB⟩
  have e2 : Lib.byteCells l ++ Lib.strCells ⟨s.toArray⟩ = Lib.byteCells (l ++ s) := by simp [Lib.byteCells, Lib.strCells]
  rw [e2] at hb
  exact hb
theorem string_any (B b : Nat) (l : Bs) (w : World) (h : BL w B b l) :
    Calls Tryz.prog 85 #[.pointer (some ⟨b, 0, none⟩)] w fun e w' => e = .returned (sV l) ∧ Below B w w' :=
  Any.Builder_String_any { Tryz.lays156 with } Tryz.Builder_Extra_156 B b l w h.1 h.2
theorem keep_row9 {w w' : World} {base size n : Nat} {e : TypeId} {v : Value} {xs : List Value} (h : w.ownsRow base e size v n xs) (hb : Below w.heap.size w w') : w'.ownsRow base e size v n xs := by
  refine ⟨h.1, ?_⟩
  rcases h.2 with hn | ⟨g, cap, cur, hv, hg0, hg, rest⟩
  · exact .inl hn
  · exact .inr ⟨g, cap, cur, hv, hg0, (hb.block g (Array.getElem?_eq_some_iff.1 hg).1).trans hg, rest⟩
theorem BL.below {w w' : World} {B b : Nat} {l : Bs} (h : BL w B b l) (hb : Below w.heap.size w w') : BL w' B b l := by
  have k : ∀ p, Lib.BuilderAt 150 5 B b p (Lib.byteCells l) w → Lib.BuilderAt 150 5 B b p (Lib.byteCells l) w' := by
    rintro p ⟨h1, v, h2, h3, h4⟩
    exact ⟨h1, v, (hb.block b (Array.getElem?_eq_some_iff.1 h2).1).trans h2, keep_row9 h3 hb, h4⟩
  exact ⟨h.1.imp (k _) (k _), Nat.le_trans h.2 hb.size⟩
/-! ### Numbers and words -/
/-- The listed table that words.Number reads. -/
def Tab10 (w : World) : Prop := Lib.TabIs Tryz.prog w "internal/strconv.uint64pow10" .u64 Lib.pow10Tab
theorem var_below {P : Program} {w w' : World} {name : String} {cs : Array Value} (h : w.var? P name = some cs) (hb : Below w.heap.size w w') : w'.var? P name = some cs := by
  unfold World.var? at *
  cases hg : P.globalNamed name with
  | none => simp [hg] at h
  | some g =>
    simp only [hg, Option.bind_some] at h ⊢
    have hlt : g < w.heap.size := by
      rcases Nat.lt_or_ge g w.heap.size with h' | h'
      · exact h'
      · simp [Array.getElem?_eq_none h'] at h
    rw [hb.block g hlt]
    exact h
theorem Tab10.below {w w' : World} (h : Tab10 w) (hb : Below w.heap.size w w') : Tab10 w' := var_below h hb
theorem number9_any (n : Int) (h0 : -9223372036854775808 ≤ n) (h1 : n ≤ 9223372036854775807) (w : World) (hE : Tab10 w) :
    Calls Tryz.prog 82 #[.int .i64 n] w fun e w' => e = .returned (sV (Lib.itoa n)) ∧ Below w.heap.size w w' := by
  have H := Lib.hid (Any.strconv_FormatInt_10 Tryz.laysM173 n h0 h1 w hE)
  clear hE h0 h1
  go_enter Tryz.func82, Tryz.ntmps82
  go_wp2_with ((go_at_call 157; refine H.out.mono ?_; rintro e w4 ⟨rfl, k, os, rfl⟩))
  go_ret
  exact ⟨rfl, Lib.below_grow _ _ (Nat.le_refl _) k os⟩
/-- strings.Join of words that lie in a block that is known whole. -/
theorem join9_any (gx : Nat) (xs : List Bs) (hN : xs.length ≤ 1000) (hlen : (Lib.join xs [32]).length ≤ 140737488351232) (w : World) (hW : Whole w gx 9 (xs.map sV).toArray) (c : Nat) (hc : xs.length ≤ c) :
    Calls Tryz.prog 156 #[.slice (some ⟨gx, 0, none⟩) xs.length c, .string ⟨#[32]⟩] w fun e w' => e = .returned (sV (Lib.join xs [32])) ∧ Below w.heap.size w w' := by
  have hm : (xs.map fun x => (⟨x.toArray⟩ : ByteArray)).map (·.data.toList) = xs := by
    rw [List.map_map]
    have : ((fun x : ByteArray => x.data.toList) ∘ fun x : List UInt8 => (⟨x.toArray⟩ : ByteArray)) = id := by funext x; simp
    rw [this, List.map_id]
  have k := Any.strings_Join Tryz.lays156 Tryz.Builder_Extra_156 gx 0 c (xs.map fun x => (⟨x.toArray⟩ : ByteArray)) ⟨#[32]⟩ w (by
    intro j x hx
    rw [List.getElem?_map] at hx
    obtain ⟨y, hy, rfl⟩ := Option.map_eq_some_iff.1 hx
    rw [Nat.zero_add, hW.read j]
    simp [hy, sV]) hW.inside (by simp; omega) (by simpa using hc) (by rw [hm]; show (Lib.join xs [32]).length ≤ _; omega)
  rw [hm, List.length_map] at k
  exact k
theorem lineJ_any (B b : Nat) (l : Bs) (A : Option Addr) (xs : List Bs) (c : Nat) (h1 : l.length ≤ 1000000) (h2 : (Lib.join xs [32]).length ≤ 1000000) (w : World) (h : BL w B b l)
    (J : Calls Tryz.prog 156 #[.slice A xs.length c, .string ⟨#[32]⟩] w fun e w' => e = .returned (sV (Lib.join xs [32])) ∧ Below w.heap.size w w') :
    Calls Tryz.prog 81 #[.pointer (some ⟨b, 0, none⟩), .slice A xs.length c] w fun e w' => e = .returned (.tuple #[]) ∧ BL w' B b (l ++ sp xs) ∧ Below B w w' := by
  replace J := Lib.hid J
  have HB := Lib.hid h
  obtain ⟨t, ht⟩ : ∃ t, Lib.join xs [32] = t := ⟨_, rfl⟩
  unfold sp
  rw [ht] at J h2 ⊢
  clear ht h
  have W1 := Lib.hid (fun w (h : BL w B b l) => write_any B b l t (by omega) w h)
  have W2 := Lib.hid (fun w (h : BL w B b (l ++ t)) => write_any B b (l ++ t) [10] (by simp; omega) w h)
  go_enter Tryz.func81, Tryz.ntmps81
  go_upto_region 1 with (first
    | (go_at_call 156; refine J.out.mono ?_; rintro e w1 ⟨rfl, b1⟩; have B1 := HB.out.below b1)
    | (go_at_call 155; refine (W1.out _ B1).mono ?_; rintro e w2 ⟨⟨v, rfl⟩, h2, b2⟩))
  have hB := HB.out.2
  have B2 := Lib.hid h2
  have b12 := Lib.hid ((b1.mono hB).trans b2)
  clear b1 b2 B1 h2 J HB W1
  go_wp2_with (go_at_call 155; refine (W2.out _ B2.out).mono ?_; rintro e w3 ⟨⟨v, rfl⟩, h3, b3⟩)
  go_end0
  exact ⟨rfl, by have := h3; rwa [List.append_assoc] at this, b12.out.trans b3⟩
theorem line_any (B b : Nat) (l : Bs) (gx : Nat) (xs : List Bs) (c : Nat) (hc : xs.length ≤ c) (hN : xs.length ≤ 1000) (h1 : l.length ≤ 1000000) (h2 : (Lib.join xs [32]).length ≤ 1000000) (w : World) (h : BL w B b l) (hW : Whole w gx 9 (xs.map sV).toArray) :
    Calls Tryz.prog 81 #[.pointer (some ⟨b, 0, none⟩), .slice (some ⟨gx, 0, none⟩) xs.length c] w fun e w' => e = .returned (.tuple #[]) ∧ BL w' B b (l ++ sp xs) ∧ Below B w w' :=
  lineJ_any B b l _ xs c h1 h2 w h (join9_any gx xs hN (by omega) w hW c hc)
theorem joinO_any (A : Option Addr) (c : Nat) (xs : List Bs) (base : Nat) (hN : xs.length ≤ 1000) (hlen : (Lib.join xs [32]).length ≤ 140737488351232) (w : World) (hO : OwnS w base (.slice A xs.length c) xs) :
    Calls Tryz.prog 156 #[.slice A xs.length c, .string ⟨#[32]⟩] w fun e w' => e = .returned (sV (Lib.join xs [32])) ∧ Below w.heap.size w w' := by
  rcases hO.2 with ⟨hv, hn⟩ | ⟨g, cap, cur, hv, hb0, hg, h1, h2, h3, h4⟩
  · have : xs = [] := List.eq_nil_of_length_eq_zero hn
    subst this
    have k := Any.strings_Join_none Tryz.lays156 Tryz.Builder_Extra_156 A c ⟨#[32]⟩ w
    exact k.mono fun e w' ⟨he, hw⟩ => ⟨by rw [he, Lib.join_nil], hw ▸ Below.refl _ _⟩
  · injection hv with e1 e2 e3
    subst e1 e3
    have hgl : g < w.heap.size := (Array.getElem?_eq_some_iff.1 hg).1
    have hcells : ∀ (j : Nat) x, xs[j]? = some x → w.cell? ⟨g, j, none⟩ = some (.string ⟨x.toArray⟩) := by
      intro j x hx
      have hjl := (List.getElem?_eq_some_iff.1 hx).1
      have h5 : (cur.toList.take (xs.length * 1))[j]? = some (sV x) := by rw [h4, List.getElem?_map, hx]; rfl
      rw [List.getElem?_take, if_pos (by omega), Array.getElem?_toList] at h5
      simp [World.cell?, hg, h5, sV]
    have hm : (xs.map fun x => (⟨x.toArray⟩ : ByteArray)).map (·.data.toList) = xs := by
      rw [List.map_map]
      have : ((fun x : ByteArray => x.data.toList) ∘ fun x : List UInt8 => (⟨x.toArray⟩ : ByteArray)) = id := by funext x; simp
      rw [this, List.map_id]
    have k := Any.strings_Join Tryz.lays156 Tryz.Builder_Extra_156 g 0 c (xs.map fun x => (⟨x.toArray⟩ : ByteArray)) ⟨#[32]⟩ w (by
      intro j x hx
      rw [List.getElem?_map] at hx
      obtain ⟨y, hy, rfl⟩ := Option.map_eq_some_iff.1 hx
      rw [Nat.zero_add]
      exact hcells j y hy) hgl (by simp; omega) (by simpa using h1) (by rw [hm]; show (Lib.join xs [32]).length ≤ _; omega)
    rw [hm, List.length_map] at k
    exact k
theorem join_len {m : Nat} : ∀ {l : List Bs}, (∀ x ∈ l, x.length ≤ m) → (Lib.join l [32]).length ≤ l.length * (m + 1)
  | [], _ => by simp [Lib.join_nil]
  | x :: r, h => by
    have h0 := h x (by simp)
    rw [Lib.join_cons, List.length_append]
    have : ∀ N : List Bs, (∀ y ∈ N, y.length ≤ m) → (Lib.joinTail [32] N).length ≤ N.length * (m + 1) := by
      intro N
      induction N with
      | nil => simp [Lib.joinTail]
      | cons y q ih =>
        intro hN
        have h1 := hN y (by simp)
        have h2 := ih (fun z hz => hN z (by simp [hz]))
        simp only [Lib.joinTail, List.map_cons, List.flatten_cons, List.length_append, List.length_cons, List.length_nil, Nat.add_mul, Nat.one_mul] at h2 ⊢
        omega
    have h2 := this r (fun y hy => h y (by simp [hy]))
    rw [List.length_cons, Nat.add_mul]
    omega
theorem sp_len {l : List Bs} (hl : l.length ≤ 7) (h : ∀ x ∈ l, x.length ≤ 40) : (sp l).length ≤ 300 := by
  have h1 := join_len h
  unfold sp
  rw [List.length_append]
  have : l.length * (40 + 1) ≤ 7 * 41 := Nat.mul_le_mul_right 41 hl
  simp
  omega
end Go.Proofs.YtpblpjopinllcaaGreatDoor.graph
