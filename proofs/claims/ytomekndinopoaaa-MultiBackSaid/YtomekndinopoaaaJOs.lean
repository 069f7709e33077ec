/-
  Rows of strings: those that are one's own, and those that came in.
  DERIVED: THE SHELF's CONTRACTS AT THIS DUMP, IN PLAIN WORDS (tools/lay-plain.mjs out of 'TryShelfX.lean', which tools/lay-shelf.mjs wrote): THE SAME DECLARATIONS UNDER THE SAME NAMES: 'import', 'namespace', 'open', 'def', 'theorem' AND NOTHING ELSE: no command of the shelf's: FOR A HAND-IN. Each laying: the table of numbers ('.._ren') and one theorem, a field a fact of the dump's own or the kernel's comparison; each contract: ONE APPLICATION.
  strings.Join of a row of one's own; (*multi.Multi).Bytes.
-/
import Derived.Test.YtomekndinopoaaaRows
import Derived.Test.YtomekndinopoaaaJOpen
import Derived.Test.YtomekndinopoaaaJBlock
import Derived.Test.YtomekndinopoaaaJWm
import Derived.OwnWalk
import Derived.OwnWalkIn
import Derived.Lib.Hide
import Derived.Maps.AppendAt
import Derived.Shelf.Strings.Builder1
import Derived.Shelf.Strings.Builder2
import Derived.Shelf.Strings.OnBuilder
import Derived.Shelf.Small.Bits
import Derived.Shelf.Strconv.Itoa0
import Derived.Test.YtomekndinopoaaaProg
import Derived.Test.YtomekndinopoaaaJMuP
import Derived.Test.YtomekndinopoaaaJCnt
import Derived.Laws.OwnMore
namespace Go.Proofs.Ytomekndinopoaaa.words
open Go.ChangeShapes Go.WideShapes Go.ChangeAt Go.RowKit
open Go.Proofs.Ytomekndinopoaaa.opened Go.Proofs.Ytomekndinopoaaa.block

abbrev sV (l : Bs) : Value := .string ⟨l.toArray⟩
/-- A slice of strings that came in. -/
def Ls (w : World) (A : Option Addr) (N : List Bs) : Prop := Lies w A (N.map sV)
theorem Ls.nil (w : World) : Ls w none [] := .inl rfl
theorem Ls.below {w w' : World} {A : Option Addr} {N : List Bs} (h : Ls w A N) (hb : Below w.heap.size w w') : Ls w' A N := by
  rcases h with h | ⟨b, off, hA, hbl, hc⟩
  · exact .inl h
  · exact .inr ⟨b, off, hA, Nat.lt_of_lt_of_le hbl hb.size, fun i x hx => (hb.cell (p := ⟨b, off + i, none⟩) hbl).trans (hc i x hx)⟩
theorem Ls.at {w : World} {A : Option Addr} {N : List Bs} (h : Ls w A N) {k : Nat} {x : Bs} (hk : N[k]? = some x) : ∃ b off, A = some ⟨b, off, none⟩ ∧ b < w.heap.size ∧ w.cell? ⟨b, off + k, none⟩ = some (sV x) := by
  rcases h with h | ⟨b, off, hA, hbl, hc⟩
  · have : N = [] := by simpa using h
    subst this
    simp at hk
  · exact ⟨b, off, hA, hbl, hc k (sV x) (by rw [List.getElem?_map, hk]; rfl)⟩
/-- A slice of strings that is one's own. -/
abbrev OwnS (w : World) (base : Nat) (v : Value) (N : List Bs) : Prop := w.ownsRow base 9 1 v N.length (N.map sV)
theorem infoS : (Try.prog.info? 9).map (fun i => (i.zero, i.size, i.bytes)) = some (some (.string ByteArray.empty), 1, 16) := by kernel_rfl
theorem infoS_parts : ∃ i, Try.prog.info? 9 = some i ∧ i.zero = some (.string ByteArray.empty) ∧ i.size = 1 ∧ i.bytes = 16 := by
  have h := infoS
  rw [Option.map_eq_some_iff] at h
  obtain ⟨i, hi, he⟩ := h
  simp only [Prod.mk.injEq] at he
  exact ⟨i, hi, he.1, he.2.1, he.2.2⟩
theorem OwnS.lies {w : World} {base : Nat} {A : Option Addr} {n c : Nat} {N : List Bs} (h : OwnS w base (.slice A n c) N) : Ls w A N := by
  rcases h.2 with ⟨-, hn⟩ | ⟨g, cap, cur, hv, hb, hg, hc, hcm, hs, ht⟩
  · rw [List.eq_nil_of_length_eq_zero hn]; exact .inl rfl
  · injection hv with h1 h2 h3
    subst h1
    refine .inr ⟨g, 0, rfl, (Array.getElem?_eq_some_iff.1 hg).1, fun i x hx => ?_⟩
    have hi := (List.getElem?_eq_some_iff.1 hx).1
    rw [List.length_map] at hi
    rw [← ht, List.getElem?_take, if_pos (by omega), Array.getElem?_toList] at hx
    rw [← hx]
    simp [World.cell?, hg]
theorem OwnS.below {w w' : World} {base : Nat} {v : Value} {N : List Bs} (h : OwnS w base v N) (hb : Below w.heap.size w w') : OwnS w' base v N := by
  refine ⟨h.1, ?_⟩
  rcases h.2 with hn | ⟨g, cap, cur, hv, hg0, hg, rest⟩
  · exact .inl hn
  · exact .inr ⟨g, cap, cur, hv, hg0, (hb.block g (Array.getElem?_eq_some_iff.1 hg).1).trans hg, rest⟩
theorem OwnS.grown {W w1 : World} {base : Nat} {v : Value} {N : List Bs} {tmp : Obj} (h : OwnS W base v N) (hb0 : base ≤ W.heap.size) (hg : (W.alloc tmp).grownBy w1 v.ownBlock) : Below base W w1 :=
  ((Below.refl base W).alloc hb0 tmp).grown hg (by simp; omega) fun j ej => by
    rcases h.2 with ⟨rfl, _⟩ | ⟨g, cap, cur, rfl, hb, _, _⟩
    · simp [Value.ownBlock] at ej
    · obtain rfl : g = j := by simpa [Value.ownBlock] using ej
      exact hb
theorem OwnS.low {w : World} {base base' : Nat} {v : Value} {N : List Bs} (h : OwnS w base v N) (hb : base' ≤ base) : OwnS w base' v N := by
  refine ⟨h.1, ?_⟩
  rcases h.2 with hn | ⟨g, cap, cur, hv, hg0, hg, rest⟩
  · exact .inl hn
  · exact .inr ⟨g, cap, cur, hv, Nat.le_trans hb hg0, hg, rest⟩
theorem ownS_nil (w : World) (base : Nat) : OwnS w base (.slice none 0 0) [] := World.ownsRow_nil _ _ _ _
theorem heap_new (w : World) (o : Obj) : (w.alloc o).heap[w.heap.size]? = some o := by
  show (w.heap.push o)[w.heap.size]? = some o
  simp
theorem cell_new1 (w : World) (x : Value) (t : TypeId) : ∀ j u, [x][j]? = some u → (w.alloc (.cells #[x] t)).cell? ((⟨w.heap.size, 0, none⟩ : Addr).add j) = some u := by
  intro j u hj
  have hh : (w.alloc (.cells #[x] t)).heap[w.heap.size]? = some (.cells #[x] t (0, 0)) := heap_new w _
  generalize w.alloc (.cells #[x] t) = W at hh ⊢
  generalize w.heap.size = g at hh ⊢
  cases j with
  | zero => simp only [World.cell?, Addr.add, ↓reduceIte, hh]; simpa using hj
  | succ j => simp at hj
theorem oneS (x : Bs) : ∀ v ∈ [sV x], v.oneCell' = true := by
  intro v hv
  rw [List.mem_singleton] at hv
  subst hv
  rfl
theorem snocS (N : List Bs) (x : Bs) : (N ++ [x]).map sV = N.map sV ++ [sV x] := by simp
theorem size_alloc (w : World) (o : Obj) : (w.alloc o).heap.size = w.heap.size + 1 := Array.size_push o
/-- A slice of strings that is made of a literal. -/
theorem ownS_lit (w : World) (N : List Bs) (h : N.length ≤ 1000) (cs : Array Value) (hc : cs = (N.map sV).toArray) : OwnS (w.alloc (.cells cs 9)) w.heap.size (.slice (some ⟨w.heap.size, 0, none⟩) N.length N.length) N := by
  subst hc
  have := World.ownsRow_lit (base := w.heap.size) (e := 9) (size := 1) w (N.map sV).toArray N.length (Nat.le_refl _) (by unfold maxLen; omega) (by simp)
  simpa using this
theorem ownS_succ {W : World} {base k : Nat} {v : Value} {xs : List Value} (h : W.ownsRow base 9 1 v (k + 1) xs) : ∃ g cap, v = .slice (some ⟨g, 0, none⟩) (k + 1) cap := by
  rcases h.2 with ⟨-, h0⟩ | ⟨g, cap, cur, hv, -⟩
  · omega
  · exact ⟨g, cap, hv⟩
theorem fresh1 (w : World) (o : Obj) : Below w.heap.size w (w.alloc o) := (Below.refl _ _).alloc (Nat.le_refl _) o
set_option maxRecDepth 100000 in
/-- Slices of strings that came in, opened. -/
theorem opens_strs : Opens Try.prog 85 (sliceR 1 16 strR) := opens_slice Try.underlying85 (m := 1) (bytes := 16) (by kernel_rfl) (by kernel_rfl) (opens_str Try.underlying9)
set_option maxRecDepth 100000 in
theorem top_strs {w : World} {r : Reach} {b : Nat} {v : Value} {row : Row ByteArray} (hv : Value.okWide Try.prog w r b 85 v) (h : sliceR 1 16 strR w v.cells.toList row) :
    ∃ (A : Option Addr) (c : Nat) (L : List Bs), v = .slice A L.length c ∧ Ls w A L ∧ L.length ≤ 9223372036854775807 := by
  obtain rfl := top_slice Try.underlying85 hv h
  refine ⟨row.ptr, row.cap, row.elems.map (·.data.toList), ?_, ?_, ?_⟩
  · rw [row_val h, List.length_map]
  · have k := lies_of (f := fun s => Value.string s) (fun w cs s hs => hs.1) h
    unfold Ls
    rw [List.map_map]
    have e : (row.elems.map (sV ∘ fun x => x.data.toList)) = row.elems.map (fun s => Value.string s) := List.map_congr_left fun s _ => congrArg Value.string (Lib.mk_data s)
    rw [e]
    exact k
  · rw [List.length_map]
    exact row_max h
def lenOf : Value → Nat
  | .string b => b.size
  | _ => 0
theorem lenOf_str (l : Bs) : lenOf (sV l) = l.length := by
  show l.toArray.size = _
  simp
/-- The place of internal/bytealg.MaxLen holds a number. -/
def MaxIs (w : World) : Prop := ∃ m : Int, w.cell? ⟨0, 0, none⟩ = some (.int .i64 m)
theorem MaxIs.below {w w' : World} (h : MaxIs w) (hb : Below w.heap.size w w') : MaxIs w' := by
  obtain ⟨m, hm⟩ := h
  exact ⟨m, (hb.cell (p := ⟨_, 0, none⟩) (World.block_lt_of_cell? w _ hm)).trans hm⟩
end Go.Proofs.Ytomekndinopoaaa.words
namespace Go.Proofs
open Go.Shelf
def Try.lays156_ren : Go.Shelf.Ren := ⟨fun | 156 => 47 | 165 => 71 | 166 => 72 | 169 => 73 | 240 => 90 | 241 => 91 | 276 => 101 | 277 => 102 | n => n, fun | 31 => 85 | 9 => 9 | 3 => 3 | 4 => 4 | 0 => 0 | 20 => 20 | 72 => 116 | 76 => 120 | 70 => 114 | 37 => 111 | 75 => 119 | 127 => 134 | 164 => 141 | 5 => 5 | 80 => 47 | n => n, fun | n => n⟩
theorem Try.lays156 : Go.Proofs.Lays.n156 Try.prog Try.lays156_ren := {
  mixed := by kernel_rfl
  f156 := Try.func47.trans (congrArg some (by kernel_rfl))
  f165 := Try.func71.trans (congrArg some (by kernel_rfl))
  f166 := Try.func72.trans (congrArg some (by kernel_rfl))
  f169 := Try.func73.trans (congrArg some (by kernel_rfl))
  f240 := Try.func90.trans (congrArg some (by kernel_rfl))
  f241 := Try.func91.trans (congrArg some (by kernel_rfl))
  f276 := Try.func101.trans (congrArg some (by kernel_rfl))
  f277 := Try.func102.trans (congrArg some (by kernel_rfl))
  t0 := Try.underlying0
  a0 := Try.isAgg0
  z0 := Try.sizeOf0
  v0 := Try.zeroValue0
  t3 := Try.underlying3
  a3 := Try.isAgg3
  z3 := Try.sizeOf3
  v3 := Try.zeroValue3
  t4 := Try.underlying4
  a4 := Try.isAgg4
  z4 := Try.sizeOf4
  v4 := Try.zeroValue4
  t9 := Try.underlying9
  a9 := Try.isAgg9
  z9 := Try.sizeOf9
  v9 := Try.zeroValue9
  t20 := Try.underlying20
  a20 := Try.isAgg20
  z20 := Try.sizeOf20
  v20 := Try.zeroValue20
  t31 := Try.underlying85
  a31 := Try.isAgg85
  z31 := Try.sizeOf85
  v31 := Try.zeroValue85
  t37 := Try.underlying111
  a37 := Try.isAgg111
  z37 := Try.sizeOf111
  v37 := Try.zeroValue111
  t70 := Try.underlying114
  a70 := Try.isAgg114
  z70 := Try.sizeOf114
  v70 := Try.zeroValue114
  t72 := Try.underlying116
  a72 := Try.isAgg116
  z72 := Try.sizeOf116
  v72 := Try.zeroValue116
  t75 := Try.underlying119
  a75 := Try.isAgg119
  z75 := Try.sizeOf119
  v75 := Try.zeroValue119
  t76 := Try.underlying120
  a76 := Try.isAgg120
  z76 := Try.sizeOf120
  v76 := Try.zeroValue120
  t127 := Try.underlying134
  a127 := Try.isAgg134
  z127 := Try.sizeOf134
  v127 := Try.zeroValue134
  t164 := Try.underlying141
  a164 := Try.isAgg141
  z164 := Try.sizeOf141
  v164 := Try.zeroValue141 }
theorem Try.Builder_Extra_156 : Builder.Extra Try.prog Try.lays156_ren := {
  sizeBuilder := by kernel_rfl
  liesBuilder := by kernel_rfl
  t5 := Try.underlying5
  a5 := Try.isAgg5
  z5 := Try.sizeOf5
  v5 := Try.zeroValue5
  infoByte := by kernel_rfl
  cellsByte := by kernel_rfl
  sizeByte := by kernel_rfl
  neB5 := by decide }
end Go.Proofs
namespace Go.Proofs.Ytomekndinopoaaa.multi
open Go.ChangeShapes Go.WideShapes Go.ChangeAt Go.RowKit Go.Shelf
open Go.Proofs.Ytomekndinopoaaa.tm Go.Proofs.Ytomekndinopoaaa.opened Go.Proofs.Ytomekndinopoaaa.block Go.Proofs.Ytomekndinopoaaa.stamp Go.Proofs.Ytomekndinopoaaa.chain Go.Proofs.Ytomekndinopoaaa.code Go.Proofs.Ytomekndinopoaaa.enc

theorem joinS_any (A : Option Addr) (c : Nat) (xs : List (List UInt8)) (sep : List UInt8) (base : Nat) (hN : xs.length ≤ 100000) (hlen : (Lib.join xs sep).length ≤ 140737488351232) (w : World) (hO : words.OwnS w base (.slice A xs.length c) xs) :
    Calls Try.prog 47 #[.slice A xs.length c, .string ⟨sep.toArray⟩] w fun e w' => e = .returned (.string ⟨(Lib.join xs sep).toArray⟩) ∧ Below w.heap.size w w' := by
  rcases hO.2 with ⟨hv, hn⟩ | ⟨g, cap, cur, hv, hb0, hg, h1, h2, h3, h4⟩
  · have : xs = [] := List.eq_nil_of_length_eq_zero hn
    subst this
    have k := Any.strings_Join_none Try.lays156 Try.Builder_Extra_156 A c ⟨sep.toArray⟩ w
    exact k.mono fun e w' ⟨he, hw⟩ => ⟨by rw [he, Lib.join_nil], hw ▸ Below.refl _ _⟩
  · injection hv with e1 e2 e3
    subst e1 e3
    have hgl : g < w.heap.size := (Array.getElem?_eq_some_iff.1 hg).1
    have hcells : ∀ (j : Nat) x, xs[j]? = some x → w.cell? ⟨g, j, none⟩ = some (.string ⟨x.toArray⟩) := by
      intro j x hx
      have hjl := (List.getElem?_eq_some_iff.1 hx).1
      have h5 : (cur.toList.take (xs.length * 1))[j]? = some (words.sV x) := by rw [h4, List.getElem?_map, hx]; rfl
      rw [List.getElem?_take, if_pos (by omega), Array.getElem?_toList] at h5
      simp [World.cell?, hg, h5, words.sV]
    have hm : (xs.map fun x => (⟨x.toArray⟩ : ByteArray)).map (·.data.toList) = xs := by
      rw [List.map_map]
      have : ((fun x : ByteArray => x.data.toList) ∘ fun x : List UInt8 => (⟨x.toArray⟩ : ByteArray)) = id := by funext x; simp
      rw [this, List.map_id]
    have k := Any.strings_Join Try.lays156 Try.Builder_Extra_156 g 0 c (xs.map fun x => (⟨x.toArray⟩ : ByteArray)) ⟨sep.toArray⟩ w (by
      intro j x hx
      rw [List.getElem?_map] at hx
      obtain ⟨y, hy, rfl⟩ := Option.map_eq_some_iff.1 hx
      rw [Nat.zero_add]
      exact hcells j y hy) hgl (by simp; omega) (by simpa using h1) (by rw [hm]; simp; omega)
    rw [hm, List.length_map] at k
    exact k
theorem keep_row {w w' : World} {base size n : Nat} {e : TypeId} {v : Value} {xs : List Value} (h : w.ownsRow base e size v n xs) (hb : Below w.heap.size w w') : w'.ownsRow base e size v n xs := by
  refine ⟨h.1, ?_⟩
  rcases h.2 with hn | ⟨g, cap, cur, hv, hg0, hg, rest⟩
  · exact .inl hn
  · exact .inr ⟨g, cap, cur, hv, hg0, (hb.block g (Array.getElem?_eq_some_iff.1 hg).1).trans hg, rest⟩
theorem join_flat : ∀ l : List (List UInt8), Lib.join l [] = l.flatten
  | [] => by simp [Lib.join_nil]
  | x :: r => by
    rw [Lib.join_cons, List.flatten_cons]
    congr 1
    induction r with
    | nil => simp [Lib.joinTail]
    | cons y r ih => simp [Lib.joinTail] at ih ⊢; first | done | rw [ih]
theorem flat_len2 : ∀ (l : List (List UInt8)) (m : Nat), (∀ x ∈ l, x.length ≤ m) → l.flatten.length ≤ m * l.length
  | [], _, _ => by simp
  | x :: r, m, h => by
    have h0 := h x (by simp)
    have h1 := flat_len2 r m (fun y hy => h y (by simp [hy]))
    rw [List.flatten_cons, List.length_append, List.length_cons, Nat.mul_add, Nat.mul_one]
    omega
/-! ### The bytes of a Multi -/
def prB (p : TN) : List (List UInt8) := [wrtL p.1, enc (zig p.2)]
def partsB (d : Int) (M : List TN) (k : Nat) : List (List UInt8) := stamp.encI d :: stamp.encI (M.length : Int) :: (M.take k).flatMap prB
def bytM (d : Int) (M : List TN) : List UInt8 := (partsB d M M.length).flatten
theorem parts_len (d : Int) (M : List TN) (k : Nat) (hk : k ≤ M.length) : (partsB d M k).length = 2 + 2 * k := by
  unfold partsB
  have : ∀ l : List TN, (l.flatMap prB).length = 2 * l.length := by
    intro l
    induction l with
    | nil => rfl
    | cons x r ih => rw [List.flatMap_cons, List.length_append, ih, List.length_cons]; simp [prB]; omega
  rw [List.length_cons, List.length_cons, this, List.length_take]
  omega
theorem parts_next {d : Int} {M : List TN} {k : Nat} {p : TN} (h : M[k]? = some p) : partsB d M (k + 1) = partsB d M k ++ prB p := by
  unfold partsB
  rw [List.take_add_one, h]
  simp
theorem len_wrtL {t : Tm} (h : chk t = 0) : (wrtL t).length ≤ 50 := by
  obtain ⟨z0, z1, -⟩ := chk_zero h
  rw [← wrp_all z0 z1]
  exact len_wrp t _
theorem parts_small {d : Int} {M : List TN} (G : GoodM d M) (k : Nat) : ∀ x ∈ partsB d M k, x.length ≤ 50 := by
  intro x hx
  unfold partsB at hx
  rcases List.mem_cons.1 hx with rfl | hx
  · have := stamp.len_encI d; omega
  rcases List.mem_cons.1 hx with rfl | hx
  · have := stamp.len_encI (M.length : Int); omega
  obtain ⟨p, hp, hx⟩ := List.mem_flatMap.1 hx
  simp only [prB, List.mem_cons, List.not_mem_nil, or_false] at hx
  rcases hx with rfl | rfl
  · exact len_wrtL (G.key p (List.mem_of_mem_take hp)).2.1
  · have := len_enc (zig p.2); omega
theorem one_two (x y : List UInt8) : ∀ v ∈ [words.sV x, words.sV y], v.oneCell' = true := by
  intro v hv
  simp only [List.mem_cons, List.not_mem_nil, or_false] at hv
  rcases hv with rfl | rfl <;> rfl
set_option maxRecDepth 100000 in
set_option maxHeartbeats 4000000 in
theorem bytes_any {g b c : Nat} {d : Int} {A : Option Addr} {L : List Tm} {M : List TN} (G : GoodM d M) (hd0 : 0 ≤ d) (hd1 : d ≤ 3) (hm : M.length ≤ 4096) (w : World) (h : MulP w g d b A c L M) :
    Calls Try.prog 20 #[.pointer (some ⟨g, 0, none⟩)] w fun e w' => e = .returned (.string ⟨(bytM d M).toArray⟩) ∧ Below w.heap.size w w' := by
  have H := Lib.hid h
  have HG := Lib.hid G
  have AL := Lib.hid (all_any G hm w h)
  have N1 := Lib.hid (fun W => num_i d hd0 (by omega) W)
  have N2 := Lib.hid (fun W => num_i (M.length : Int) (by omega) (by omega) W)
  have hJ := Lib.hid (fun (D : Option Addr) (c' base : Nat) (W : World) (hO : words.OwnS W base (.slice D (partsB d M M.length).length c') (partsB d M M.length)) =>
    joinS_any D c' (partsB d M M.length) [] base (by rw [parts_len d M _ (Nat.le_refl _)]; omega) (by
      rw [join_flat]
      have := flat_len2 _ 50 (parts_small G M.length)
      rw [parts_len d M _ (Nat.le_refl _)] at this
      omega) W hO)
  rw [join_flat, parts_len d M _ (Nat.le_refl _)] at hJ
  have u1 : IntKind.u64.wrap d = d := by rw [IntKind.wrap_u64]; omega
  have u2 : IntKind.u64.wrap (M.length : Int) = M.length := by rw [IntKind.wrap_u64]; omega
  obtain ⟨i0, hi0, hz0, hz1, hz2⟩ := words.infoS_parts
  have HP0 : Hid (partsB d M 0 = [stamp.encI d, stamp.encI (M.length : Int)]) := Lib.hid (by simp [partsB])
  obtain ⟨x1, hx1⟩ : ∃ x, stamp.encI d = x := ⟨_, rfl⟩
  obtain ⟨x2, hx2⟩ : ∃ x, stamp.encI (M.length : Int) = x := ⟨_, rfl⟩
  rw [hx1, hx2] at HP0
  rw [hx1] at N1
  rw [hx2] at N2
  clear h hx1 hx2
  go_enter Try.func20, Try.ntmps20
  go_upto_region 2 with (go_at_call 32; refine AL.out.mono ?_; rintro e w1 ⟨P, cp, rfl, l1, b1⟩; have L1 := Lib.hid l1; have H1 := Lib.hid (H.out.below b1); have B1 := Lib.hid b1; clear l1 b1)
  have k0 : w1.cell? ⟨g, 0, none⟩ = some (.int .i64 d) := H1.out.cells.read 0
  go_wp2_with (go_at_call 44; first
    | (with_reducible refine (N1.out _).mono ?_; rintro e w2 ⟨rfl, b2⟩; have B2 := Lib.hid b2; have L2 := Lib.hid (L1.out.below b2); clear b2)
    | (with_reducible refine (N2.out _).mono ?_; rintro e w3 ⟨rfl, b3⟩; have B3 := Lib.hid (B2.out.trans (b3.mono B2.out.size)); have L3 := Lib.hid (L2.out.below b3); clear b3))
  have O0 : Hid (words.OwnS (w3.alloc (.cells #[.string ⟨x1.toArray⟩, .string ⟨x2.toArray⟩] 9)) w3.heap.size (.slice (some ⟨w3.heap.size, 0, none⟩) 2 2) [x1, x2]) := Lib.hid (words.ownS_lit w3 [x1, x2] (by simp) _ rfl)
  have BA := Lib.hid (fresh1 w3 (.cells #[.string ⟨x1.toArray⟩, .string ⟨x2.toArray⟩] 9))
  clear N1 N2 AL H k0 L1 L2 B2 u1 u2
  generalize w3.alloc (.cells #[.string ⟨x1.toArray⟩, .string ⟨x2.toArray⟩] 9) = w4 at O0 BA ⊢
  go_loopw [4, 24] (fun v s wr => ∃ (k : Nat) (D : Option Addr) (c' : Nat), k ≤ M.length ∧ v = .slice D (2 + 2 * k) c' ∧ s = .int .i64 k ∧ Hid (wr.ownsRow w3.heap.size 9 1 (.slice D (2 + 2 * k) c') (2 + 2 * k) ((partsB d M k).map words.sV)) ∧ Below w3.heap.size w3 wr) (fun _ s _ => M.length - (intOf s).toNat)
  case atStart => exact ⟨0, some ⟨w3.heap.size, 0, none⟩, 2, Nat.zero_le _, rfl, rfl, Lib.hid (by rw [HP0.out]; exact O0.out), BA.out⟩
  case round =>
    obtain ⟨k, D, c', hk, rfl, rfl, HO, BB⟩ := hrel
    by_cases hlt : k < M.length
    · obtain ⟨p, hp, hpm⟩ := pair_lt hlt
      obtain ⟨b1, o1, hA, hb1, c0, c1, c2, c3, c4, c5⟩ := (L3.out.below BB).at hp
      subst hA
      obtain ⟨it, kt, -⟩ := HG.out.key p hpm
      obtain ⟨-, n0, n1⟩ := HG.out.num p hpm
      have WX := Lib.hid (write_good p.1 it kt)
      have SX := Lib.hid (signed_any p.2 (by omega) (by omega))
      have HSN : Hid ((partsB d M (k + 1)).map words.sV = (partsB d M k).map words.sV ++ [words.sV (wrtL p.1), words.sV (enc (zig p.2))]) := Lib.hid (by rw [parts_next hp, List.map_append]; rfl)
      generalize wrtL p.1 = y1 at WX HSN
      generalize enc (zig p.2) = y2 at SX HSN
      clear hp hpm kt it n0 n1
      obtain ⟨t, n⟩ := p
      simp only at c0 c1 c2 c3 c4 c5 WX SX HSN
      have bb := fresh1 wr (.cells (cP (t, n)).toArray 86)
      have HO1 : Hid (World.ownsRow _ _ _ _ _ _ _) := Lib.hid (HO.out.alloc (.cells (cP (t, n)).toArray 86))
      have BW := Lib.hid (BB.trans (bb.mono BB.size))
      have OX := Whole.fresh wr 86 (cP (t, n)).toArray
      clear HO bb BB
      go_upto_region 6 with fail
      change Code.wp _ _ _ _ (wr.alloc (.cells (cP (t, n)).toArray 86))
      clear c0 c1 c2 c3 c4 c5 hb1
      generalize wr.alloc (.cells (cP (t, n)).toArray 86) = w5 at HO1 BW OX ⊢
      generalize wr.heap.size = gz at OX ⊢
      have HX := Lib.hid OX
      have d0 : w5.cell? ⟨gz, 0, none⟩ = some (.int .u32 t.e) := OX.read 0
      have d1 : w5.cell? ⟨gz, 1, none⟩ = some (.int .i64 t.d) := OX.read 1
      have d2 : w5.cell? ⟨gz, 2, none⟩ = some (.int .u32 t.a) := OX.read 2
      have d3 : w5.cell? ⟨gz, 3, none⟩ = some (.int .u32 t.b) := OX.read 3
      have d4 : w5.cell? ⟨gz, 4, none⟩ = some (.int .u32 t.c) := OX.read 4
      clear OX
      go_upto_region 7 with (go_at_call 45; refine (WX.out _).mono ?_; rintro e w6 ⟨rfl, b6⟩; have HO6 : Hid (World.ownsRow _ _ _ _ _ _ _) := Lib.hid (keep_row HO1.out b6); have B6 := Lib.hid (BW.out.trans (b6.mono BW.out.size)); have HX6 := Lib.hid (HX.out.below b6 HX.out.inside); clear b6)
      clear d0 d1 d2 d3 d4 HO1 BW HX WX
      have d5 : w6.cell? ⟨gz, 5, none⟩ = some (.int .i64 n) := HX6.out.read 5
      go_wp2_with (first
        | (go_at_call 46; refine (SX.out _).mono ?_; rintro e w7 ⟨rfl, b7⟩; have HO7 : Hid (World.ownsRow _ _ _ _ _ _ _) := Lib.hid (keep_row HO6.out b7); have B7 := Lib.hid (B6.out.trans (b7.mono B6.out.size)); clear b7)
        | (at_builtin; refine wpList_append_own _ rfl _ _ 85 rfl w3.heap.size 9 i0 (.string ByteArray.empty) 1 16 Try.underlying85 hi0 hz0 hz1 hz2 rfl (by decide) _ _ _ rfl (HO7.out.alloc _) ⟨_, 0, none⟩ 2 2 [words.sV y1, words.sV y2] rfl rfl (cells_new _ _ _) (one_two _ _) (by unfold maxLen; omega) (by omega) (by have := B7.out.size; simp; omega) ?_; intro v' w8 hown8 hgrow8 _; have hb8 : Below w3.heap.size w3 w8 := (B7.out.alloc B7.out.size _).grown hgrow8 (by have := B7.out.size; simp; omega) (fun q hq => (HO7.out.lt q hq).1); obtain ⟨g', cap', rfl⟩ := ownsRow_succ hown8; have HO8 := Lib.hid hown8; clear hgrow8 hown8))
      go_roundw
      case rel => exact ⟨k + 1, some ⟨g', 0, none⟩, cap', by omega, rfl, by go_num, by rw [HSN.out]; exact HO8, hb8⟩
      case measure => simp [intOf]; omega
    · obtain rfl : k = M.length := by omega
      have HOS : Hid (words.OwnS wr w3.heap.size (.slice D (2 + 2 * M.length) c') (partsB d M M.length)) := Lib.hid (by have := HO.out; unfold words.OwnS; rw [parts_len d M _ (Nat.le_refl _)]; exact this)
      have CJ := Lib.hid (hJ.out D c' _ wr HOS.out)
      have BZ := Lib.hid (B1.out.trans (B3.out.mono B1.out.size))
      clear HO HOS hJ
      go_wp2_with (go_at_call 47; refine CJ.out.mono ?_; rintro e w9 ⟨rfl, b9⟩; have B9 := Lib.hid (BZ.out.trans ((BB.trans (b9.mono BB.size)).mono BZ.out.size)); clear b9)
      go_ret
      exact ⟨rfl, B9.out⟩
end Go.Proofs.Ytomekndinopoaaa.multi
