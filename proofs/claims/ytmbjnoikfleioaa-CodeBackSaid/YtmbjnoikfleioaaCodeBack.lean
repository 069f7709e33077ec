/-
  Numbers, signed numbers and texts that code.Num, code.Signed and code.Text write one behind the other are read by code.Reader as they were, up to the last byte; for every three lists; no condition.
-/
import Derived.Test.YtmbjnoikfleioaaWorks
import Derived.Test.YtmbjnoikfleioaaMath
import Derived.Deep.DeepCutAuto
import Derived.Deep.RegionWith
import Derived.Deep.CutBlock
namespace Go.Proofs.Ytmbjnoikfleioaa.codeBack
open Go.Proofs.Ytmbjnoikfleioaa.code Go.Proofs.Ytmbjnoikfleioaa.opened Go.Proofs.Ytmbjnoikfleioaa.enc Go.Proofs.Ytmbjnoikfleioaa.block
open Go.ChangeShapes Go.WideShapes Go.ChangeAt Go.RowKit

theorem app_str (a b : List UInt8) : (⟨a.toArray⟩ : ByteArray) ++ ⟨b.toArray⟩ = ⟨(a ++ b).toArray⟩ := ByteArray.ext (by simp)
theorem val_str {a b : List UInt8} (h : a = b) : Value.string ⟨a.toArray⟩ = .string ⟨b.toArray⟩ := by rw [h]
theorem val_app {a b c : List UInt8} (h : a ++ b = c) : Value.string ((⟨a.toArray⟩ : ByteArray) ++ ⟨b.toArray⟩) = .string ⟨c.toArray⟩ := by rw [app_str, h]
theorem take_next {α : Type} {l : List α} {k : Nat} {x : α} (h : l[k]? = some x) : l.take (k + 1) = l.take k ++ [x] := by
  rw [List.take_add_one, h]; rfl
theorem take_all {α : Type} {l : List α} {k : Nat} (hk : k ≤ l.length) (h2 : k ≤ 20) (h : ¬ (k < l.length ∧ k < 20)) : l.take k = l.take 20 := by
  by_cases h20 : k = 20
  · rw [h20]
  · rw [List.take_of_length_le (by omega), List.take_of_length_le (by omega)]
/-- Words, one behind the other. -/
def row {α : Type} (f : α → List UInt8) (l : List α) : List UInt8 := l.flatMap f
theorem row_snoc {α : Type} (f : α → List UInt8) (l : List α) (x : α) : row f (l ++ [x]) = row f l ++ f x := by simp [row]
theorem row_cons {α : Type} (f : α → List UInt8) (l : List α) (x : α) : row f (x :: l) = f x ++ row f l := by simp [row]
theorem row_nil {α : Type} (f : α → List UInt8) : row f ([] : List α) = [] := rfl
theorem row_len {α : Type} {f : α → List UInt8} {c : Nat} : ∀ {l : List α}, (∀ x ∈ l, (f x).length ≤ c) → (row f l).length ≤ c * l.length
  | [], _ => by simp [row]
  | a :: l, h => by
    have h1 := h a (by simp)
    have h2 := row_len (l := l) (f := f) (c := c) (fun x hx => h x (by simp [hx]))
    rw [row_cons, List.length_append, List.length_cons, Nat.mul_succ]
    omega
def eN (n : Nat) : List UInt8 := enc n
def eS (n : Int) : List UInt8 := enc (zig n)
def eT (t : ByteArray) : List UInt8 := enc t.size ++ t.data.toList
theorem eN_row (l : List Nat) (k : Nat) (hk : k ≤ 20) : (row eN (l.take k)).length ≤ 200 := by
  have h := row_len (f := eN) (c := 10) (l := l.take k) (fun x _ => len_enc x)
  have : (l.take k).length ≤ k := List.length_take_le _ _
  omega
theorem eS_row (l : List Int) (k : Nat) (hk : k ≤ 20) : (row eS (l.take k)).length ≤ 200 := by
  have h := row_len (f := eS) (c := 10) (l := l.take k) (fun x _ => len_enc _)
  have : (l.take k).length ≤ k := List.length_take_le _ _
  omega
theorem eT_row (l : List ByteArray) (k : Nat) (hk : k ≤ 20) (h : ∀ t ∈ l.take k, t.size ≤ 1000) : (row eT (l.take k)).length ≤ 20200 := by
  have h := row_len (f := eT) (c := 1010) (l := l.take k) (fun x hx => by
    have := len_enc x.size
    have := h x hx
    have h3 : x.data.toList.length = x.size := rfl
    simp [eT]; omega)
  have : (l.take k).length ≤ k := List.length_take_le _ _
  omega

theorem eN_drop (l : List Nat) (j : Nat) : (row eN ((l.take 20).drop j)).length ≤ 200 := by
  have h := row_len (f := eN) (c := 10) (l := (l.take 20).drop j) (fun x _ => len_enc x)
  have h2 : ((l.take 20).drop j).length ≤ 20 := by simp; omega
  omega
theorem eS_drop (l : List Int) (j : Nat) : (row eS ((l.take 20).drop j)).length ≤ 200 := by
  have h := row_len (f := eS) (c := 10) (l := (l.take 20).drop j) (fun x _ => len_enc _)
  have h2 : ((l.take 20).drop j).length ≤ 20 := by simp; omega
  omega
theorem eT_drop (l : List ByteArray) (j : Nat) (hall : ∀ t ∈ l.take 20, t.size ≤ 1000) : (row eT ((l.take 20).drop j)).length ≤ 20200 := by
  have h := row_len (f := eT) (c := 1010) (l := (l.take 20).drop j) (fun x hx => by
    have := len_enc x.size
    have := hall x (List.mem_of_mem_drop hx)
    have h3 : x.data.toList.length = x.size := rfl
    simp [eT]; omega)
  have h2 : ((l.take 20).drop j).length ≤ 20 := by simp; omega
  omega
theorem numBack (g : Nat) {x : Nat} (hx : x < 18446744073709551616) (r : List UInt8) (hr : (enc x ++ r).length ≤ 9223372036854775807) (w : World) (h : RdA w g (enc x ++ r) 0) :
    Calls Try.prog 15 #[.pointer (some ⟨g, 0, none⟩)] w fun e w' => e = .returned (.int .u64 (x : Int)) ∧ RdA w' g r 0 ∧ w.grownBy w' (some g) := by
  have k := numA g _ 0 hr w h
  rw [show rNum (enc x ++ r) 0 = ((x : Int), (enc x).length, 0) from (by simp only [rNum, if_true]; exact dec_enc hx r)] at k
  simpa using k
theorem zig_bd {n : Int} (hl : -9223372036854775808 ≤ n) (hh : n ≤ 9223372036854775807) : zig n < 18446744073709551616 := by unfold zig; split <;> omega
theorem unzig_zig (n : Int) : unzig (zig n : Int) = n := by
  unfold unzig zig
  split <;> split <;> omega
theorem signedBack (g : Nat) {x : Int} (hl : -9223372036854775808 ≤ x) (hh : x ≤ 9223372036854775807) (r : List UInt8) (hr : (enc (zig x) ++ r).length ≤ 9223372036854775807) (w : World) (h : RdA w g (enc (zig x) ++ r) 0) :
    Calls Try.prog 19 #[.pointer (some ⟨g, 0, none⟩)] w fun e w' => e = .returned (.int .i64 x) ∧ RdA w' g r 0 ∧ w.grownBy w' (some g) := by
  have k := signedA g _ 0 hr w h
  rw [show rNum (enc (zig x) ++ r) 0 = ((zig x : Int), (enc (zig x)).length, 0) from (by simp only [rNum, if_true]; exact dec_enc (zig_bd hl hh) r)] at k
  simpa [unzig_zig] using k
theorem txt_back {t : ByteArray} (ht : t.size ≤ 1000) (r : List UInt8) : rTxt (eT t ++ r) 0 1000 = (t.data.toList, (eT t).length, 0) := by
  have h3 : t.data.toList.length = t.size := rfl
  have e1 : rNum (eT t ++ r) 0 = ((t.size : Int), (enc t.size).length, 0) := by
    simp only [rNum, if_true, eT, List.append_assoc]
    exact dec_enc (by omega) _
  have e2 : rInt (eT t ++ r) 0 1000 = ((t.size : Int), (enc t.size).length, 0) := by
    simp only [rInt, e1, if_true]
    rw [if_neg (by omega)]
  have hd : (eT t ++ r).drop (enc t.size).length = t.data.toList ++ r := by simp [eT]
  simp only [rTxt, e2, if_true, hd, Int.toNat_natCast]
  rw [if_neg (by simp [eT]; omega)]
  simp [eT]
theorem txtBack (g : Nat) {t : ByteArray} (ht : t.size ≤ 1000) (r : List UInt8) (hr : (eT t ++ r).length ≤ 9223372036854775807) (w : World) (h : RdA w g (eT t ++ r) 0) :
    Calls Try.prog 21 #[.pointer (some ⟨g, 0, none⟩), .int .i64 1000] w fun e w' => e = .returned (.string t) ∧ RdA w' g r 0 ∧ w.grownBy w' (some g) := by
  have k := txtA g _ 0 1000 hr (by omega) (by omega) w h
  rw [txt_back ht r] at k
  simpa using k
theorem drop_at20 {α : Type} {l : List α} {k : Nat} {x : α} (h : l[k]? = some x) (hk : k < 20) : (l.take 20).drop k = x :: (l.take 20).drop (k + 1) := by
  have hl := (List.getElem?_eq_some_iff.1 h).1
  have hg := (List.getElem?_eq_some_iff.1 h).2
  rw [List.drop_eq_getElem_cons (by simp; omega)]
  simp [hg]

set_option maxRecDepth 100000 in
set_option maxHeartbeats 2000000 in
theorem walkB (A0 A1 A2 : Option Addr) (c0 c1 c2 : Nat) (vs : List Nat) (ns : List Int) (ts : List ByteArray) (w : World)
    (h0 : Lies w A0 (vs.map fun (n : Nat) => Value.int .u64 (n : Int))) (m0 : vs.length ≤ 9223372036854775807) (d0 : ∀ x ∈ vs, x < 18446744073709551616)
    (h1 : Lies w A1 (ns.map fun (n : Int) => Value.int .i64 n)) (m1 : ns.length ≤ 9223372036854775807) (d1 : ∀ x ∈ ns, -9223372036854775808 ≤ x ∧ x ≤ 9223372036854775807)
    (h2 : Lies w A2 (ts.map fun (t : ByteArray) => Value.string t)) (m2 : ts.length ≤ 9223372036854775807) (d2 : ∀ x ∈ ts, x.size ≤ 140737488351232) :
    Calls Try.prog 5 #[.slice A0 vs.length c0, .slice A1 ns.length c1, .slice A2 ts.length c2] w fun e w' => e = .returned (.bool true) ∧ Below w.heap.size w w' := by
  go_enter Try.func5, Try.ntmps5
  go_wp2_with fail
  refine (works_any _).mono ?_
  rintro e wa ⟨rfl, ba⟩
  go_upto_block 0 with fail
  go_cut [7] from 15 (fun s wx => s = .string ⟨(row eN (vs.take 20)).toArray⟩ ∧ Below w.heap.size w wx)
  case first =>
    go_wp2_with fail
    go_loopw [7, 8] (fun s i wr => ∃ k : Nat, k ≤ vs.length ∧ k ≤ 20 ∧ i = .int .i64 k ∧ s = .string ⟨(row eN (vs.take k)).toArray⟩ ∧ Below w.heap.size w wr) (fun _ i _ => 20 - (intOf i).toNat)
    case atStart => exact ⟨0, by omega, by omega, rfl, rfl, ba⟩
    case round =>
      obtain ⟨k, hk, hk2, rfl, rfl, hb⟩ := hrel
      by_cases hlt : k < vs.length ∧ k < 20
      · obtain ⟨g1, g2⟩ := hlt
        obtain ⟨x, hx⟩ : ∃ x, vs[k]? = some x := ⟨_, List.getElem?_eq_getElem g1⟩
        rcases h0 with h0 | ⟨b, off, hA, hbl, hc⟩
        · simp at h0; subst h0; simp at g1
        · subst hA
          have hcell : wr.cell? ⟨b, off + k, none⟩ = some (.int .u64 (x : Int)) := (hb.cell hbl).trans (hc k _ (by rw [List.getElem?_map, hx]; rfl))
          have hxl := d0 x (List.mem_of_getElem? hx)
          have hl := eN_row vs k hk2
          have le := len_enc x
          have Hx := Lib.hid hx; have Hc := Lib.hid hc
          clear hx hc
          go_wp2_with fail
          refine (num_any x hxl _).mono ?_
          rintro e w1' ⟨rfl, b1⟩
          go_wp2_with fail
          go_roundw
          case rel => exact ⟨k + 1, by omega, by omega, by go_num, val_app (by rw [take_next Hx.out, row_snoc]; rfl), hb.trans (b1.mono hb.size)⟩
          case measure => simp [intOf]; omega
      · have ht := take_all hk hk2 hlt
        have Ht := Lib.hid ht; clear ht
        go_wp2_with fail
        all_goals go_meet
        all_goals exact ⟨val_str (by rw [Ht.out]), hb⟩
  case rest =>
    obtain ⟨rfl, hb⟩ := hcut
    have hl0 := eN_row vs 20 (by omega)
    generalize hX : row eN (vs.take 20) = X at hl0
    have HX := Lib.hid hX; clear hX
    clear ba
    go_upto_block 2 with fail
    go_cut [7] from 15 (fun s wx => s = .string ⟨(X ++ row eS (ns.take 20)).toArray⟩ ∧ Below w.heap.size w wx)
    case first =>
      go_wp2_with fail
      go_loopw [7, 9] (fun s i wr => ∃ k : Nat, k ≤ ns.length ∧ k ≤ 20 ∧ i = .int .i64 k ∧ s = .string ⟨(X ++ row eS (ns.take k)).toArray⟩ ∧ Below w.heap.size w wr) (fun _ i _ => 20 - (intOf i).toNat)
      case atStart => exact ⟨0, by omega, by omega, rfl, val_str (by simp [row_nil]), hb⟩
      case round =>
        clear hb
        obtain ⟨k, hk, hk2, rfl, rfl, hb⟩ := hrel
        by_cases hlt : k < ns.length ∧ k < 20
        · obtain ⟨g1, g2⟩ := hlt
          obtain ⟨x, hx⟩ : ∃ x, ns[k]? = some x := ⟨_, List.getElem?_eq_getElem g1⟩
          rcases h1 with h1 | ⟨b, off, hA, hbl, hc⟩
          · simp at h1; subst h1; simp at g1
          · subst hA
            have hcell : wr.cell? ⟨b, off + k, none⟩ = some (.int .i64 x) := (hb.cell hbl).trans (hc k _ (by rw [List.getElem?_map, hx]; rfl))
            obtain ⟨hxl, hxh⟩ := d1 x (List.mem_of_getElem? hx)
            have hl := eS_row ns k hk2
            have le := len_enc (zig x)
            have Hx := Lib.hid hx; have Hc := Lib.hid hc
            clear hx hc
            go_wp2_with fail
            refine (signed_any x hxl hxh _).mono ?_
            rintro e w1' ⟨rfl, b1⟩
            go_wp2_with fail
            go_roundw
            case rel => exact ⟨k + 1, by omega, by omega, by go_num, val_app (by rw [take_next Hx.out, row_snoc, List.append_assoc]; rfl), hb.trans (b1.mono hb.size)⟩
            case measure => simp [intOf]; omega
        · have ht := take_all hk hk2 hlt
          have Ht := Lib.hid ht; clear ht
          go_wp2_with fail
          all_goals go_meet
          all_goals exact ⟨val_str (by rw [Ht.out]), hb⟩
    case rest =>
      clear hb
      obtain ⟨rfl, hb⟩ := hcut
      have hl1 := eS_row ns 20 (by omega)
      generalize hY : row eS (ns.take 20) = Y at hl1
      have HY := Lib.hid hY; clear hY
      go_upto_block 4 with fail
      go_cut [7] from 15 (fun s wx => s = .string ⟨(X ++ (Y ++ row eT (ts.take 20))).toArray⟩ ∧ Below w.heap.size w wx ∧ (∀ t ∈ ts.take 20, t.size ≤ 1000))
      case first =>
        go_wp2_with fail
        go_loopw [7, 10] (fun s i wr => ∃ k : Nat, k ≤ ts.length ∧ k ≤ 20 ∧ i = .int .i64 k ∧ s = .string ⟨(X ++ (Y ++ row eT (ts.take k))).toArray⟩ ∧ Below w.heap.size w wr ∧ (∀ t ∈ ts.take k, t.size ≤ 1000)) (fun _ i _ => 20 - (intOf i).toNat)
        case atStart => exact ⟨0, by omega, by omega, rfl, val_str (by simp [row_nil]), hb, by simp⟩
        case round =>
          clear hb
          obtain ⟨k, hk, hk2, rfl, rfl, hb, hall⟩ := hrel
          by_cases hlt : k < ts.length ∧ k < 20
          · obtain ⟨g1, g2⟩ := hlt
            obtain ⟨x, hx⟩ : ∃ x, ts[k]? = some x := ⟨_, List.getElem?_eq_getElem g1⟩
            rcases h2 with h2 | ⟨b, off, hA, hbl, hc⟩
            · simp at h2; subst h2; simp at g1
            · subst hA
              have hcell : wr.cell? ⟨b, off + k, none⟩ = some (.string x) := (hb.cell hbl).trans (hc k _ (by rw [List.getElem?_map, hx]; rfl))
              have hxl := d2 x (List.mem_of_getElem? hx)
              have hl := eT_row ts k hk2 hall
              have Hx := Lib.hid hx; have Hc := Lib.hid hc; have Hall := Lib.hid hall
              clear hx hc hall
              by_cases hbig : 1000 < x.size
              · go_wp2
                go_ret
                exact ⟨rfl, hb⟩
              · have le : (enc x.size ++ x.data.toList).length ≤ 1010 := by
                  have := len_enc x.size
                  have h3 : x.data.toList.length = x.size := rfl
                  simp; omega
                have HT := text_any x hxl
                generalize hz : enc x.size ++ x.data.toList = z at le HT
                have HZ := Lib.hid hz; have KT := Lib.hid HT; clear hz HT
                go_wp2_with fail
                refine (KT.out _).mono ?_
                rintro e w1' ⟨rfl, b1⟩
                go_wp2_with fail
                go_roundw
                case rel => exact ⟨k + 1, by omega, by omega, by go_num, val_app (by rw [take_next Hx.out, row_snoc, ← HZ.out]; simp [eT]), hb.trans (b1.mono hb.size), by
                  intro t ht
                  rw [take_next Hx.out, List.mem_append, List.mem_singleton] at ht
                  rcases ht with ht | rfl
                  · exact Hall.out t ht
                  · omega⟩
                case measure => simp [intOf]; omega
          · have ht := take_all hk hk2 hlt
            have Ht := Lib.hid ht; have Hall := Lib.hid hall; clear ht hall
            go_wp2_with fail
            all_goals go_meet
            all_goals exact ⟨val_str (by simp [Ht.out]), hb, by rw [← Ht.out]; exact Hall.out⟩
      case rest =>
        clear hb
        obtain ⟨rfl, hb, hall⟩ := hcut
        have hl2 := eT_row ts 20 (by omega) hall
        generalize hZ : row eT (ts.take 20) = Z at hl2
        have HZ := Lib.hid hZ; have Hall := Lib.hid hall; clear hZ hall
        go_wp2_with fail
        refine (new_l (X ++ (Y ++ Z)) _).mono ?_
        rintro e w2 ⟨rfl, r2, g2⟩
        have b2 : Below w.heap.size w w2 := hb.grown g2 hb.size (by simp)
        have hg := hb.size
        clear hb g2
        generalize wc.heap.size = g at r2 hg
        go_upto_block 6 with fail
        go_cut [11] from 74 (fun s wx => s = .pointer (some ⟨g, 0, none⟩) ∧ RdA wx g (Y ++ Z) 0 ∧ Below w.heap.size w wx)
        case first =>
          go_wp2_with fail
          go_loopw [12] (fun i wr => ∃ k : Nat, k ≤ vs.length ∧ k ≤ 20 ∧ i = .int .i64 k ∧ RdA wr g (row eN ((vs.take 20).drop k) ++ (Y ++ Z)) 0 ∧ Below w.heap.size w wr) (fun i _ => 20 - (intOf i).toNat)
          case atStart => exact ⟨0, by omega, by omega, rfl, by rw [List.drop_zero, HX.out]; exact r2, b2⟩
          case round =>
            clear r2 b2
            obtain ⟨k, hk, hk2, rfl, r2, hb⟩ := hrel
            by_cases hlt : k < vs.length ∧ k < 20
            · obtain ⟨g1, g2⟩ := hlt
              obtain ⟨x, hx⟩ : ∃ x, vs[k]? = some x := ⟨_, List.getElem?_eq_getElem g1⟩
              rcases h0 with h0 | ⟨b, off, hA, hbl, hc⟩
              · simp at h0; subst h0; simp at g1
              · subst hA
                have hcell : wr.cell? ⟨b, off + k, none⟩ = some (.int .u64 (x : Int)) := (hb.cell hbl).trans (hc k _ (by rw [List.getElem?_map, hx]; rfl))
                have hxl := d0 x (List.mem_of_getElem? hx)
                have hne : ¬ b = g := by omega
                rw [drop_at20 hx g2, row_cons] at r2
                have hlen : (eN x ++ row eN ((vs.take 20).drop (k + 1)) ++ (Y ++ Z)).length ≤ 9223372036854775807 := by
                  have := eN_drop vs (k + 1)
                  have := len_enc x
                  simp only [List.length_append, eN]
                  omega
                rw [List.append_assoc] at r2 hlen
                generalize hT : row eN ((vs.take 20).drop (k + 1)) ++ (Y ++ Z) = T at r2 hlen
                have HT := Lib.hid hT; clear hT
                have R2 := Lib.hid r2; have Hx := Lib.hid hx; have Hc := Lib.hid hc
                clear r2 hx hc
                go_wp2_with fail
                go_region_with ((go_at_call 15; refine (numBack g hxl T hlen _ (by exact R2.out)).mono ?_; rintro e w' ⟨rfl, r3, g3⟩; have hc3 := g3.cell hcell (by simpa using hne)))
                all_goals go_wp2_with fail
                all_goals go_roundw
                all_goals first | exact ⟨k + 1, by omega, by omega, by go_num, by rw [HT.out]; exact r3, below_only hb.drew g3 hb.size hg⟩ | (simp [intOf]; omega)
            · have ht : (vs.take 20).drop k = [] := List.drop_of_length_le (by simp; omega)
              rw [ht, row_nil, List.nil_append] at r2
              have R2 := Lib.hid r2; clear r2 ht
              go_wp2_with fail
              all_goals go_meet
              all_goals exact ⟨rfl, R2.out, hb⟩
        case rest =>
          clear r2 b2
          obtain ⟨rfl, r2, hb⟩ := hcut
          go_upto_block 8 with fail
          go_cut [11] from 74 (fun s wx => s = .pointer (some ⟨g, 0, none⟩) ∧ RdA wx g (Z) 0 ∧ Below w.heap.size w wx)
          case first =>
            go_wp2_with fail
            go_loopw [13] (fun i wr => ∃ k : Nat, k ≤ ns.length ∧ k ≤ 20 ∧ i = .int .i64 k ∧ RdA wr g (row eS ((ns.take 20).drop k) ++ (Z)) 0 ∧ Below w.heap.size w wr) (fun i _ => 20 - (intOf i).toNat)
            case atStart => exact ⟨0, by omega, by omega, rfl, by rw [List.drop_zero, HY.out]; exact r2, hb⟩
            case round =>
              clear r2 hb
              obtain ⟨k, hk, hk2, rfl, r2, hb⟩ := hrel
              by_cases hlt : k < ns.length ∧ k < 20
              · obtain ⟨g1, g2⟩ := hlt
                obtain ⟨x, hx⟩ : ∃ x, ns[k]? = some x := ⟨_, List.getElem?_eq_getElem g1⟩
                rcases h1 with h0 | ⟨b, off, hA, hbl, hc⟩
                · simp at h0; subst h0; simp at g1
                · subst hA
                  have hcell : wr.cell? ⟨b, off + k, none⟩ = some (.int .i64 x) := (hb.cell hbl).trans (hc k _ (by rw [List.getElem?_map, hx]; rfl))
                  have hxl := d1 x (List.mem_of_getElem? hx)
                  have hne : ¬ b = g := by omega
                  rw [drop_at20 hx g2, row_cons] at r2
                  have hlen : (eS x ++ row eS ((ns.take 20).drop (k + 1)) ++ (Z)).length ≤ 9223372036854775807 := by
                    have := eS_drop ns (k + 1)
                    have hxe : (eS x).length ≤ 1010 := by have := len_enc (zig x); unfold eS; omega
                    simp only [List.length_append] at *
                    omega
                  rw [List.append_assoc] at r2 hlen
                  generalize hT : row eS ((ns.take 20).drop (k + 1)) ++ (Z) = T at r2 hlen
                  have HT := Lib.hid hT; clear hT
                  have R2 := Lib.hid r2; have Hx := Lib.hid hx; have Hc := Lib.hid hc
                  clear r2 hx hc
                  go_wp2_with fail
                  go_region_with ((go_at_call 19; refine (signedBack g hxl.1 hxl.2 T hlen _ (by exact R2.out)).mono ?_; rintro e w' ⟨rfl, r3, g3⟩; have hc3 := g3.cell hcell (by simpa using hne)))
                  all_goals go_wp2_with fail
                  all_goals go_roundw
                  all_goals first | exact ⟨k + 1, by omega, by omega, by go_num, by rw [HT.out]; exact r3, below_only hb.drew g3 hb.size hg⟩ | (simp [intOf]; omega)
              · have ht : (ns.take 20).drop k = [] := List.drop_of_length_le (by simp; omega)
                rw [ht, row_nil, List.nil_append] at r2
                have R2 := Lib.hid r2; clear r2 ht
                go_wp2_with fail
                all_goals go_meet
                all_goals exact ⟨rfl, R2.out, hb⟩
          case rest =>
            clear r2 hb
            obtain ⟨rfl, r2, hb⟩ := hcut
            go_upto_block 10 with fail
            go_cut [11] from 74 (fun s wx => s = .pointer (some ⟨g, 0, none⟩) ∧ RdA wx g ([]) 0 ∧ Below w.heap.size w wx)
            case first =>
              go_wp2_with fail
              go_loopw [14] (fun i wr => ∃ k : Nat, k ≤ ts.length ∧ k ≤ 20 ∧ i = .int .i64 k ∧ RdA wr g (row eT ((ts.take 20).drop k) ++ ([])) 0 ∧ Below w.heap.size w wr) (fun i _ => 20 - (intOf i).toNat)
              case atStart => exact ⟨0, by omega, by omega, rfl, by rw [List.drop_zero, HZ.out]; rw [List.append_nil]; exact r2, hb⟩
              case round =>
                clear r2 hb
                obtain ⟨k, hk, hk2, rfl, r2, hb⟩ := hrel
                by_cases hlt : k < ts.length ∧ k < 20
                · obtain ⟨g1, g2⟩ := hlt
                  obtain ⟨x, hx⟩ : ∃ x, ts[k]? = some x := ⟨_, List.getElem?_eq_getElem g1⟩
                  rcases h2 with h0 | ⟨b, off, hA, hbl, hc⟩
                  · simp at h0; subst h0; simp at g1
                  · subst hA
                    have hcell : wr.cell? ⟨b, off + k, none⟩ = some (.string x) := (hb.cell hbl).trans (hc k _ (by rw [List.getElem?_map, hx]; rfl))
                    have hxl : x.size ≤ 1000 := Hall.out x (List.mem_of_getElem? (i := k) (by rw [List.getElem?_take_of_lt g2]; exact hx))
                    have hne : ¬ b = g := by omega
                    rw [drop_at20 hx g2, row_cons] at r2
                    have hlen : (eT x ++ row eT ((ts.take 20).drop (k + 1)) ++ ([])).length ≤ 9223372036854775807 := by
                      have := eT_drop ts (k + 1) Hall.out
                      have hxe : (eT x).length ≤ 1010 := by have h5 := len_enc x.size; have h6 : x.data.toList.length = x.size := rfl; simp [eT]; omega
                      simp only [List.length_append, List.length_nil] at *
                      omega
                    rw [List.append_assoc] at r2 hlen
                    generalize hT : row eT ((ts.take 20).drop (k + 1)) ++ ([]) = T at r2 hlen
                    have HT := Lib.hid hT; clear hT
                    have R2 := Lib.hid r2; have Hx := Lib.hid hx; have Hc := Lib.hid hc
                    clear r2 hx hc
                    go_wp2_with fail
                    go_region_with ((go_at_call 21; refine (txtBack g hxl T hlen _ (by exact R2.out)).mono ?_; rintro e w' ⟨rfl, r3, g3⟩; have hc3 := g3.cell hcell (by simpa using hne)))
                    all_goals go_wp2_with fail
                    all_goals go_roundw
                    all_goals first | exact ⟨k + 1, by omega, by omega, by go_num, by rw [HT.out]; exact r3, below_only hb.drew g3 hb.size hg⟩ | (simp [intOf]; omega)
                · have ht : (ts.take 20).drop k = [] := List.drop_of_length_le (by simp; omega)
                  rw [ht, row_nil, List.nil_append] at r2
                  have R2 := Lib.hid r2; clear r2 ht
                  go_wp2_with fail
                  all_goals go_meet
                  all_goals exact ⟨rfl, R2.out, hb⟩
            case rest =>
              clear r2 hb
              obtain ⟨rfl, r2, hb⟩ := hcut
              go_wp2_with fail
              refine (endA g [] 0 _ r2).mono ?_
              rintro e w3 ⟨rfl, r3, g3⟩
              go_wp2_with fail
              refine (leftA g [] _ _ r3).mono ?_
              rintro e w' ⟨rfl, rfl⟩
              go_wp2
              go_ret
              exact ⟨rfl, below_only hb g3 hb.size hg⟩

theorem walk (r0 : Row Int) (r1 : Row Int) (r2 : Row ByteArray) {k0 k1 k2 : List Value} {W : World} (q0 : sliceR 1 8 (intR .u64) W k0 r0) (q1 : sliceR 1 8 (intR .i64) W k1 r1) (q2 : sliceR 1 16 strR W k2 r2) :
    Calls Try.prog 5 #[r0.val, r1.val, r2.val] W fun e w' => e = .returned (.bool true) ∧ Below W.heap.size W w' := by
  have e0 := lies_of (f := fun (n : Int) => Value.int .u64 n) (fun _ _ _ h => h.1) q0
  have e1 := lies_of (f := fun (n : Int) => Value.int .i64 n) (fun _ _ _ h => h.1) q1
  have e2 := lies_of (f := fun (t : ByteArray) => Value.string t) (fun _ _ _ h => h.1) q2
  have b0 : ∀ n ∈ r0.elems, 0 ≤ n ∧ n ≤ 18446744073709551615 := fun n hn => by
    obtain ⟨_, hc⟩ := elem_of q0 n hn
    exact bounds_u64 hc.2
  have b1 : ∀ n ∈ r1.elems, -9223372036854775808 ≤ n ∧ n ≤ 9223372036854775807 := fun n hn => by
    obtain ⟨_, hc⟩ := elem_of q1 n hn
    exact bounds_i64 hc.2
  have b2 : ∀ t ∈ r2.elems, t.size ≤ 140737488351232 := fun t ht => by
    obtain ⟨_, hc⟩ := elem_of q2 t ht
    exact hc.2
  have m0 := row_max q0
  have m1 := row_max q1
  have m2 := row_max q2
  rw [row_val q0, row_val q1, row_val q2]
  have hm : r0.elems.map (fun (n : Int) => Value.int .u64 n) = (r0.elems.map Int.toNat).map fun (n : Nat) => Value.int .u64 (n : Int) := by
    rw [List.map_map]
    apply List.map_congr_left
    intro n hn
    have := (b0 n hn).1
    simp only [Function.comp]
    rw [Int.toNat_of_nonneg this]
  rw [hm] at e0
  have hl : r0.elems.length = (r0.elems.map Int.toNat).length := by simp
  rw [hl] at m0 ⊢
  have d0 : ∀ x ∈ r0.elems.map Int.toNat, x < 18446744073709551616 := by
    intro x hx
    obtain ⟨n, hn, rfl⟩ := List.mem_map.1 hx
    have := b0 n hn
    omega
  exact walkB _ _ _ _ _ _ _ _ _ W e0 m0 d0 e1 m1 b1 e2 m2 b2

theorem told (W : World) (args : Array Value) (h : Fed Try.prog W [44, 45, 46] args) : Calls Try.prog 5 args W fun e W' => e = .returned (.bool true) ∧ Below W.heap.size W W' := by
  obtain ⟨v0, v1, v2, rfl⟩ := args3 h.count
  obtain ⟨⟨_, o0⟩, r0⟩ := h.each 0 44 v0 rfl rfl
  obtain ⟨⟨_, o1⟩, r1⟩ := h.each 1 45 v1 rfl rfl
  obtain ⟨⟨_, o2⟩, r2⟩ := h.each 2 46 v2 rfl rfl
  obtain ⟨a0, q0⟩ := r0 (opens_slice Try.underlying44 (m := 1) (bytes := 8) (by kernel_rfl) (by kernel_rfl) (opens_int Try.underlying22))
  obtain rfl := top_slice Try.underlying44 o0 q0
  obtain ⟨a1, q1⟩ := r1 (opens_slice Try.underlying45 (m := 1) (bytes := 8) (by kernel_rfl) (by kernel_rfl) (opens_int Try.underlying2))
  obtain rfl := top_slice Try.underlying45 o1 q1
  obtain ⟨a2, q2⟩ := r2 (opens_slice Try.underlying46 (m := 1) (bytes := 16) (by kernel_rfl) (by kernel_rfl) (opens_str Try.underlying9))
  obtain rfl := top_slice Try.underlying46 o2 q2
  exact walk a0 a1 a2 q0 q1 q2

/-! ### The row -/
theorem own : ownKnob Try.prog.godebug = none := by kernel_rfl
theorem laidOut : laidOutB Try.prog = true := by kernel_rfl
set_option maxRecDepth 100000 in
theorem lifted (os : Os) (started : os.Started) (H : Type) (enc : TypeId × Value → H) :
    ReturnsInHanded {} Try.checked os 5 .any (Rows.codeBackSpec.pre6 enc Try.prog Try.f5 Rows.codeBackRow.domain false) (Rows.codeBackSpec.post enc Try.prog Try.f5 false true false false) :=
  lift (C := Try.checked) (fn := Try.f5) (tb := 4) (ts := [44, 45, 46]) own started (by kernel_rfl) Try.func5 laidOut (by kernel_rfl) (by kernel_rfl) (by kernel_rfl) Try.underlying4 rfl
    (fun ds h => by
      match ds, h with
      | [_, _, _], _ => rfl)
    (ChangeSpec.witness6 (enc := enc) (C := Try.checked) false ⟨#[], #[.slice none 0 0, .slice none 0 0, .slice none 0 0], []⟩ 8 (by kernel_rfl) (by kernel_rfl) (by kernel_rfl) (by kernel_rfl)) told

theorem over : Rows.codeBackRow.holds Try.pinned (OpenSpec.ofChange Rows.codeBackSpec) :=
  OpenClaim.holds_of_wide 5 Try.f5 rfl rfl rfl rfl rfl rfl rfl ⟨rfl, rfl, rfl, rfl, rfl⟩ rfl rfl rfl rfl rfl (by kernel_rfl) Try.func5 (by kernel_rfl)
    (of_decide_eq_true (by kernel_rfl)) (by unfold Func.isWrapper; first | (rw [if_pos (by decide +kernel)]; kernel_rfl) | (rw [if_neg (by decide +kernel)]; exact ⟨rfl, rfl⟩))
    (fun os started H enc _ => lifted os started H enc)

theorem proved : Rows.CodeBackSaid := over
#print axioms proved
end Go.Proofs.Ytmbjnoikfleioaa.codeBack
