/-
  The contracts of stamp.Text and watershedref04.Text: a time in writing.
-/
import Derived.Test.YtilkdpobkcocoaaDoorDig
import Derived.Test.YtilkdpobkcocoaaDoorWrt
import Derived.Deep.AppendLies
import Derived.Laws.AppendOwn
namespace Go.Proofs.YtilkdpobkcocoaaDoor.stamp
open Go.ChangeShapes Go.WideShapes Go.ChangeAt Go.RowKit
open Go.Proofs.YtilkdpobkcocoaaDoor.tm Go.Proofs.YtilkdpobkcocoaaDoor.opened Go.Proofs.YtilkdpobkcocoaaDoor.block Go.Proofs.YtilkdpobkcocoaaDoor.code

/-- What the library's variables hold, where the program reads them. -/
structure Env (w : World) : Prop where
  tab : Lib.TabIs Tryd.prog w "internal/strconv.uint64pow10" .u64 Lib.pow10Tab
  most : ∃ m, w.cell? ⟨1, 0, none⟩ = some (.int .i64 m)
  syn : ∃ tp p, w.var? Tryd.prog "strconv.ErrSyntax" = some #[.iface tp p]
  rng : ∃ tp p, w.var? Tryd.prog "strconv.ErrRange" = some #[.iface tp p]
theorem var_below {P : Program} {w w' : World} {name : String} {cs : Array Value} (h : w.var? P name = some cs) (hb : Below w.heap.size w w') : w'.var? P name = some cs := by
  unfold World.var? at *
  cases hg : P.globalNamed name with
  | none => simp [hg] at h
  | some g =>
    simp only [hg, Option.bind_some] at h ⊢
    have hlt : g < w.heap.size := by
      rcases Nat.lt_or_ge g w.heap.size with h' | h'
      · exact h'
      · rw [Array.getElem?_eq_none h'] at h
        simp at h
    rw [hb.block g hlt]
    exact h
theorem Env.below {w w' : World} (h : Env w) (hb : Below w.heap.size w w') : Env w' := by
  obtain ⟨m, hm⟩ := h.most
  obtain ⟨t1, p1, h1⟩ := h.syn
  obtain ⟨t2, p2, h2⟩ := h.rng
  exact ⟨var_below h.tab hb, ⟨m, (hb.cell (p := ⟨1, 0, none⟩) (World.block_lt_of_cell? w _ hm)).trans hm⟩, ⟨t1, p1, var_below h1 hb⟩, ⟨t2, p2, var_below h2 hb⟩⟩
/-- The digits of a number. -/
def decI (x : Int) : List UInt8 := Lib.decDigits x.toNat
theorem len_decI {x : Int} (h : x ≤ 4294967295) : (decI x).length ≤ 10 := by
  unfold decI
  rw [Lib.decDigits_length]
  exact nDigits_le 9 _ (by omega)
def txtL (t : Tm) : List UInt8 := Lib.join ((cnt t).map decI) [46]
def txtV (t : Tm) : List UInt8 := if chk t = 0 then txtL t else []
theorem fmt_i (a : Int) (h0 : 0 ≤ a) (h1 : a ≤ 4294967295) (w : World) (h : Env w) : Calls Tryd.prog 41 #[.int .u64 a, .int .i64 10] w fun e w' => e = .returned (.string ⟨(decI a).toArray⟩) ∧ Below w.heap.size w w' := by
  have k := fmt_any a.toNat (by omega) w h.tab
  rwa [show ((a.toNat : Nat) : Int) = a by omega] at k
theorem digits_i (a : Int) (h0 : 0 ≤ a) (h1 : a ≤ 4294967295) (w : World) : Calls Tryd.prog 43 #[.int .u64 a] w fun e w' => e = .returned (.string ⟨(decI a).toArray⟩) ∧ Below w.heap.size w w' := by
  have k := digits_any a.toNat (by omega) w
  rwa [show ((a.toNat : Nat) : Int) = a by omega] at k
theorem join_any (bk c : Nat) (xs : List (List UInt8)) (w : World) (hcells : ∀ (j : Nat) x, xs[j]? = some x → w.cell? ⟨bk, j, none⟩ = some (.string ⟨x.toArray⟩)) (hbk : bk < w.heap.size) (hN : xs.length ≤ 100) (hcap : xs.length ≤ c) (hlen : (Lib.join xs [46]).length ≤ 140737488355328) :
    Calls Tryd.prog 42 #[.slice (some ⟨bk, 0, none⟩) xs.length c, .string ⟨#[46]⟩] w fun e w' => e = .returned (.string ⟨(Lib.join xs [46]).toArray⟩) ∧ Below w.heap.size w w' := by
  have hm : (xs.map fun x => (⟨x.toArray⟩ : ByteArray)).map (·.data.toList) = xs := by
    rw [List.map_map]
    have : ((fun x : ByteArray => x.data.toList) ∘ fun x : List UInt8 => (⟨x.toArray⟩ : ByteArray)) = id := by funext x; simp
    rw [this, List.map_id]
  have k := Any.strings_Join Tryd.lays156 Tryd.Builder_Extra_156 bk 0 c (xs.map fun x => (⟨x.toArray⟩ : ByteArray)) ⟨#[46]⟩ w (by
    intro j x hx
    rw [List.getElem?_map] at hx
    obtain ⟨y, hy, rfl⟩ := Option.map_eq_some_iff.1 hx
    rw [Nat.zero_add]
    exact hcells j y hy) hbk (by simp; omega) (by simpa using hcap) (by rw [hm]; exact hlen)
  rw [hm, List.length_map] at k
  exact k
theorem info9 : (Tryd.prog.info? 9).map (fun i => (i.zero, i.size, i.bytes)) = some (some (.string ByteArray.empty), 1, 16) := by kernel_rfl
def strC (x : List UInt8) : Value := .string ⟨x.toArray⟩
theorem keep_row {w w' : World} {base : Nat} {e : TypeId} {size : Nat} {v : Value} {n : Nat} {xs : List Value} (h : w.ownsRow base e size v n xs) (b : Below w.heap.size w w') : w'.ownsRow base e size v n xs :=
  h.kept (only_of_below b none) (by cases v.ownBlock <;> simp)
theorem oneS (x : ByteArray) : ∀ u ∈ [Value.string x], u.oneCell' = true := by
  intro u hu; simp at hu; subst hu; rfl
theorem cnt_pos (t : Tm) : 0 < (cnt t).length := by
  unfold cnt
  split
  · simp
  · split
    · simp
    · split <;> simp
theorem len_join : ∀ (l : List (List UInt8)), (∀ x ∈ l, x.length ≤ 10) → (Lib.join l [46]).length ≤ 11 * l.length
  | [], _ => by simp [Lib.join_nil]
  | x :: r, h => by
    rw [Lib.join_cons]
    have h0 := h x (by simp)
    have h1 : (Lib.joinTail [46] r).length ≤ 11 * r.length := by
      have h' : ∀ y ∈ r, y.length ≤ 10 := fun y hy => h y (by simp [hy])
      clear h h0
      induction r with
      | nil => simp [Lib.joinTail]
      | cons y r ih =>
        have h2 := h' y (by simp)
        have h3 := ih (fun z hz => h' z (by simp [hz]))
        simp [Lib.joinTail] at h3 ⊢
        omega
    simp
    omega
theorem len_txt {t : Tm} (i : t.In) (h0 : 0 ≤ t.d) (h1 : t.d ≤ 3) : (txtL t).length ≤ 44 := by
  have h2 := len_join ((cnt t).map decI) (by
    intro x hx
    obtain ⟨y, hy, rfl⟩ := List.mem_map.1 hx
    exact len_decI (cnt_in i y hy).2)
  have h3 := cnt_len h0 h1
  rw [List.length_map] at h2
  unfold txtL
  omega
theorem text_bad (t : Tm) (i : t.In) (h : chk t ≠ 0) (w : World) : Calls Tryd.prog 9 #[.agg #[.int .u32 t.e, .int .i64 t.d, .int .u32 t.a, .int .u32 t.b, .int .u32 t.c]] w fun e w' => e = .returned (.tuple #[.string ⟨#[]⟩, .int .i64 (chk t)]) ∧ Below w.heap.size w w' := by
  generalize hE : chk t = E at h
  have h' : (E != 0) = true := by simpa using h
  clear h
  have HE := Lib.hid hE
  clear hE
  go_enter Tryd.func9, Tryd.ntmps9
  go_wp2_with fail
  refine (check_is _ i HE.out _).mono ?_
  rintro e w1 ⟨rfl, b1⟩
  go_wp2
  go_ret2
  exact ⟨rfl, over1 b1⟩
theorem textR_bad (t : Tm) (i : t.In) (h : chk t ≠ 0) (w : World) : Calls Tryd.prog 10 #[.agg #[.int .u32 t.e, .int .i64 t.d, .int .u32 t.a, .int .u32 t.b, .int .u32 t.c]] w fun e w' => e = .returned (.tuple #[.string ⟨#[]⟩, .int .i64 (chk t)]) ∧ Below w.heap.size w w' := by
  generalize hE : chk t = E at h
  have h' : (E != 0) = true := by simpa using h
  clear h
  have HE := Lib.hid hE
  clear hE
  go_enter Tryd.func10, Tryd.ntmps10
  go_wp2_with fail
  refine (checkR_is _ i HE.out _).mono ?_
  rintro e w1 ⟨rfl, b1⟩
  go_wp2
  go_ret2
  exact ⟨rfl, over1 b1⟩
set_option maxRecDepth 100000 in
set_option maxHeartbeats 2000000 in
theorem text_good (t : Tm) (i : t.In) (h : chk t = 0) (w : World) (hE : Env w) : Calls Tryd.prog 9 #[.agg #[.int .u32 t.e, .int .i64 t.d, .int .u32 t.a, .int .u32 t.b, .int .u32 t.c]] w fun e w' => e = .returned (.tuple #[.string ⟨(txtL t).toArray⟩, .int .i64 0]) ∧ Below w.heap.size w w' := by
  obtain ⟨i0, hi, hz0, hz1, hz2⟩ := info_parts info9
  obtain ⟨z0, z1, -⟩ := chk_zero h
  have HE := Lib.hid h
  clear h
  have hcl := cnt_len z0 z1
  have HI := Lib.hid (cnt_in i)
  have HC := Lib.hid (fun W => counts_any t z0 z1 W)
  have HJ := Lib.hid (len_txt i z0 z1)
  unfold txtL at HJ
  unfold txtL
  have hpos := cnt_pos t
  have HV := Lib.hid hE
  clear hE
  generalize hl : cnt t = l at hcl HI HC HJ hpos
  clear hl
  go_enter Tryd.func9, Tryd.ntmps9
  go_wp2_with fail
  refine (check_is _ i HE.out _).mono ?_
  rintro e w1 ⟨rfl, b1⟩
  clear i
  have h1 : Whole w1 w.heap.size 25 #[.int .u32 t.e, .int .i64 t.d, .int .u32 t.a, .int .u32 t.b, .int .u32 t.c] := (Whole.fresh w 25 _).below b1 (by simp)
  have v1 := over1 b1
  clear b1
  obtain ⟨aa0, aa1, aa2, aa3, aa4, aaf0, aaf1, aaf2, aaf3, aaf4⟩ := facts5' h1
  go_wp2_with fail
  refine (HC.out _).mono ?_
  rintro e w3 ⟨b, cap, rfl, hown, b3⟩
  have v3 := v1.trans (b3.mono v1.size)
  clear b3 aa0 aa1 aa2 aa3 aa4 aaf0 aaf1 aaf2 aaf3 aaf4 h1 v1 HC
  go_wp2_with fail
  go_loopw [5, 16] (fun s i wr => ∃ k : Nat, k ≤ l.length ∧ i = .int .i64 k ∧ wr.ownsRow w3.heap.size 9 1 s k (((l.map decI).take k).map strC) ∧ Below w3.heap.size w3 wr) (fun _ i _ => l.length - (intOf i).toNat)
  case atStart => exact ⟨0, by omega, rfl, by simpa using World.ownsRow_nil _ _ _ _, Below.refl _ _⟩
  case round =>
    obtain ⟨k, hk, rfl, hs, hb⟩ := hrel
    by_cases hkl : k < l.length
    · have hx := HI.out l[k] (List.getElem_mem hkl)
      have hc : wr.cell? ⟨b, k, none⟩ = some (.int .u32 l[k]) := by
        have h4 := hown.cellAt k (by omega)
        rw [List.getElem?_map, List.getElem?_eq_getElem hkl] at h4
        exact (hb.cell (p := ⟨b, k, none⟩) (World.block_lt_of_cell? w3 _ h4)).trans h4
      obtain ⟨x0, x1⟩ := hx
      have hsn : (((l.map decI).take (k + 1)).map strC) = (((l.map decI).take k).map strC) ++ [strC (decI l[k])] := by
        rw [List.take_succ_eq_append_getElem (by simpa using hkl)]; simp
      have HSN := Lib.hid hsn
      clear hsn
      have hen : Env wr := (HV.out.below v3).below hb
      generalize l[k] = x at hc x0 x1 HSN
      go_wp2_with fail
      refine (fmt_i _ (by omega) (by omega) _ hen).mono ?_
      rintro e w4 ⟨rfl, b4⟩
      clear hen
      have hs4 := keep_row hs b4
      clear hs
      go_wp2_with (at_builtin; refine wpList_append_own _ rfl _ _ 57 rfl w3.heap.size 9 i0 (.string ByteArray.empty) 1 16 Tryd.underlying57 hi hz0 hz1 hz2 rfl (by decide) _ _ _ rfl (hs4.alloc _) _ 1 1 [_] rfl rfl (cell_one_new _ _ _) (oneS _) (by unfold maxLen; omega) (by omega) (by have := hb.size; have := b4.size; simp; omega) ?_)
      intro v' w5 hown5 hgrow5 _
      have hb5 : Below w3.heap.size w3 w5 := ((hb.trans (b4.mono hb.size)).alloc (by have := hb.size; have := b4.size; omega) _).grown hgrow5 (by have := hb.size; have := b4.size; simp; omega) (fun q hq => (hs4.lt q hq).1)
      clear hgrow5 hs4 hb b4
      go_wp2
      go_roundw
      case rel => exact ⟨k + 1, by omega, by go_num, by rw [HSN.out]; simp only [List.map_take, List.map_map]; exact hown5, hb5⟩
      case measure => simp [intOf]; omega
    · have hkk : k = l.length := by omega
      subst hkk
      rw [List.take_of_length_le (by simp)] at hs
      obtain ⟨bk, cp, hv, hbase, hlt⟩ := hs.form hpos
      subst hv
      have hcells : ∀ (j : Nat) x, (l.map decI)[j]? = some x → wr.cell? ⟨bk, j, none⟩ = some (.string ⟨x.toArray⟩) := by
        intro j x hx
        have hjl := (List.getElem?_eq_some_iff.1 hx).1
        rw [List.length_map] at hjl
        have h4 := hs.cellAt j (by omega)
        rw [List.getElem?_map, hx] at h4
        exact h4
      have hcp : l.length ≤ cp := by
        rcases hs.2 with ⟨h', _⟩ | ⟨g', cap', cur, h', _, _, hc1, _⟩
        · simp at h'
        · simp only [Value.slice.injEq, Option.some.injEq, true_and] at h'
          omega
      have HK := Lib.hid (join_any bk cp (l.map decI) wr hcells hlt (by simp; omega) (by simpa using hcp) (by have := HJ.out; omega))
      rw [List.length_map] at HK
      clear hs hcells
      go_wp2_with fail
      refine HK.out.mono ?_
      rintro e w6 ⟨rfl, b6⟩
      go_wp2
      go_ret2
      exact ⟨rfl, (v3.trans (hb.mono v3.size)).trans (b6.mono (Nat.le_trans v3.size hb.size))⟩
/-- A time's front in writing. -/
def txtp (t : Tm) : Nat → List UInt8
  | 0 => decI t.e
  | 1 => decI t.e ++ [46] ++ decI t.a
  | 2 => decI t.e ++ [46] ++ decI t.a ++ [46] ++ decI t.b
  | _ => decI t.e ++ [46] ++ decI t.a ++ [46] ++ decI t.b ++ [46] ++ decI t.c
theorem txtp_all {t : Tm} (h0 : 0 ≤ t.d) (h1 : t.d ≤ 3) : txtp t t.d.toNat = txtL t := by
  obtain ⟨e, d, a, b, c⟩ := t
  dsimp only at *
  have hk : d = 0 ∨ d = 1 ∨ d = 2 ∨ d = 3 := by omega
  rcases hk with rfl | rfl | rfl | rfl <;> simp [txtp, txtL, cnt, Lib.join_cons, Lib.joinTail]
theorem len_txtp {t : Tm} (i : t.In) (k : Nat) : (txtp t k).length ≤ 50 := by
  have := len_decI (x := t.e) (by have := i.e1; omega); have := len_decI (x := t.a) (by have := i.a1; omega); have := len_decI (x := t.b) (by have := i.b1; omega); have := len_decI (x := t.c) (by have := i.c1; omega)
  unfold txtp
  split <;> simp <;> omega
theorem str_dot (l m : List UInt8) : (⟨l.toArray⟩ : ByteArray) ++ ⟨#[46]⟩ ++ ⟨m.toArray⟩ = ⟨(l ++ [46] ++ m).toArray⟩ := ByteArray.ext (by simp)
set_option maxRecDepth 100000 in
set_option maxHeartbeats 2000000 in
theorem textR_good (t : Tm) (i : t.In) (h : chk t = 0) (w : World) : Calls Tryd.prog 10 #[.agg #[.int .u32 t.e, .int .i64 t.d, .int .u32 t.a, .int .u32 t.b, .int .u32 t.c]] w fun e w' => e = .returned (.tuple #[.string ⟨(txtL t).toArray⟩, .int .i64 0]) ∧ Below w.heap.size w w' := by
  obtain ⟨z0, z1, -⟩ := chk_zero h
  have HE := Lib.hid h
  clear h
  obtain ⟨i0, i1, -, -, j0, j1, k0, k1, l0, l1⟩ := id i
  have HLP := Lib.hid (len_txtp i)
  go_enter Tryd.func10, Tryd.ntmps10
  go_wp2_with fail
  refine (checkR_is _ i HE.out _).mono ?_
  rintro e w1 ⟨rfl, b1⟩
  clear i
  have h1 : Whole w1 w.heap.size 25 #[.int .u32 t.e, .int .i64 t.d, .int .u32 t.a, .int .u32 t.b, .int .u32 t.c] := (Whole.fresh w 25 _).below b1 (by simp)
  have v1 := over1 b1
  clear b1
  generalize hg : w.heap.size = g at h1 v1 ⊢
  have HG := Lib.hid hg
  clear hg
  obtain ⟨aa0, aa1, aa2, aa3, aa4, aaf0, aaf1, aaf2, aaf3, aaf4⟩ := facts5' h1
  go_wp2_with fail
  refine (digits_i t.e (by omega) (by omega) _).mono ?_
  rintro e w2 ⟨rfl, b2⟩
  clear aa0 aa1 aa2 aa3 aa4 aaf0 aaf1 aaf2 aaf3 aaf4
  have h2 := h1.below b2 h1.inside
  have v2 := v1.trans (b2.mono (Nat.le_of_lt h1.inside))
  clear h1 v1 b2
  go_wp2_with fail
  go_loopw [5, 6] (fun s i wr => ∃ k : Nat, (k : Int) ≤ t.d ∧ i = .int .i64 k ∧ s = .string ⟨(txtp t k).toArray⟩ ∧ Whole wr g 25 #[.int .u32 t.e, .int .i64 t.d, .int .u32 t.a, .int .u32 t.b, .int .u32 t.c] ∧ Below g w wr) (fun _ i _ => 3 - (intOf i).toNat)
  case atStart => exact ⟨0, z0, rfl, rfl, h2, v2⟩
  case round =>
    clear h2 v2
    obtain ⟨k, hk, rfl, rfl, ht, hb⟩ := hrel
    have hlen := HLP.out k
    by_cases hkd : (k : Int) < t.d
    · obtain rfl | rfl | rfl : k = 0 ∨ k = 1 ∨ k = 2 := by omega
      · obtain ⟨aa0, aa1, aa2, aa3, aa4, aaf0, aaf1, aaf2, aaf3, aaf4⟩ := facts5' ht
        have hla := len_decI (x := t.a) (by omega)
        go_wp2_with fail
        refine (digits_i t.a (by omega) (by omega) _).mono ?_
        rintro e w4 ⟨rfl, b4⟩
        clear aa0 aa1 aa2 aa3 aa4 aaf0 aaf1 aaf2 aaf3 aaf4
        have ht4 := ht.below b4 ht.inside
        go_wp2
        go_roundw
        case rel => exact ⟨1, by omega, by go_num, by rw [str_dot]; simp [txtp], ht4, hb.trans (b4.mono (Nat.le_of_lt ht.inside))⟩
        case measure => simp [intOf]
      · obtain ⟨aa0, aa1, aa2, aa3, aa4, aaf0, aaf1, aaf2, aaf3, aaf4⟩ := facts5' ht
        have hla := len_decI (x := t.b) (by omega)
        go_wp2_with fail
        refine (digits_i t.b (by omega) (by omega) _).mono ?_
        rintro e w4 ⟨rfl, b4⟩
        clear aa0 aa1 aa2 aa3 aa4 aaf0 aaf1 aaf2 aaf3 aaf4
        have ht4 := ht.below b4 ht.inside
        go_wp2
        go_roundw
        case rel => exact ⟨2, by omega, by go_num, by rw [str_dot]; simp [txtp], ht4, hb.trans (b4.mono (Nat.le_of_lt ht.inside))⟩
        case measure => simp [intOf]
      · obtain ⟨aa0, aa1, aa2, aa3, aa4, aaf0, aaf1, aaf2, aaf3, aaf4⟩ := facts5' ht
        have hla := len_decI (x := t.c) (by omega)
        go_wp2_with fail
        refine (digits_i t.c (by omega) (by omega) _).mono ?_
        rintro e w4 ⟨rfl, b4⟩
        clear aa0 aa1 aa2 aa3 aa4 aaf0 aaf1 aaf2 aaf3 aaf4
        have ht4 := ht.below b4 ht.inside
        go_wp2
        go_roundw
        case rel => exact ⟨3, by omega, by go_num, by rw [str_dot]; simp [txtp], ht4, hb.trans (b4.mono (Nat.le_of_lt ht.inside))⟩
        case measure => simp [intOf]
    · have hkk : k = t.d.toNat := by omega
      have HK := Lib.hid hkk
      clear hkk
      obtain ⟨aa0, aa1, aa2, aa3, aa4, aaf0, aaf1, aaf2, aaf3, aaf4⟩ := facts5' ht
      go_wp2
      go_ret2
      exact ⟨str_ret2 (by rw [HK.out, txtp_all z0 z1]), by have := HG.out; subst this; exact hb⟩
theorem text_any (t : Tm) (i : t.In) (w : World) (hE : Env w) : Calls Tryd.prog 9 #[.agg #[.int .u32 t.e, .int .i64 t.d, .int .u32 t.a, .int .u32 t.b, .int .u32 t.c]] w fun e w' => e = .returned (.tuple #[.string ⟨(txtV t).toArray⟩, .int .i64 (chk t)]) ∧ Below w.heap.size w w' := by
  by_cases h : chk t = 0
  · rw [show txtV t = txtL t by simp [txtV, h], h]
    exact text_good t i h w hE
  · rw [show txtV t = [] by simp [txtV, h]]
    exact text_bad t i h w
theorem textR_any (t : Tm) (i : t.In) (w : World) : Calls Tryd.prog 10 #[.agg #[.int .u32 t.e, .int .i64 t.d, .int .u32 t.a, .int .u32 t.b, .int .u32 t.c]] w fun e w' => e = .returned (.tuple #[.string ⟨(txtV t).toArray⟩, .int .i64 (chk t)]) ∧ Below w.heap.size w w' := by
  by_cases h : chk t = 0
  · rw [show txtV t = txtL t by simp [txtV, h], h]
    exact textR_good t i h w
  · rw [show txtV t = [] by simp [txtV, h]]
    exact textR_bad t i h w
end Go.Proofs.YtilkdpobkcocoaaDoor.stamp
