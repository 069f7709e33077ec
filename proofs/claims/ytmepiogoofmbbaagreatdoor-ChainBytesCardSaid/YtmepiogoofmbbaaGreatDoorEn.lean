/-
  The contracts of chain.encode with a time's text and with its bytes, of strings.Join, chain.Text and chain.Write.
-/
import Derived.Test.YtmepiogoofmbbaaGreatDoorGM
import Derived.Test.YtmepiogoofmbbaaGreatDoorGL
namespace Go.Proofs.YtmepiogoofmbbaaGreatDoor.chain
open Go.ChangeShapes Go.WideShapes Go.ChangeAt Go.RowKit Go.Shelf Go.Sort
open Go.Proofs.YtmepiogoofmbbaaGreatDoor.tm Go.Proofs.YtmepiogoofmbbaaGreatDoor.opened Go.Proofs.YtmepiogoofmbbaaGreatDoor.block Go.Proofs.YtmepiogoofmbbaaGreatDoor.stamp

/-- A row of strings that is one's own. -/
abbrev OwnS (w : World) (base : Nat) (v : Value) (l : List (List UInt8)) : Prop := w.ownsRow base 9 1 v l.length (l.map strC)
theorem OwnS.shape {w : World} {base : Nat} {v : Value} {l : List (List UInt8)} (h : OwnS w base v l) : ∃ B c, v = .slice B l.length c := by
  rcases h.2 with ⟨hv, hn⟩ | ⟨g, cap, cur, hv, -⟩
  · exact ⟨none, 0, by rw [hv, hn]⟩
  · exact ⟨_, _, hv⟩
theorem OwnS.below {w w' : World} {base : Nat} {v : Value} {l : List (List UInt8)} (h : OwnS w base v l) (hb : Below w.heap.size w w') : OwnS w' base v l := by
  refine ⟨h.1, ?_⟩
  rcases h.2 with hn | ⟨g, cap, cur, hv, hg0, hg, rest⟩
  · exact .inl hn
  · exact .inr ⟨g, cap, cur, hv, hg0, (hb.block g (Array.getElem?_eq_some_iff.1 hg).1).trans hg, rest⟩
/-- strings.Join of them. -/
theorem joinS_any (A : Option Addr) (c : Nat) (xs : List (List UInt8)) (sep : List UInt8) (base : Nat) (hN : xs.length ≤ 100) (hlen : (Lib.join xs sep).length ≤ 140737488351232) (w : World) (hO : OwnS w base (.slice A xs.length c) xs) :
    Calls Tryz.prog 19 #[.slice A xs.length c, .string ⟨sep.toArray⟩] w fun e w' => e = .returned (.string ⟨(Lib.join xs sep).toArray⟩) ∧ Below w.heap.size w w' := by
  rcases hO.2 with ⟨hv, hn⟩ | ⟨g, cap, cur, hv, hb0, hg, h1, h2, h3, h4⟩
  · have : xs = [] := List.eq_nil_of_length_eq_zero hn
    subst this
    have k := Any.strings_Join_none Tryz.lays156 Tryz.Builder_Extra_156 A c ⟨sep.toArray⟩ w
    exact k.mono fun e w' ⟨he, hw⟩ => ⟨by rw [he, Lib.join_nil], hw ▸ Below.refl _ _⟩
  · injection hv with e1 e2 e3
    subst e1 e3
    have hgl : g < w.heap.size := (Array.getElem?_eq_some_iff.1 hg).1
    have hcells : ∀ (j : Nat) x, xs[j]? = some x → w.cell? ⟨g, j, none⟩ = some (.string ⟨x.toArray⟩) := by
      intro j x hx
      have hjl := (List.getElem?_eq_some_iff.1 hx).1
      have h5 : (cur.toList.take (xs.length * 1))[j]? = some (strC x) := by rw [h4, List.getElem?_map, hx]; rfl
      rw [List.getElem?_take, if_pos (by omega), Array.getElem?_toList] at h5
      simp [World.cell?, hg, h5, strC]
    have hm : (xs.map fun x => (⟨x.toArray⟩ : ByteArray)).map (·.data.toList) = xs := by
      rw [List.map_map]
      have : ((fun x : ByteArray => x.data.toList) ∘ fun x : List UInt8 => (⟨x.toArray⟩ : ByteArray)) = id := by funext x; simp
      rw [this, List.map_id]
    have k := Any.strings_Join Tryz.lays156 Tryz.Builder_Extra_156 g 0 c (xs.map fun x => (⟨x.toArray⟩ : ByteArray)) ⟨sep.toArray⟩ w (by
      intro j x hx
      rw [List.getElem?_map] at hx
      obtain ⟨y, hy, rfl⟩ := Option.map_eq_some_iff.1 hx
      rw [Nat.zero_add]
      exact hcells j y hy) hgl (by simp; omega) (by simpa using h1) (by rw [hm]; simp; omega)
    rw [hm, List.length_map] at k
    exact k
theorem join_len2 : ∀ (l : List (List UInt8)) (sep : List UInt8) (m : Nat), (∀ x ∈ l, x.length ≤ m) → (Lib.join l sep).length ≤ (m + sep.length) * l.length
  | [], _, _, _ => by simp [Lib.join_nil]
  | x :: r, sep, m, h => by
    rw [Lib.join_cons]
    have h0 := h x (by simp)
    have h1 : (Lib.joinTail sep r).length ≤ (m + sep.length) * r.length := by
      have h' : ∀ y ∈ r, y.length ≤ m := fun y hy => h y (by simp [hy])
      clear h h0
      induction r with
      | nil => simp [Lib.joinTail]
      | cons y r ih =>
        have h2 := h' y (by simp)
        have h3 := ih (fun z hz => h' z (by simp [hz]))
        simp [Lib.joinTail] at h3 ⊢
        rw [Nat.mul_add, Nat.mul_one]
        omega
    rw [List.length_append, List.length_cons, Nat.mul_add, Nat.mul_one]
    omega
/-- What encode makes of each. -/
def encS (V : Tm → List UInt8) (L : List Tm) (h : InL L) : List (List UInt8) := if checkE L h = 0 then L.map V else []
theorem len_wrtL {t : Tm} (h : chk t = 0) : (wrtL t).length ≤ 50 := by
  obtain ⟨z0, z1, -⟩ := chk_zero h
  rw [← wrp_all z0 z1]
  exact len_wrp t _
theorem own_low {w : World} {base base' : Nat} {v : Value} {l : List (List UInt8)} {n : Nat} (h : w.ownsRow base 9 1 v n (l.map strC)) (hb : base' ≤ base) : w.ownsRow base' 9 1 v n (l.map strC) := by
  refine ⟨h.1, ?_⟩
  rcases h.2 with hn | ⟨g, cap, cur, hv, hg0, hg, rest⟩
  · exact .inl hn
  · exact .inr ⟨g, cap, cur, hv, Nat.le_trans hb hg0, hg, rest⟩

set_option maxRecDepth 100000 in
set_option maxHeartbeats 2000000 in
theorem encW_any (A : Option Addr) (c : Nat) (L : List Tm) (iL : InL L) (mL : L.length ≤ 4611686018427387903) (w : World) (hL : Lt w A L) :
    Calls Tryz.prog 17 #[.slice A L.length c, .func (.func 22) #[] #[]] w fun e W' => ∃ D c', e = .returned (.tuple #[.slice D (encS wrtL L iL).length c', .int .i64 (checkE L iL)]) ∧ OwnS W' w.heap.size (.slice D (encS wrtL L iL).length c') (encS wrtL L iL) ∧ Below w.heap.size w W' := by
  have HL := Lib.hid hL
  have CC := Lib.hid (check_chain A c L iL mL)

  clear hL
  by_cases h : checkE L iL = 0
  · have fr := front_check h
    have few := fr.few
    have OK := Lib.hid fr.ok
    rw [show encS wrtL L iL = L.map wrtL by unfold encS; rw [if_pos h], h]
    rw [h] at CC
    clear h fr
    obtain ⟨i0, hi0, hz0, hz1, hz2⟩ := info_parts info9
    go_enter Tryz.func17, Tryz.ntmps17
    go_wp2_with fail
    refine (CC.out _ HL.out).mono ?_
    rintro e w1 ⟨rfl, b1⟩
    have HL1 := Lib.hid (HL.out.below b1)

    clear CC HL
    go_wp2_with fail
    go_loopw [7, 19] (fun l s wr => ∃ (k : Nat) (D : Option Addr) (c' : Nat), k ≤ L.length ∧ l = .slice D k c' ∧ s = .int .i64 k ∧ Hid (wr.ownsRow w1.heap.size 9 1 (.slice D k c') k (((L.take k).map wrtL).map strC)) ∧ Below w1.heap.size w1 wr) (fun _ s _ => L.length - (intOf s).toNat)
    case atStart => exact ⟨0, none, 0, Nat.zero_le _, rfl, rfl, Lib.hid (World.ownsRow_nil _ _ _ _), Below.refl _ _⟩
    case round =>
      obtain ⟨k, D, c', hk, rfl, rfl, HO, hb0⟩ := hrel
      rename World => W1
      by_cases hlt : k < L.length
      · obtain ⟨x, hx, hm⟩ := get_lt hlt
        obtain ⟨b, off, hA, hb, c0, c1, c2, c3, c4⟩ := (HL1.out.below hb0).at hx
        subst hA
        obtain ⟨ix, cx⟩ := OK.out x hm
        have FX := Lib.hid (write_good x ix cx)
        have HSN : Hid ((((L.take (k + 1)).map wrtL).map strC) = (((L.take k).map wrtL).map strC) ++ [strC (wrtL x)]) := Lib.hid (by rw [List.take_add_one, hx]; simp)
        have O := Whole.fresh W1 49 #[.int .u32 x.e, .int .i64 x.d, .int .u32 x.a, .int .u32 x.b, .int .u32 x.c]
        have hb1 := hb0.alloc hb0.size (.cells #[.int .u32 x.e, .int .i64 x.d, .int .u32 x.a, .int .u32 x.b, .int .u32 x.c] 49)
        have HO1 := Lib.hid (keep_row HO.out (fresh1 W1 (.cells #[.int .u32 x.e, .int .i64 x.d, .int .u32 x.a, .int .u32 x.b, .int .u32 x.c] 49)))

        clear hx hm ix cx HO
        go_upto_region 8 with fail
        change Code.wp _ _ _ _ (W1.alloc (.cells #[.int .u32 x.e, .int .i64 x.d, .int .u32 x.a, .int .u32 x.b, .int .u32 x.c] 49))
        clear c0 c1 c2 c3 c4 hb hb0
        generalize W1.alloc (.cells #[.int .u32 x.e, .int .i64 x.d, .int .u32 x.a, .int .u32 x.b, .int .u32 x.c] 49) = W2 at O HO1 hb1 ⊢
        generalize W1.heap.size = gx at O ⊢
        obtain ⟨xc, xf⟩ := path.all_of O
        clear O
        go_wp2_with fail
        refine (FX.out _).mono ?_
        rintro e w3 ⟨rfl, b3⟩
        have HO3 := Lib.hid (keep_row HO1.out b3)
        have hb3 := hb1.trans (b3.mono hb1.size)
        clear HO1 b3 hb1 xc xf FX
        go_wp2_with (at_builtin; refine wpList_append_own _ rfl _ _ 40 rfl w1.heap.size 9 i0 (.string ByteArray.empty) 1 16 Tryz.underlying40 hi0 hz0 hz1 hz2 rfl (by decide) _ _ _ rfl (HO3.out.alloc _) _ 1 1 [_] rfl rfl (cell_one_new _ _ _) (oneS _) (by unfold maxLen; omega) (by omega) (by have := hb3.size; simp; omega) ?_; intro v' w5 hown5 hgrow5 _; have hb5 : Below w1.heap.size w1 w5 := (hb3.alloc hb3.size _).grown hgrow5 (by have := hb3.size; simp; omega) (fun q hq => (HO3.out.lt q hq).1); obtain ⟨g', cap', rfl⟩ := ownsRow_succ hown5; have HO5 := Lib.hid hown5; clear hgrow5 hown5)
        go_roundw
        case rel => exact ⟨k + 1, some ⟨g', 0, none⟩, cap', by omega, rfl, by go_num, by rw [HSN.out]; exact HO5, hb5⟩
        case measure => simp [intOf]; omega
      · have hkk : k = L.length := by omega
        subst hkk
        have HO2 : Hid (OwnS W1 w1.heap.size (.slice D L.length c') (L.map wrtL)) := Lib.hid (by have := HO.out; rw [List.take_length] at this; unfold OwnS; rwa [List.length_map])
        go_wp2_with fail
        go_ret2
        exact ⟨D, c', by rw [List.length_map]; rfl, by rw [List.length_map]; exact own_low HO2.out b1.size, b1.trans (hb0.mono b1.size)⟩
  · rw [show encS wrtL L iL = [] by unfold encS; rw [if_neg h]]
    generalize checkE L iL = m at CC h ⊢
    go_enter Tryz.func17, Tryz.ntmps17
    go_wp2_with fail
    refine (CC.out _ HL.out).mono ?_
    rintro e w1 ⟨rfl, b1⟩
    go_wp2_with fail
    go_ret2
    exact ⟨none, 0, rfl, World.ownsRow_nil _ _ _ _, b1⟩

set_option maxRecDepth 100000 in
set_option maxHeartbeats 2000000 in
theorem encT_any (A : Option Addr) (c : Nat) (L : List Tm) (iL : InL L) (mL : L.length ≤ 4611686018427387903) (w : World) (hL : Lt w A L) (hE : Env w) :
    Calls Tryz.prog 17 #[.slice A L.length c, .func (.func 18) #[] #[]] w fun e W' => ∃ D c', e = .returned (.tuple #[.slice D (encS txtL L iL).length c', .int .i64 (checkE L iL)]) ∧ OwnS W' w.heap.size (.slice D (encS txtL L iL).length c') (encS txtL L iL) ∧ Below w.heap.size w W' := by
  have HL := Lib.hid hL
  have CC := Lib.hid (check_chain A c L iL mL)
  have HE := Lib.hid hE
  clear hL hE
  by_cases h : checkE L iL = 0
  · have fr := front_check h
    have few := fr.few
    have OK := Lib.hid fr.ok
    rw [show encS txtL L iL = L.map txtL by unfold encS; rw [if_pos h], h]
    rw [h] at CC
    clear h fr
    obtain ⟨i0, hi0, hz0, hz1, hz2⟩ := info_parts info9
    go_enter Tryz.func17, Tryz.ntmps17
    go_wp2_with fail
    refine (CC.out _ HL.out).mono ?_
    rintro e w1 ⟨rfl, b1⟩
    have HL1 := Lib.hid (HL.out.below b1)
    have HE1 := Lib.hid (HE.out.below b1)
    clear CC HL HE
    go_wp2_with fail
    go_loopw [7, 19] (fun l s wr => ∃ (k : Nat) (D : Option Addr) (c' : Nat), k ≤ L.length ∧ l = .slice D k c' ∧ s = .int .i64 k ∧ Hid (wr.ownsRow w1.heap.size 9 1 (.slice D k c') k (((L.take k).map txtL).map strC)) ∧ Below w1.heap.size w1 wr) (fun _ s _ => L.length - (intOf s).toNat)
    case atStart => exact ⟨0, none, 0, Nat.zero_le _, rfl, rfl, Lib.hid (World.ownsRow_nil _ _ _ _), Below.refl _ _⟩
    case round =>
      obtain ⟨k, D, c', hk, rfl, rfl, HO, hb0⟩ := hrel
      rename World => W1
      by_cases hlt : k < L.length
      · obtain ⟨x, hx, hm⟩ := get_lt hlt
        obtain ⟨b, off, hA, hb, c0, c1, c2, c3, c4⟩ := (HL1.out.below hb0).at hx
        subst hA
        obtain ⟨ix, cx⟩ := OK.out x hm
        have FX := Lib.hid (text_good x ix cx)
        have HSN : Hid ((((L.take (k + 1)).map txtL).map strC) = (((L.take k).map txtL).map strC) ++ [strC (txtL x)]) := Lib.hid (by rw [List.take_add_one, hx]; simp)
        have O := Whole.fresh W1 49 #[.int .u32 x.e, .int .i64 x.d, .int .u32 x.a, .int .u32 x.b, .int .u32 x.c]
        have hb1 := hb0.alloc hb0.size (.cells #[.int .u32 x.e, .int .i64 x.d, .int .u32 x.a, .int .u32 x.b, .int .u32 x.c] 49)
        have HO1 := Lib.hid (keep_row HO.out (fresh1 W1 (.cells #[.int .u32 x.e, .int .i64 x.d, .int .u32 x.a, .int .u32 x.b, .int .u32 x.c] 49)))
        have HE2 := Lib.hid ((HE1.out.below hb0).below (fresh1 W1 (.cells #[.int .u32 x.e, .int .i64 x.d, .int .u32 x.a, .int .u32 x.b, .int .u32 x.c] 49)))
        clear hx hm ix cx HO
        go_upto_region 8 with fail
        change Code.wp _ _ _ _ (W1.alloc (.cells #[.int .u32 x.e, .int .i64 x.d, .int .u32 x.a, .int .u32 x.b, .int .u32 x.c] 49))
        clear c0 c1 c2 c3 c4 hb hb0
        generalize W1.alloc (.cells #[.int .u32 x.e, .int .i64 x.d, .int .u32 x.a, .int .u32 x.b, .int .u32 x.c] 49) = W2 at O HO1 hb1 HE2 ⊢
        generalize W1.heap.size = gx at O ⊢
        obtain ⟨xc, xf⟩ := path.all_of O
        clear O
        go_wp2_with fail
        refine (FX.out _ HE2.out).mono ?_
        rintro e w3 ⟨rfl, b3⟩
        have HO3 := Lib.hid (keep_row HO1.out b3)
        have hb3 := hb1.trans (b3.mono hb1.size)
        clear HO1 b3 hb1 xc xf FX
        go_wp2_with (at_builtin; refine wpList_append_own _ rfl _ _ 40 rfl w1.heap.size 9 i0 (.string ByteArray.empty) 1 16 Tryz.underlying40 hi0 hz0 hz1 hz2 rfl (by decide) _ _ _ rfl (HO3.out.alloc _) _ 1 1 [_] rfl rfl (cell_one_new _ _ _) (oneS _) (by unfold maxLen; omega) (by omega) (by have := hb3.size; simp; omega) ?_; intro v' w5 hown5 hgrow5 _; have hb5 : Below w1.heap.size w1 w5 := (hb3.alloc hb3.size _).grown hgrow5 (by have := hb3.size; simp; omega) (fun q hq => (HO3.out.lt q hq).1); obtain ⟨g', cap', rfl⟩ := ownsRow_succ hown5; have HO5 := Lib.hid hown5; clear hgrow5 hown5)
        go_roundw
        case rel => exact ⟨k + 1, some ⟨g', 0, none⟩, cap', by omega, rfl, by go_num, by rw [HSN.out]; exact HO5, hb5⟩
        case measure => simp [intOf]; omega
      · have hkk : k = L.length := by omega
        subst hkk
        have HO2 : Hid (OwnS W1 w1.heap.size (.slice D L.length c') (L.map txtL)) := Lib.hid (by have := HO.out; rw [List.take_length] at this; unfold OwnS; rwa [List.length_map])
        go_wp2_with fail
        go_ret2
        exact ⟨D, c', by rw [List.length_map]; rfl, by rw [List.length_map]; exact own_low HO2.out b1.size, b1.trans (hb0.mono b1.size)⟩
  · rw [show encS txtL L iL = [] by unfold encS; rw [if_neg h]]
    generalize checkE L iL = m at CC h ⊢
    go_enter Tryz.func17, Tryz.ntmps17
    go_wp2_with fail
    refine (CC.out _ HL.out).mono ?_
    rintro e w1 ⟨rfl, b1⟩
    go_wp2_with fail
    go_ret2
    exact ⟨none, 0, rfl, World.ownsRow_nil _ _ _ _, b1⟩

def chTxt (L : List Tm) (h : InL L) : List UInt8 := if checkE L h = 0 then 123 :: (Lib.join (L.map txtL) [32] ++ [125]) else []
def chWrt (L : List Tm) (h : InL L) : List UInt8 := if checkE L h = 0 then stamp.encI L.length ++ Lib.join (L.map wrtL) [] else []

set_option maxRecDepth 100000 in
theorem chText (A : Option Addr) (c : Nat) (L : List Tm) (iL : InL L) (mL : L.length ≤ 4611686018427387903) (w : World) (hL : Lt w A L) (hE : Env w) :
    Calls Tryz.prog 5 #[.slice A L.length c] w fun e W' => e = .returned (.tuple #[.string ⟨(chTxt L iL).toArray⟩, .int .i64 (checkE L iL)]) ∧ Below w.heap.size w W' := by
  have HL := Lib.hid hL
  have CE := Lib.hid (encT_any A c L iL mL)
  have HE := Lib.hid hE
  clear hL hE
  by_cases h : checkE L iL = 0
  · have fr := front_check h
    have few := fr.few
    have OK := fr.ok
    have e1 : encS txtL L iL = L.map txtL := by unfold encS; rw [if_pos h]
    rw [show chTxt L iL = 123 :: (Lib.join (L.map txtL) [32] ++ [125]) by unfold chTxt; rw [if_pos h], h]
    rw [h, e1, List.length_map] at CE
    have hl2 : (Lib.join (L.map txtL) [32]).length ≤ 60 * 64 := by
      have := join_len2 (L.map txtL) [32] 50 (by
        intro z hz
        obtain ⟨t, ht, rfl⟩ := List.mem_map.1 hz
        obtain ⟨it, ct⟩ := OK t ht
        obtain ⟨z0, z1, -⟩ := chk_zero ct
        have := len_txt it z0 z1
        omega)
      rw [List.length_map] at this
      have h3 : (50 + ([32] : List UInt8).length) * L.length ≤ 60 * 64 := Nat.mul_le_mul (by simp) few
      omega
    have CJ := fun (D : Option Addr) (c' base : Nat) => joinS_any D c' (L.map txtL) [32] base (by rw [List.length_map]; omega) (by omega)
    simp only [List.length_map] at CJ
    have CJ := Lib.hid CJ
    clear h fr OK e1
    go_enter Tryz.func5, Tryz.ntmps5
    go_wp2_with fail
    refine (CE.out _ HL.out HE.out).mono ?_
    rintro e w1 ⟨D, c1, rfl, h1, b1⟩
    have H1 := Lib.hid h1
    clear h1
    generalize hJ : Lib.join (L.map txtL) [32] = J at CJ hl2
    go_wp2_with fail
    refine (CJ.out _ _ _ _ H1.out).mono ?_
    rintro e w3 ⟨rfl, b3⟩
    go_wp2_with fail
    go_ret2
    exact ⟨by rw [hJ]; exact str_ret2 (ByteArray.ext (by simp)), b1.trans (b3.mono b1.size)⟩
  · rw [show chTxt L iL = [] by unfold chTxt; rw [if_neg h]]
    rw [show encS txtL L iL = [] by unfold encS; rw [if_neg h]] at CE
    generalize checkE L iL = m at CE h ⊢
    go_enter Tryz.func5, Tryz.ntmps5
    go_wp2_with fail
    refine (CE.out _ HL.out HE.out).mono ?_
    rintro e w1 ⟨D, c1, rfl, h1, b1⟩
    go_wp2_with fail
    go_ret2
    exact ⟨rfl, b1⟩

set_option maxRecDepth 100000 in
theorem chWrite (A : Option Addr) (c : Nat) (L : List Tm) (iL : InL L) (mL : L.length ≤ 4611686018427387903) (w : World) (hL : Lt w A L) :
    Calls Tryz.prog 8 #[.slice A L.length c] w fun e W' => e = .returned (.tuple #[.string ⟨(chWrt L iL).toArray⟩, .int .i64 (checkE L iL)]) ∧ Below w.heap.size w W' := by
  have HL := Lib.hid hL
  have CE := Lib.hid (encW_any A c L iL mL)

  clear hL
  by_cases h : checkE L iL = 0
  · have fr := front_check h
    have few := fr.few
    have OK := fr.ok
    have e1 : encS wrtL L iL = L.map wrtL := by unfold encS; rw [if_pos h]
    rw [show chWrt L iL = stamp.encI L.length ++ Lib.join (L.map wrtL) [] by unfold chWrt; rw [if_pos h], h]
    rw [h, e1, List.length_map] at CE
    have hl2 : (Lib.join (L.map wrtL) []).length ≤ 60 * 64 := by
      have := join_len2 (L.map wrtL) [] 50 (by
        intro z hz
        obtain ⟨t, ht, rfl⟩ := List.mem_map.1 hz
        obtain ⟨it, ct⟩ := OK t ht
        exact len_wrtL ct)
      rw [List.length_map] at this
      have h3 : (50 + ([] : List UInt8).length) * L.length ≤ 60 * 64 := Nat.mul_le_mul (by simp) few
      omega
    have CJ := fun (D : Option Addr) (c' base : Nat) => joinS_any D c' (L.map wrtL) [] base (by rw [List.length_map]; omega) (by omega)
    simp only [List.length_map] at CJ
    have CJ := Lib.hid CJ
    clear h fr OK e1
    have CN := Lib.hid (num_i (L.length : Int) (by omega) (by omega))
    have hw : IntKind.u64.wrap (L.length : Int) = L.length := by rw [IntKind.wrap_u64]; omega
    have hl3 := len_encI (L.length : Int)
    go_enter Tryz.func8, Tryz.ntmps8
    go_wp2_with fail
    refine (CE.out _ HL.out).mono ?_
    rintro e w1 ⟨D, c1, rfl, h1, b1⟩
    have H1 := Lib.hid h1
    clear h1
    generalize hJ : Lib.join (L.map wrtL) [] = J at CJ hl2
    generalize hI : stamp.encI (L.length : Int) = EE at CN hl3
    go_wp2_with fail
    refine (CN.out _).mono ?_
    rintro e w2 ⟨rfl, b2⟩
    have H2 := Lib.hid (H1.out.below b2)
    go_wp2_with fail
    refine (CJ.out _ _ _ _ H2.out).mono ?_
    rintro e w3 ⟨rfl, b3⟩
    go_wp2_with fail
    go_ret2
    exact ⟨by rw [hJ, hI]; exact str_ret2 (str_cat _ _), b1.trans ((b2.trans (b3.mono b2.size)).mono b1.size)⟩
  · rw [show chWrt L iL = [] by unfold chWrt; rw [if_neg h]]
    rw [show encS wrtL L iL = [] by unfold encS; rw [if_neg h]] at CE
    generalize checkE L iL = m at CE h ⊢
    go_enter Tryz.func8, Tryz.ntmps8
    go_wp2_with fail
    refine (CE.out _ HL.out).mono ?_
    rintro e w1 ⟨D, c1, rfl, h1, b1⟩
    go_wp2_with fail
    go_ret2
    exact ⟨rfl, b1⟩
end Go.Proofs.YtmepiogoofmbbaaGreatDoor.chain
