/-
  The contract of stamp.Parse: the time of any writing.
-/
import Derived.Test.YtilkdpobkcocoaaDoorPP
import Derived.Lib.SplitLaws
namespace Go.Proofs.YtilkdpobkcocoaaDoor.stamp
open Go.ChangeShapes Go.WideShapes Go.ChangeAt Go.RowKit
open Go.Proofs.YtilkdpobkcocoaaDoor.tm Go.Proofs.YtilkdpobkcocoaaDoor.opened Go.Proofs.YtilkdpobkcocoaaDoor.block Go.Proofs.YtilkdpobkcocoaaDoor.code

/-- The parts of a writing. -/
def cut (s : List UInt8) : List (List UInt8) := Lib.splitN s [46] 5
theorem splitK_len : ∀ (k : Nat) (s : List UInt8), (Lib.splitK [46] 0 k s).length ≤ k + 1 ∧ 1 ≤ (Lib.splitK [46] 0 k s).length
  | 0, s => by simp [Lib.splitK]
  | k + 1, s => by
    unfold Lib.splitK
    split
    · simp
    · have := splitK_len k (s.drop ((Lib.index s [46]).toNat + [46].length))
      simp only [List.length_cons] at this ⊢
      omega
theorem splitK_mem : ∀ (k : Nat) (s x : List UInt8), x ∈ Lib.splitK [46] 0 k s → x.length ≤ s.length
  | 0, s, x, h => by simp [Lib.splitK] at h; subst h; omega
  | k + 1, s, x, h => by
    unfold Lib.splitK at h
    split at h
    · simp at h; subst h; omega
    · rcases List.mem_cons.1 h with rfl | h
      · rw [List.length_take]; omega
      · have := splitK_mem k _ x h
        rw [List.length_drop] at this
        omega
theorem cut_len (s : List UInt8) : (cut s).length ≤ 5 ∧ 1 ≤ (cut s).length := by
  have := splitK_len (min 5 (s.length + 1) - 1) s
  unfold cut Lib.splitN
  omega
theorem cut_mem {s x : List UInt8} (h : x ∈ cut s) : x.length ≤ s.length := splitK_mem _ _ _ h
theorem cells_at (xs : List ByteArray) (N : Nat) (j : Nat) (x : ByteArray) (h : xs[j]? = some x) : (Lib.cellsOf xs N)[j]? = some (.string x) := by
  have hj := (List.getElem?_eq_some_iff.1 h).1
  unfold Lib.cellsOf
  rw [List.getElem?_toArray, List.getElem?_append_left (by simpa using hj), List.getElem?_map, h]
  rfl
theorem split_any (s : List UInt8) (hs : s.length ≤ 5000) (w : World) (hE : Env w) :
    Calls Tryd.prog 45 #[.string ⟨s.toArray⟩, .string ⟨#[46]⟩, .int .i64 5] w fun e w' => ∃ c : Nat, e = .returned (.slice (some ⟨w.heap.size, 0, none⟩) (cut s).length c) ∧ Below w.heap.size w w' ∧ w.heap.size < w'.heap.size ∧ ∀ (j : Nat) x, (cut s)[j]? = some x → w'.cell? ⟨w.heap.size, j, none⟩ = some (.string ⟨x.toArray⟩) := by
  obtain ⟨m, hm⟩ := hE.most
  have hsz : (⟨s.toArray⟩ : ByteArray).size = s.length := by show s.toArray.size = _; simp
  have k := Any.strings_SplitN Tryd.lays147 (by kernel_rfl) ⟨s.toArray⟩ ⟨#[46]⟩ 5 m w (by rw [hsz]; omega) hm (by decide) (by omega) (by omega)
  have hd := Lib.splitB_data ⟨#[46]⟩ 0 (min 5 ((⟨s.toArray⟩ : ByteArray).size + 1) - 1) ⟨s.toArray⟩
  have hc : (Lib.splitB ⟨#[46]⟩ 0 (min 5 ((⟨s.toArray⟩ : ByteArray).size + 1) - 1) ⟨s.toArray⟩).map (·.data.toList) = cut s := by
    rw [hd, hsz]
    rfl
  have hlen : (Lib.splitB ⟨#[46]⟩ 0 (min 5 ((⟨s.toArray⟩ : ByteArray).size + 1) - 1) ⟨s.toArray⟩).length = (cut s).length := by rw [← hc, List.length_map]
  refine k.mono fun e w' ⟨he, hw⟩ => ⟨_, he.trans (by rw [← hlen]), ?_, ?_, ?_⟩
  · rw [hw]; exact fresh1 _ _
  · rw [hw]; simp
  · intro j x hx
    rw [hw]
    have hx2 : (Lib.splitB ⟨#[46]⟩ 0 (min 5 ((⟨s.toArray⟩ : ByteArray).size + 1) - 1) ⟨s.toArray⟩)[j]? = some ⟨x.toArray⟩ := by
      rw [← hc, List.getElem?_map] at hx
      obtain ⟨y, hy, hyx⟩ := Option.map_eq_some_iff.1 hx
      rw [hy, ← hyx]
    rw [World.cell?_alloc_new]
    exact cells_at _ _ j _ hx2
theorem vals_in : ∀ {xs : List (List UInt8)} {l : List Int}, vals xs = some l → (∀ x ∈ l, 0 ≤ x ∧ x ≤ 4294967295) ∧ l.length = xs.length
  | [], l, h => by simp [vals] at h; subst h; simp
  | x :: r, l, h => by
    simp only [vals] at h
    split at h
    · rename_i u m hu hm
      simp at h
      subst h
      obtain ⟨a, b⟩ := vals_in hm
      have := pv_lt hu
      exact ⟨fun y hy => by
        rcases List.mem_cons.1 hy with rfl | hy
        · omega
        · exact a y hy, by simp [b]⟩
    · cases h
theorem getD_in {l : List Int} (h : ∀ x ∈ l, 0 ≤ x ∧ x ≤ 4294967295) (k : Nat) : 0 ≤ l.getD k 0 ∧ l.getD k 0 ≤ 4294967295 := by
  rw [List.getD_eq_getElem?_getD]
  cases hk : l[k]? with
  | none => simp
  | some x => simpa using h x (List.mem_of_getElem? hk)
theorem T0_in : T0.In := ⟨by decide, by decide, by decide, by decide, by decide, by decide, by decide, by decide, by decide, by decide⟩
theorem ppV_in (xs : List (List UInt8)) : (ppV xs).In := by
  unfold ppV
  split
  · rename_i h4
    split
    · rename_i l hl
      obtain ⟨a, b⟩ := vals_in hl
      have g0 := getD_in a 0; have g1 := getD_in a 1; have g2 := getD_in a 2; have g3 := getD_in a 3
      exact ⟨g0.1, g0.2, by simp only [ptm]; omega, by simp only [ptm]; omega, g1.1, g1.2, g2.1, g2.2, g3.1, g3.2⟩
    · exact T0_in
  · exact T0_in
theorem parts_any (xs : List (List UInt8)) (b c : Nat) (h1 : 1 ≤ xs.length) (h5 : xs.length ≤ 5) (w : World) (hE : Env w) (hcells : ∀ (j : Nat) x, xs[j]? = some x → w.cell? ⟨b, j, none⟩ = some (.string ⟨x.toArray⟩)) (hx : ∀ x ∈ xs, x.length ≤ 5000) :
    Calls Tryd.prog 44 #[.slice (some ⟨b, 0, none⟩) xs.length c] w fun e w' => e = .returned (.tuple #[.agg #[.int .u32 (ppV xs).e, .int .i64 (ppV xs).d, .int .u32 (ppV xs).a, .int .u32 (ppV xs).b, .int .u32 (ppV xs).c], .bool (ppB xs)]) ∧ Below w.heap.size w w' := by
  by_cases h : xs.length = 5
  · have k := parts_long xs b c h w
    rw [h]
    exact k
  · exact parts_short xs b c h1 (by omega) w hE hcells hx
/-- Is it the writing of the time that its parts spell? -/
def isTxt (s : List UInt8) : Prop := ppB (cut s) = true ∧ chk (ppV (cut s)) = 0 ∧ txtL (ppV (cut s)) = s
instance (s : List UInt8) : Decidable (isTxt s) := by unfold isTxt; exact inferInstance
def parseV (s : List UInt8) : Tm := if isTxt s then ppV (cut s) else T0
def parseE (s : List UInt8) : Int := if isTxt s then 0 else 6
theorem below5 {B : Nat} {w wr : World} {k : Nat} (h : Below B w wr) (hk : B ≤ k) (v0 v1 v2 v3 v4 : Value) :
    Below B w (((((wr.setCell ⟨k, 0, none⟩ v0).setCell ⟨k, 1, none⟩ v1).setCell ⟨k, 2, none⟩ v2).setCell ⟨k, 3, none⟩ v3).setCell ⟨k, 4, none⟩ v4) := ((((h.setCell hk v0).setCell hk v1).setCell hk v2).setCell hk v3).setCell hk v4
theorem below_put {w wr : World} {k : Nat} (h : Below w.heap.size w wr) (hk : w.heap.size ≤ k) (v0 v1 v2 v3 v4 : Value) (o : Obj) :
    Below w.heap.size w ((((((wr.setCell ⟨k, 0, none⟩ v0).setCell ⟨k, 1, none⟩ v1).setCell ⟨k, 2, none⟩ v2).setCell ⟨k, 3, none⟩ v3).setCell ⟨k, 4, none⟩ v4).alloc o) :=
  have q := below5 h hk v0 v1 v2 v3 v4
  q.alloc q.size o
theorem run_neq_yes {a b : List UInt8} (h : a ≠ b) (w : World) : (binOp .neq 9 (.string ⟨a.toArray⟩) (.string ⟨b.toArray⟩)).run Tryd.prog w = .ok (.bool true) w := by
  rw [binOp_string_neq, ByteArray.toList_eq, ByteArray.toList_eq]
  have : (a == b) = false := by simpa using h
  simp [this]
theorem run_neq_no (a : List UInt8) (w : World) : (binOp .neq 9 (.string ⟨a.toArray⟩) (.string ⟨a.toArray⟩)).run Tryd.prog w = .ok (.bool false) w := by
  rw [binOp_string_neq]
  simp
set_option maxRecDepth 100000 in
set_option maxHeartbeats 2000000 in
theorem parse_no (s : List UInt8) (hs : s.length ≤ 5000) (w : World) (hE : Env w) (h : ppB (cut s) = false) : Calls Tryd.prog 11 #[.string ⟨s.toArray⟩] w fun e w' => e = .returned (.tuple #[.agg #[.int .u32 T0.e, .int .i64 T0.d, .int .u32 T0.a, .int .u32 T0.b, .int .u32 T0.c], .int .i64 6]) ∧ Below w.heap.size w w' := by
  have HE := Lib.hid hE
  have HS := Lib.hid (split_any s hs)
  obtain ⟨l5, l1⟩ := cut_len s
  have HM := Lib.hid (fun x (h : x ∈ cut s) => Nat.le_trans (cut_mem h) hs)
  have HI := Lib.hid (ppV_in (cut s))
  have HP := Lib.hid h
  clear h
  generalize cut s = xs at *
  clear hE
  go_enter Tryd.func11, Tryd.ntmps11
  go_wp2_with fail
  refine (HS.out _ (by exact HE.out.below (fresh1 _ _))).mono ?_
  rintro e w1 ⟨c, rfl, b1, hlt, hcells⟩
  have r1 : Whole w1 w.heap.size 25 #[.int .u32 0, .int .i64 0, .int .u32 0, .int .u32 0, .int .u32 0] := (Whole.fresh w 25 _).below b1 (by simp)
  have v1 := over1 b1
  have e1 : Env w1 := HE.out.below v1
  rw [World.size_alloc] at hcells
  have HC := Lib.hid hcells
  clear b1 hcells
  go_wp2_with fail
  refine (parts_any xs _ c l1 l5 _ e1 HC.out HM.out).mono ?_
  rintro e w2 ⟨rfl, b2⟩
  have r2 := r1.below b2 r1.inside
  have v2 := v1.trans (b2.mono v1.size)
  have e2 : Env w2 := HE.out.below v2
  clear b2 r1 v1 e1 HC hlt
  have HB := HP.out
  rw [HB]
  clear HB
  generalize ppV xs = J at HI ⊢
  have hq : w.heap.size < w2.heap.size := r2.inside
  obtain ⟨rr0, rr1, rr2, rr3, rr4, rrf0, rrf1, rrf2, rrf3, rrf4⟩ := facts5' r2
  go_wp2_with fail
  exact bodyPost_ret (v := .tuple #[.agg #[.int .u32 T0.e, .int .i64 T0.d, .int .u32 T0.a, .int .u32 T0.b, .int .u32 T0.c], .int .i64 6]) (by obtain ⟨z0, z1, z2, z3, z4, -⟩ := facts5' ((five' r2 (.int .u32 0) (.int .i64 0) (.int .u32 0) (.int .u32 0) (.int .u32 0)).alloc (.cells #[.int .u32 J.e, .int .i64 J.d, .int .u32 J.a, .int .u32 J.b, .int .u32 J.c] 25)); simp [results, Tryd.results11, go_sem, z0, z1, z2, z3, z4, T0]) rfl ⟨rfl, below_put v2 (Nat.le_refl _) _ _ _ _ _ _⟩
set_option maxRecDepth 100000 in
set_option maxHeartbeats 2000000 in
theorem parse_bad (s : List UInt8) (hs : s.length ≤ 5000) (w : World) (hE : Env w) (h : ppB (cut s) = true) (k : chk (ppV (cut s)) ≠ 0) : Calls Tryd.prog 11 #[.string ⟨s.toArray⟩] w fun e w' => e = .returned (.tuple #[.agg #[.int .u32 T0.e, .int .i64 T0.d, .int .u32 T0.a, .int .u32 T0.b, .int .u32 T0.c], .int .i64 6]) ∧ Below w.heap.size w w' := by
  have HE := Lib.hid hE
  have HS := Lib.hid (split_any s hs)
  obtain ⟨l5, l1⟩ := cut_len s
  have HM := Lib.hid (fun x (h : x ∈ cut s) => Nat.le_trans (cut_mem h) hs)
  have HI := Lib.hid (ppV_in (cut s))
  have HP := Lib.hid h
  have HK := Lib.hid k
  clear h k
  generalize cut s = xs at *
  clear hE
  go_enter Tryd.func11, Tryd.ntmps11
  go_wp2_with fail
  refine (HS.out _ (by exact HE.out.below (fresh1 _ _))).mono ?_
  rintro e w1 ⟨c, rfl, b1, hlt, hcells⟩
  have r1 : Whole w1 w.heap.size 25 #[.int .u32 0, .int .i64 0, .int .u32 0, .int .u32 0, .int .u32 0] := (Whole.fresh w 25 _).below b1 (by simp)
  have v1 := over1 b1
  have e1 : Env w1 := HE.out.below v1
  rw [World.size_alloc] at hcells
  have HC := Lib.hid hcells
  clear b1 hcells
  go_wp2_with fail
  refine (parts_any xs _ c l1 l5 _ e1 HC.out HM.out).mono ?_
  rintro e w2 ⟨rfl, b2⟩
  have r2 := r1.below b2 r1.inside
  have v2 := v1.trans (b2.mono v1.size)
  have e2 : Env w2 := HE.out.below v2
  clear b2 r1 v1 e1 HC hlt
  have HB := HP.out
  rw [HB]
  clear HB
  generalize ppV xs = J at HI HK ⊢
  have hq : w.heap.size < w2.heap.size := r2.inside
  obtain ⟨rr0, rr1, rr2, rr3, rr4, rrf0, rrf1, rrf2, rrf3, rrf4⟩ := facts5' r2
  go_wp2_with fail
  refine (text_any J HI.out _ (by exact e2.below (fresh1 _ _))).mono ?_
  rintro e w3 ⟨rfl, b3⟩
  have r3 : Whole w3 w.heap.size 25 #[.int .u32 0, .int .i64 0, .int .u32 0, .int .u32 0, .int .u32 0] := (r2.alloc _).below b3 (by simp; omega)
  have t3 : Whole w3 w2.heap.size 25 #[.int .u32 J.e, .int .i64 J.d, .int .u32 J.a, .int .u32 J.b, .int .u32 J.c] := (Whole.fresh w2 25 _).below b3 (by simp)
  have v3 := v2.trans ((over1 b3).mono v2.size)
  clear rr0 rr1 rr2 rr3 rr4 rrf0 rrf1 rrf2 rrf3 rrf4
  generalize w2.heap.size = p at hq t3
  have x1 : ¬ w.heap.size = p := by omega
  have x2 : ¬ p = w.heap.size := by omega
  clear b3
  obtain ⟨rr0, rr1, rr2, rr3, rr4, rrf0, rrf1, rrf2, rrf3, rrf4⟩ := facts5' r3
  obtain ⟨tt0, tt1, tt2, tt3, tt4, ttf0, ttf1, ttf2, ttf3, ttf4⟩ := facts5' t3
  have hk : (chk J != 0) = true := by have := HK.out; simpa using this
  go_wp2_with fail
  exact bodyPost_ret (v := .tuple #[.agg #[.int .u32 T0.e, .int .i64 T0.d, .int .u32 T0.a, .int .u32 T0.b, .int .u32 T0.c], .int .i64 6]) (by obtain ⟨z0, z1, z2, z3, z4, -⟩ := facts5' (five' r3 (.int .u32 0) (.int .i64 0) (.int .u32 0) (.int .u32 0) (.int .u32 0)); simp [results, Tryd.results11, go_sem, z0, z1, z2, z3, z4, T0]) rfl ⟨rfl, below5 v3 (Nat.le_refl _) _ _ _ _ _⟩
set_option maxRecDepth 100000 in
set_option maxHeartbeats 2000000 in
theorem parse_other (s : List UInt8) (hs : s.length ≤ 5000) (w : World) (hE : Env w) (h : ppB (cut s) = true) (k : chk (ppV (cut s)) = 0) (n : txtL (ppV (cut s)) ≠ s) : Calls Tryd.prog 11 #[.string ⟨s.toArray⟩] w fun e w' => e = .returned (.tuple #[.agg #[.int .u32 T0.e, .int .i64 T0.d, .int .u32 T0.a, .int .u32 T0.b, .int .u32 T0.c], .int .i64 6]) ∧ Below w.heap.size w w' := by
  have HE := Lib.hid hE
  have HS := Lib.hid (split_any s hs)
  obtain ⟨l5, l1⟩ := cut_len s
  have HM := Lib.hid (fun x (h : x ∈ cut s) => Nat.le_trans (cut_mem h) hs)
  have HI := Lib.hid (ppV_in (cut s))
  have HP := Lib.hid h
  have HK := Lib.hid k
  have HN := Lib.hid n
  clear h k n
  generalize cut s = xs at *
  clear hE
  go_enter Tryd.func11, Tryd.ntmps11
  go_wp2_with fail
  refine (HS.out _ (by exact HE.out.below (fresh1 _ _))).mono ?_
  rintro e w1 ⟨c, rfl, b1, hlt, hcells⟩
  have r1 : Whole w1 w.heap.size 25 #[.int .u32 0, .int .i64 0, .int .u32 0, .int .u32 0, .int .u32 0] := (Whole.fresh w 25 _).below b1 (by simp)
  have v1 := over1 b1
  have e1 : Env w1 := HE.out.below v1
  rw [World.size_alloc] at hcells
  have HC := Lib.hid hcells
  clear b1 hcells
  go_wp2_with fail
  refine (parts_any xs _ c l1 l5 _ e1 HC.out HM.out).mono ?_
  rintro e w2 ⟨rfl, b2⟩
  have r2 := r1.below b2 r1.inside
  have v2 := v1.trans (b2.mono v1.size)
  have e2 : Env w2 := HE.out.below v2
  clear b2 r1 v1 e1 HC hlt
  have HB := HP.out
  rw [HB]
  clear HB
  generalize ppV xs = J at HI HK HN ⊢
  have hq : w.heap.size < w2.heap.size := r2.inside
  obtain ⟨rr0, rr1, rr2, rr3, rr4, rrf0, rrf1, rrf2, rrf3, rrf4⟩ := facts5' r2
  go_wp2_with fail
  refine (text_any J HI.out _ (by exact e2.below (fresh1 _ _))).mono ?_
  rintro e w3 ⟨rfl, b3⟩
  have r3 : Whole w3 w.heap.size 25 #[.int .u32 0, .int .i64 0, .int .u32 0, .int .u32 0, .int .u32 0] := (r2.alloc _).below b3 (by simp; omega)
  have t3 : Whole w3 w2.heap.size 25 #[.int .u32 J.e, .int .i64 J.d, .int .u32 J.a, .int .u32 J.b, .int .u32 J.c] := (Whole.fresh w2 25 _).below b3 (by simp)
  have v3 := v2.trans ((over1 b3).mono v2.size)
  clear rr0 rr1 rr2 rr3 rr4 rrf0 rrf1 rrf2 rrf3 rrf4
  generalize w2.heap.size = p at hq t3
  have x1 : ¬ w.heap.size = p := by omega
  have x2 : ¬ p = w.heap.size := by omega
  clear b3
  obtain ⟨rr0, rr1, rr2, rr3, rr4, rrf0, rrf1, rrf2, rrf3, rrf4⟩ := facts5' r3
  obtain ⟨tt0, tt1, tt2, tt3, tt4, ttf0, ttf1, ttf2, ttf3, ttf4⟩ := facts5' t3
  have hv : txtV J = txtL J := by simp [txtV, HK.out]
  rw [HK.out, hv]
  clear hv
  have hne : (txtL J == s) = false := by have := HN.out; simpa using this
  go_wp2_with fail
  exact bodyPost_ret (v := .tuple #[.agg #[.int .u32 T0.e, .int .i64 T0.d, .int .u32 T0.a, .int .u32 T0.b, .int .u32 T0.c], .int .i64 6]) (by obtain ⟨z0, z1, z2, z3, z4, -⟩ := facts5' (five' r3 (.int .u32 0) (.int .i64 0) (.int .u32 0) (.int .u32 0) (.int .u32 0)); simp [results, Tryd.results11, go_sem, z0, z1, z2, z3, z4, T0]) rfl ⟨rfl, below5 v3 (Nat.le_refl _) _ _ _ _ _⟩
set_option maxRecDepth 100000 in
set_option maxHeartbeats 2000000 in
theorem parse_good (s : List UInt8) (hs : s.length ≤ 5000) (w : World) (hE : Env w) (h : ppB (cut s) = true) (k : chk (ppV (cut s)) = 0) (n : txtL (ppV (cut s)) = s) : Calls Tryd.prog 11 #[.string ⟨s.toArray⟩] w fun e w' => e = .returned (.tuple #[.agg #[.int .u32 (ppV (cut s)).e, .int .i64 (ppV (cut s)).d, .int .u32 (ppV (cut s)).a, .int .u32 (ppV (cut s)).b, .int .u32 (ppV (cut s)).c], .int .i64 0]) ∧ Below w.heap.size w w' := by
  have HE := Lib.hid hE
  have HS := Lib.hid (split_any s hs)
  obtain ⟨l5, l1⟩ := cut_len s
  have HM := Lib.hid (fun x (h : x ∈ cut s) => Nat.le_trans (cut_mem h) hs)
  have HI := Lib.hid (ppV_in (cut s))
  have HP := Lib.hid h
  have HK := Lib.hid k
  have HN := Lib.hid n
  have HJ := Lib.hid (rfl : ppV (cut s) = ppV (cut s))
  clear h k n
  generalize cut s = xs at *
  clear hE
  go_enter Tryd.func11, Tryd.ntmps11
  go_wp2_with fail
  refine (HS.out _ (by exact HE.out.below (fresh1 _ _))).mono ?_
  rintro e w1 ⟨c, rfl, b1, hlt, hcells⟩
  have r1 : Whole w1 w.heap.size 25 #[.int .u32 0, .int .i64 0, .int .u32 0, .int .u32 0, .int .u32 0] := (Whole.fresh w 25 _).below b1 (by simp)
  have v1 := over1 b1
  have e1 : Env w1 := HE.out.below v1
  rw [World.size_alloc] at hcells
  have HC := Lib.hid hcells
  clear b1 hcells
  go_wp2_with fail
  refine (parts_any xs _ c l1 l5 _ e1 HC.out HM.out).mono ?_
  rintro e w2 ⟨rfl, b2⟩
  have r2 := r1.below b2 r1.inside
  have v2 := v1.trans (b2.mono v1.size)
  have e2 : Env w2 := HE.out.below v2
  clear b2 r1 v1 e1 HC hlt
  have HB := HP.out
  rw [HB]
  clear HB
  generalize hJ : ppV xs = J at HI HK HN ⊢
  have HJ2 := Lib.hid hJ
  clear hJ
  have hq : w.heap.size < w2.heap.size := r2.inside
  obtain ⟨rr0, rr1, rr2, rr3, rr4, rrf0, rrf1, rrf2, rrf3, rrf4⟩ := facts5' r2
  go_wp2_with fail
  refine (text_any J HI.out _ (by exact e2.below (fresh1 _ _))).mono ?_
  rintro e w3 ⟨rfl, b3⟩
  have r3 : Whole w3 w.heap.size 25 #[.int .u32 0, .int .i64 0, .int .u32 0, .int .u32 0, .int .u32 0] := (r2.alloc _).below b3 (by simp; omega)
  have t3 : Whole w3 w2.heap.size 25 #[.int .u32 J.e, .int .i64 J.d, .int .u32 J.a, .int .u32 J.b, .int .u32 J.c] := (Whole.fresh w2 25 _).below b3 (by simp)
  have v3 := v2.trans ((over1 b3).mono v2.size)
  clear rr0 rr1 rr2 rr3 rr4 rrf0 rrf1 rrf2 rrf3 rrf4
  generalize w2.heap.size = p at hq t3
  have x1 : ¬ w.heap.size = p := by omega
  have x2 : ¬ p = w.heap.size := by omega
  clear b3
  obtain ⟨rr0, rr1, rr2, rr3, rr4, rrf0, rrf1, rrf2, rrf3, rrf4⟩ := facts5' r3
  obtain ⟨tt0, tt1, tt2, tt3, tt4, ttf0, ttf1, ttf2, ttf3, ttf4⟩ := facts5' t3
  have hv : txtV J = s := by simp [txtV, HK.out, HN.out]
  rw [HK.out, hv]
  clear hv
  go_wp2_with fail
  exact bodyPost_ret (v := .tuple #[.agg #[.int .u32 J.e, .int .i64 J.d, .int .u32 J.a, .int .u32 J.b, .int .u32 J.c], .int .i64 0]) (by obtain ⟨z0, z1, z2, z3, z4, -⟩ := facts5' (five' r3 (.int .u32 J.e) (.int .i64 J.d) (.int .u32 J.a) (.int .u32 J.b) (.int .u32 J.c)); simp [results, Tryd.results11, go_sem, z0, z1, z2, z3, z4]) rfl ⟨by rw [HJ2.out], below5 v3 (Nat.le_refl _) _ _ _ _ _⟩
theorem parse_any (s : List UInt8) (hs : s.length ≤ 5000) (w : World) (hE : Env w) : Calls Tryd.prog 11 #[.string ⟨s.toArray⟩] w fun e w' => e = .returned (.tuple #[.agg #[.int .u32 (parseV s).e, .int .i64 (parseV s).d, .int .u32 (parseV s).a, .int .u32 (parseV s).b, .int .u32 (parseV s).c], .int .i64 (parseE s)]) ∧ Below w.heap.size w w' := by
  by_cases hi : isTxt s
  · rw [show parseV s = ppV (cut s) by unfold parseV; rw [if_pos hi], show parseE s = 0 by unfold parseE; rw [if_pos hi]]
    exact parse_good s hs w hE hi.1 hi.2.1 hi.2.2
  · rw [show parseV s = T0 by unfold parseV; rw [if_neg hi], show parseE s = 6 by unfold parseE; rw [if_neg hi]]
    by_cases h : ppB (cut s) = true
    · by_cases k : chk (ppV (cut s)) = 0
      · exact parse_other s hs w hE h k (fun n => hi ⟨h, k, n⟩)
      · exact parse_bad s hs w hE h k
    · exact parse_no s hs w hE (by simpa using h)
end Go.Proofs.YtilkdpobkcocoaaDoor.stamp
