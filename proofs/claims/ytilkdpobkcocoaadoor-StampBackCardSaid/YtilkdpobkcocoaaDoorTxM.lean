/-
  A time's writing is read as that time: the parts of a writing, and the numbers that they spell; the reading in one pass, by a place and five numbers; and a time's bytes.
-/
import Derived.Test.YtilkdpobkcocoaaDoorParse
import Derived.Test.YtilkdpobkcocoaaDoorRead
import Derived.Test.YtilkdpobkcocoaaDoorMath
import Derived.Lib.IndexBytes
namespace Go.Proofs.YtilkdpobkcocoaaDoor.stamp
open Go.ChangeShapes Go.WideShapes Go.ChangeAt Go.RowKit
open Go.Proofs.YtilkdpobkcocoaaDoor.tm Go.Proofs.YtilkdpobkcocoaaDoor.opened Go.Proofs.YtilkdpobkcocoaaDoor.block Go.Proofs.YtilkdpobkcocoaaDoor.enc Go.Proofs.YtilkdpobkcocoaaDoor.code

/-! ### Digits -/
theorem u8_of {n : Nat} (h : n < 256) : (UInt8.ofNat n).toNat = n := by simp; omega
theorem dig_mem : ∀ (u : Nat) (c : UInt8), c ∈ Lib.decDigits u → 48 ≤ c.toNat ∧ c.toNat ≤ 57 := by
  intro u
  induction u using Nat.strongRecOn with
  | _ u ih =>
    intro c hc
    by_cases h : u < 10
    · rw [Lib.decDigits_one h, List.mem_singleton] at hc
      subst hc
      rw [u8_of (by omega)]
      omega
    · rw [Lib.decDigits, dif_neg h] at hc
      rcases List.mem_append.1 hc with hc | hc
      · exact ih (u / 10) (by omega) c hc
      · rw [List.mem_singleton] at hc
        subst hc
        rw [u8_of (by omega)]
        omega
theorem dig_dot {u : Nat} {c : UInt8} (h : c ∈ Lib.decDigits u) : c ≠ 46 := by
  intro e
  have := dig_mem u c h
  rw [e] at this
  exact absurd this.1 (by decide)
/-! ### The parts of a writing -/
theorem ib_no : ∀ {x : List UInt8}, (∀ c ∈ x, c ≠ 46) → Lib.indexByte x 46 = -1
  | [], _ => rfl
  | b :: r, h => by
    have hb : (b == 46) = false := by simpa using h b (by simp)
    have ih := ib_no (x := r) (fun c hc => h c (by simp [hc]))
    simp [Lib.indexByte, hb, ih]
theorem ib_at : ∀ {x r : List UInt8}, (∀ c ∈ x, c ≠ 46) → Lib.indexByte (x ++ 46 :: r) 46 = (x.length : Int)
  | [], r, _ => by simp [Lib.indexByte]
  | b :: x, r, h => by
    have hb : (b == 46) = false := by simpa using h b (by simp)
    have ih := ib_at (x := x) (r := r) (fun c hc => h c (by simp [hc]))
    have hn : ((x.length : Int) == -1) = false := by rw [beq_eq_false_iff_ne]; omega
    simp [Lib.indexByte, hb, ih, hn]
theorem splitK_join : ∀ (k : Nat) (x : List UInt8) (r : List (List UInt8)), r.length ≤ k → (∀ y ∈ x :: r, ∀ c ∈ y, c ≠ 46) → Lib.splitK [46] 0 k (x ++ Lib.joinTail [46] r) = x :: r
  | 0, x, r, hk, _ => by
    obtain rfl : r = [] := List.length_eq_zero_iff.1 (by omega)
    simp [Lib.joinTail, Lib.splitK]
  | k + 1, x, [], _, h => by
    have h0 : Lib.index x [46] = -1 := by rw [Lib.index_one]; exact ib_no (h x (by simp))
    simp [Lib.joinTail, Lib.splitK, h0]
  | k + 1, x, y :: r, hk, h => by
    have e : x ++ Lib.joinTail [46] (y :: r) = x ++ 46 :: (y ++ Lib.joinTail [46] r) := by simp [Lib.joinTail]
    have h0 : Lib.index (x ++ 46 :: (y ++ Lib.joinTail [46] r)) [46] = (x.length : Int) := by rw [Lib.index_one]; exact ib_at (h x (by simp))
    have hn : ((x.length : Int) == -1) = false := by rw [beq_eq_false_iff_ne]; omega
    rw [e, Lib.splitK, h0, hn]
    have ih := splitK_join k y r (by simpa using hk) (fun z hz => h z (List.mem_cons_of_mem _ hz))
    rw [if_neg (by simp), show ((x.length : Int)).toNat = x.length from rfl]
    simp [ih]
theorem joinTail_len (r : List (List UInt8)) : r.length ≤ (Lib.joinTail [46] r).length := by
  induction r with
  | nil => simp
  | cons y r ih =>
    have : Lib.joinTail [46] (y :: r) = 46 :: (y ++ Lib.joinTail [46] r) := by simp [Lib.joinTail]
    rw [this]
    simp
    omega
theorem cnt_form (t : Tm) (h0 : 0 ≤ t.d) (h1 : t.d ≤ 3) : ∃ r, cnt t = t.e :: r ∧ r.length ≤ 3 ∧ ((cnt t).length : Int) - 1 = t.d := by
  unfold cnt
  split
  · exact ⟨[], rfl, by simp, by simp; omega⟩
  · split
    · exact ⟨_, rfl, by simp, by simp; omega⟩
    · split
      · exact ⟨_, rfl, by simp, by simp; omega⟩
      · exact ⟨_, rfl, by simp, by simp; omega⟩
theorem cut_txt {t : Tm} (h : chk t = 0) : cut (txtL t) = (cnt t).map decI := by
  obtain ⟨z0, z1, -⟩ := chk_zero h
  obtain ⟨r, hr, hl, -⟩ := cnt_form t z0 z1
  unfold cut Lib.splitN txtL
  rw [hr, List.map_cons, Lib.join_cons]
  have hj := joinTail_len (r.map decI)
  rw [List.length_map] at hj
  refine splitK_join _ _ _ ?_ ?_
  · rw [List.length_map, List.length_append]
    omega
  · intro y hy c hc
    rw [← List.map_cons] at hy
    obtain ⟨v, -, rfl⟩ := List.mem_map.1 hy
    exact dig_dot hc
/-! ### The numbers that they spell -/
theorem pm_dig : ∀ (u : Nat), u ≤ 4294967295 → ∀ l, Lib.parseUintM 4294967295 0 (Lib.decDigits u ++ l) = Lib.parseUintM 4294967295 u l := by
  intro u
  induction u using Nat.strongRecOn with
  | _ u ih =>
    intro hu l
    by_cases h : u < 10
    · rw [Lib.decDigits_one h]
      have e := u8_of (n := 48 + u) (by omega)
      simp only [List.cons_append, List.nil_append, Lib.parseUintM, e]
      rw [if_pos (by omega), if_neg (by omega), if_neg (by omega), show 0 * 10 + (48 + u - 48) = u by omega]
    · rw [Lib.decDigits, dif_neg h, List.append_assoc, ih (u / 10) (by omega) (by omega)]
      have e := u8_of (n := 48 + u % 10) (by omega)
      simp only [List.cons_append, List.nil_append, Lib.parseUintM, e]
      rw [if_pos (by omega), if_neg (by omega), if_neg (by omega), show u / 10 * 10 + (48 + u % 10 - 48) = u by omega]
theorem dec_pos (u : Nat) : Lib.decDigits u ≠ [] := by
  intro e
  have := Lib.decDigits_length u
  have h := Lib.nDigits_pos u
  rw [e] at this
  simp at this
  omega
theorem pv_dec (u : Nat) (h : u ≤ 4294967295) : pv (Lib.decDigits u) = some u := by
  have e := pm_dig u h []
  rw [List.append_nil] at e
  have k : Lib.parseUintB 32 (Lib.decDigits u) = .ok u := by
    unfold Lib.parseUintB
    rw [if_neg (dec_pos u), show (2 : Nat) ^ 32 - 1 = 4294967295 by decide, e]
    rfl
  unfold pv
  rw [k]
theorem vals_dec : ∀ (l : List Int), (∀ x ∈ l, 0 ≤ x ∧ x ≤ 4294967295) → vals (l.map decI) = some l
  | [], _ => rfl
  | x :: r, h => by
    obtain ⟨h0, h1⟩ := h x (by simp)
    have ih := vals_dec r (fun y hy => h y (by simp [hy]))
    have e : pv (decI x) = some x.toNat := pv_dec x.toNat (by omega)
    rw [List.map_cons]
    unfold vals
    rw [e, ih]
    simp only [Option.some.injEq, List.cons.injEq, and_true]
    omega
theorem ptm_cnt {t : Tm} (h : chk t = 0) : ptm t.d (cnt t) = t := by
  obtain ⟨z0, z1, -, -, -, -, za, zb, zc⟩ := chk_zero h
  obtain ⟨e, d, a, b, c⟩ := t
  dsimp only at *
  have hk : d = 0 ∨ d = 1 ∨ d = 2 ∨ d = 3 := by omega
  clear h
  rcases hk with rfl | rfl | rfl | rfl <;> simp [ptm, cnt] <;> omega
theorem parse_txt {t : Tm} (i : t.In) (h : chk t = 0) : isTxt (txtL t) ∧ ppV (cut (txtL t)) = t := by
  obtain ⟨z0, z1, -⟩ := chk_zero h
  obtain ⟨r, hr, hl, hd⟩ := cnt_form t z0 z1
  have hv := vals_dec (cnt t) (cnt_in i)
  have h4 : ((cnt t).map decI).length ≤ 4 := by rw [hr]; simp; omega
  have e : ppV (cut (txtL t)) = t := by
    rw [cut_txt h, ppV_some h4 hv, List.length_map, hd]
    exact ptm_cnt h
  refine ⟨⟨?_, ?_, ?_⟩, e⟩
  · rw [cut_txt h]; exact ppB_some h4 hv
  · rw [e]; exact h
  · rw [e]
theorem parseV_txt {t : Tm} (i : t.In) (h : chk t = 0) : parseV (txtL t) = t ∧ parseE (txtL t) = 0 := by
  obtain ⟨a, b⟩ := parse_txt i h
  unfold parseV parseE
  rw [if_pos a, if_pos a]
  exact ⟨b, rfl⟩
/-! ### The reading in one pass -/
def upd (n : Nat → Nat) (k v : Nat) : Nat → Nat := fun j => if j = k then v else n j
def scan : List UInt8 → Nat → (Nat → Nat) → Option (Nat × (Nat → Nat))
  | [], k, n => some (k, n)
  | c :: r, k, n =>
    if c.toNat = 46 ∧ k < 4 then scan r (k + 1) n
    else if 48 ≤ c.toNat ∧ c.toNat ≤ 57 then scan r k (upd n k (min (n k * 10 + (c.toNat - 48)) 1073741824))
    else none
def scT (k : Nat) (n : Nat → Nat) : Tm := ⟨n 0, k, n 1, n 2, n 3⟩
def isScan (s : List UInt8) : Prop := ∃ k n, scan (s.take 40) 0 (fun _ => 0) = some (k, n) ∧ k ≤ 3 ∧ chk (scT k n) = 0 ∧ txtL (scT k n) = s
theorem upd_upd (n : Nat → Nat) (k a b : Nat) : upd (upd n k a) k b = upd n k b := by
  funext j
  unfold upd
  split <;> rfl
theorem upd_at (n : Nat → Nat) (k a : Nat) : upd n k a k = a := by simp [upd]
theorem scan_dig {c : UInt8} (h0 : 48 ≤ c.toNat) (h1 : c.toNat ≤ 57) (r : List UInt8) (k : Nat) (n : Nat → Nat) : scan (c :: r) k n = scan r k (upd n k (min (n k * 10 + (c.toNat - 48)) 1073741824)) := by
  rw [scan, if_neg (by omega), if_pos ⟨h0, h1⟩]
theorem scan_dec : ∀ (u : Nat), u ≤ 1048576 → ∀ (l : List UInt8) (k : Nat) (n : Nat → Nat), n k = 0 → scan (Lib.decDigits u ++ l) k n = scan l k (upd n k u) := by
  intro u
  induction u using Nat.strongRecOn with
  | _ u ih =>
    intro hu l k n hn
    by_cases h : u < 10
    · have e := u8_of (n := 48 + u) (by omega)
      rw [Lib.decDigits_one h, List.cons_append, List.nil_append, scan_dig (by omega) (by omega), e, hn, show min (0 * 10 + (48 + u - 48)) 1073741824 = u by omega]
    · have e := u8_of (n := 48 + u % 10) (by omega)
      rw [Lib.decDigits, dif_neg h, List.append_assoc, ih (u / 10) (by omega) (by omega) _ _ _ hn, List.cons_append, List.nil_append, scan_dig (by omega) (by omega), e, upd_at, upd_upd,
        show min (u / 10 * 10 + (48 + u % 10 - 48)) 1073741824 = u by omega]
theorem scan_dot (l : List UInt8) {k : Nat} (hk : k < 4) (n : Nat → Nat) : scan ([46] ++ l) k n = scan l (k + 1) n := by
  show scan (46 :: l) k n = _
  rw [scan, if_pos ⟨rfl, hk⟩]
theorem scan_i {x : Int} (h0 : 0 ≤ x) (h1 : x ≤ 1048576) (l : List UInt8) (k : Nat) (n : Nat → Nat) (hn : n k = 0) : scan (decI x ++ l) k n = scan l k (upd n k x.toNat) := scan_dec _ (by omega) l k n hn
theorem len_dec7 {x : Int} (h : x ≤ 1048576) : (decI x).length ≤ 7 := by
  unfold decI
  rw [Lib.decDigits_length]
  exact nDigits_le 6 _ (by omega)
theorem scan_txt {t : Tm} (i : t.In) (h : chk t = 0) : ∃ k n, scan ((txtL t).take 40) 0 (fun _ => 0) = some (k, n) ∧ k ≤ 3 ∧ scT k n = t := by
  obtain ⟨z0, z1, ze, za, zb, zc, ya, yb, yc⟩ := chk_zero h
  have e0 := i.e0
  have a0 := i.a0
  have b0 := i.b0
  have c0 := i.c0
  have l1 := len_dec7 ze
  have l2 := len_dec7 za
  have l3 := len_dec7 zb
  have l4 := len_dec7 zc
  rw [← txtp_all z0 z1]
  have hl : (txtp t t.d.toNat).length ≤ 40 := by
    unfold txtp
    split <;> (try simp only [List.length_append, List.length_cons, List.length_nil]) <;> omega
  rw [List.take_of_length_le hl]
  obtain ⟨e, d, a, b, c⟩ := t
  dsimp only at *
  clear h i hl
  have hk : d = 0 ∨ d = 1 ∨ d = 2 ∨ d = 3 := by omega
  rcases hk with rfl | rfl | rfl | rfl
  · refine ⟨0, (upd (fun _ => 0) 0 e.toNat), ?_, by omega, ?_⟩
    · show scan (decI e) 0 _ = _
      rw [← List.append_nil (decI e), scan_i e0 ze _ _ _ rfl]
      rfl
    · simp [scT, upd]
      omega
  · refine ⟨1, (upd (upd (fun _ => 0) 0 e.toNat) 1 a.toNat), ?_, by omega, ?_⟩
    · show scan (decI e ++ [46] ++ decI a) 0 _ = _
      rw [← List.append_nil (decI a)]
      simp only [List.append_assoc]
      rw [scan_i e0 ze _ _ _ rfl, scan_dot _ (by omega), scan_i a0 za _ _ _ (by simp [upd])]
      rfl
    · simp [scT, upd]
      omega
  · refine ⟨2, (upd (upd (upd (fun _ => 0) 0 e.toNat) 1 a.toNat) 2 b.toNat), ?_, by omega, ?_⟩
    · show scan (decI e ++ [46] ++ decI a ++ [46] ++ decI b) 0 _ = _
      rw [← List.append_nil (decI b)]
      simp only [List.append_assoc]
      rw [scan_i e0 ze _ _ _ rfl, scan_dot _ (by omega), scan_i a0 za _ _ _ (by simp [upd]), scan_dot _ (by omega), scan_i b0 zb _ _ _ (by simp [upd])]
      rfl
    · simp [scT, upd]
      omega
  · refine ⟨3, (upd (upd (upd (upd (fun _ => 0) 0 e.toNat) 1 a.toNat) 2 b.toNat) 3 c.toNat), ?_, by omega, ?_⟩
    · show scan (decI e ++ [46] ++ decI a ++ [46] ++ decI b ++ [46] ++ decI c) 0 _ = _
      rw [← List.append_nil (decI c)]
      simp only [List.append_assoc]
      rw [scan_i e0 ze _ _ _ rfl, scan_dot _ (by omega), scan_i a0 za _ _ _ (by simp [upd]), scan_dot _ (by omega), scan_i b0 zb _ _ _ (by simp [upd]), scan_dot _ (by omega), scan_i c0 zc _ _ _ (by simp [upd])]
      rfl
    · simp [scT, upd]
      omega
theorem scT_in {k : Nat} {n : Nat → Nat} (hn : ∀ j, n j ≤ 1073741824) (hk : k ≤ 4) : (scT k n).In := by
  have h0 := hn 0
  have h1 := hn 1
  have h2 := hn 2
  have h3 := hn 3
  constructor <;> simp only [scT] <;> omega
theorem scan_le : ∀ (s : List UInt8) (k : Nat) (n : Nat → Nat) (k' : Nat) (n' : Nat → Nat), scan s k n = some (k', n') → (∀ j, n j ≤ 1073741824) → k ≤ 4 → (∀ j, n' j ≤ 1073741824) ∧ k' ≤ 4
  | [], k, n, k', n', h, hn, hk => by
    simp [scan] at h
    obtain ⟨rfl, rfl⟩ := h
    exact ⟨hn, hk⟩
  | c :: r, k, n, k', n', h, hn, hk => by
    rw [scan] at h
    split at h
    · exact scan_le r _ _ _ _ h hn (by omega)
    · split at h
      · refine scan_le r _ _ _ _ h (fun j => ?_) hk
        unfold upd
        split
        · exact Nat.min_le_right _ _
        · exact hn j
      · cases h
/-- The reading in one pass reads the same times. -/
theorem scan_parse {s : List UInt8} : isTxt s ↔ isScan s := by
  constructor
  · rintro ⟨h1, h2, h3⟩
    obtain ⟨k, n, a, b, c⟩ := scan_txt (ppV_in (cut s)) h2
    rw [h3] at a
    exact ⟨k, n, a, b, by rw [c]; exact h2, by rw [c]; exact h3⟩
  · rintro ⟨k, n, a, b, c, d⟩
    obtain ⟨hn, -⟩ := scan_le _ _ _ _ _ a (fun _ => by omega) (by omega)
    have p := parse_txt (scT_in hn (by omega)) c
    rw [d] at p
    exact p.1
theorem scan_val {s : List UInt8} {k : Nat} {n : Nat → Nat} (a : scan (s.take 40) 0 (fun _ => 0) = some (k, n)) (b : k ≤ 3) (c : chk (scT k n) = 0) (d : txtL (scT k n) = s) : parseV s = scT k n ∧ parseE s = 0 := by
  obtain ⟨hn, -⟩ := scan_le _ _ _ _ _ a (fun _ => by omega) (by omega)
  have p := parseV_txt (scT_in hn (by omega)) c
  rwa [d] at p
theorem scan_no {s : List UInt8} (h : ∀ k n, scan (s.take 40) 0 (fun _ => 0) = some (k, n) → ¬ (k ≤ 3 ∧ chk (scT k n) = 0 ∧ txtL (scT k n) = s)) : parseV s = T0 ∧ parseE s = 6 := by
  have hn : ¬ isTxt s := fun e => by
    obtain ⟨k, n, a, b⟩ := scan_parse.1 e
    exact h k n a b
  unfold parseV parseE
  rw [if_neg hn, if_neg hn]
  exact ⟨rfl, rfl⟩
/-! ### A time's bytes -/
theorem nx_enc {x m : Int} (h0 : 0 ≤ x) (h1 : x ≤ m) (hm : m ≤ 4294967295) (r : List UInt8) : nx (encI x ++ r, 0) m = (x, r, 0) := by
  have e : rNum (encI x ++ r) 0 = (x, (encI x).length, 0) := by
    unfold rNum encI
    rw [if_pos rfl]
    rw [dec_enc (by omega)]
    simp
    omega
  unfold nx rInt
  simp only [e, if_true]
  rw [if_neg (by omega)]
  simp
theorem encs_cons (x : Int) (l : List Int) : encs (x :: l) = encI x ++ encs l := rfl
theorem read_wrt {t : Tm} (i : t.In) (h : chk t = 0) (r : List UInt8) : rdS (wrtL t ++ r, 0) = (t, r, 0) := by
  obtain ⟨z0, z1, ze, za, zb, zc, ya, yb, yc⟩ := chk_zero h
  have e0 := i.e0
  have a0 := i.a0
  have b0 := i.b0
  have c0 := i.c0
  obtain ⟨e, d, a, b, c⟩ := t
  dsimp only at *
  clear h i
  have n0 : ∀ r', nx (encI d ++ (encI e ++ r'), 0) 3 = (d, encI e ++ r', 0) := fun r' => nx_enc z0 z1 (by omega) _
  have n1 : ∀ r', nx (encI e ++ r', 0) 1048576 = (e, r', 0) := fun r' => nx_enc e0 ze (by omega) _
  have n2 : ∀ r', nx (encI a ++ r', 0) 1048576 = (a, r', 0) := fun r' => nx_enc a0 za (by omega) _
  have n3 : ∀ r', nx (encI b ++ r', 0) 1048576 = (b, r', 0) := fun r' => nx_enc b0 zb (by omega) _
  have n4 : ∀ r', nx (encI c ++ r', 0) 1048576 = (c, r', 0) := fun r' => nx_enc c0 zc (by omega) _
  have s0 : ∀ r', st0 (encI d ++ (encI e ++ r'), 0) = (⟨e, d, 0, 0, 0⟩, r', 0) := fun r' => by unfold st0; rw [n0]; dsimp only; rw [n1]
  have hk : d = 0 ∨ d = 1 ∨ d = 2 ∨ d = 3 := by omega
  rcases hk with rfl | rfl | rfl | rfl
  · have w : wrtL ⟨e, 0, a, b, c⟩ ++ r = encI 0 ++ (encI e ++ r) := by simp [wrtL, cnt, encs]
    rw [w, rdS, n0]
    show stt _ 0 = _
    rw [stt, s0, ya (by omega), yb (by omega), yc (by omega)]
  · have w : wrtL ⟨e, 1, a, b, c⟩ ++ r = encI 1 ++ (encI e ++ (encI a ++ r)) := by simp [wrtL, cnt, encs]
    rw [w, rdS, n0]
    show stt _ 1 = _
    rw [stt, st1, s0]
    dsimp only
    rw [n2, yb (by omega), yc (by omega)]
  · have w : wrtL ⟨e, 2, a, b, c⟩ ++ r = encI 2 ++ (encI e ++ (encI a ++ (encI b ++ r))) := by simp [wrtL, cnt, encs]
    rw [w, rdS, n0]
    show stt _ 2 = _
    rw [stt, st2, st1, s0]
    dsimp only
    rw [n2]
    dsimp only
    rw [n3, yc (by omega)]
  · have w : wrtL ⟨e, 3, a, b, c⟩ ++ r = encI 3 ++ (encI e ++ (encI a ++ (encI b ++ (encI c ++ r)))) := by simp [wrtL, cnt, encs]
    rw [w, rdS, n0]
    show stt _ 3 = _
    rw [stt, st3, st2, st1, s0]
    · dsimp only
      rw [n2]
      dsimp only
      rw [n3]
      dsimp only
      rw [n4]
    all_goals simp
theorem readT_wrt {t : Tm} (i : t.In) (h : chk t = 0) (r : List UInt8) : rdT (wrtL t ++ r, 0) = t := by
  unfold rdT
  rw [read_wrt i h r]
  rfl
end Go.Proofs.YtilkdpobkcocoaaDoor.stamp
