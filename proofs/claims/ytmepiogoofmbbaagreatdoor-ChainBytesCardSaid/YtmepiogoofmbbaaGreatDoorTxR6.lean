/-
  The contracts of watershedref06.Text and watershedref06.Write.
-/
import Derived.Test.YtmepiogoofmbbaaGreatDoorEn
namespace Go.Proofs.YtmepiogoofmbbaaGreatDoor.chain
open Go.ChangeShapes Go.WideShapes Go.ChangeAt Go.RowKit Go.Shelf Go.Sort
open Go.Proofs.YtmepiogoofmbbaaGreatDoor.tm Go.Proofs.YtmepiogoofmbbaaGreatDoor.opened Go.Proofs.YtmepiogoofmbbaaGreatDoor.block Go.Proofs.YtmepiogoofmbbaaGreatDoor.stamp Go.Proofs.YtmepiogoofmbbaaGreatDoor.code

theorem join_flat : ∀ l : List (List UInt8), Lib.join l [] = l.flatten
  | [] => by simp [Lib.join_nil]
  | x :: r => by
    rw [Lib.join_cons, List.flatten_cons]
    congr 1
    induction r with
    | nil => simp [Lib.joinTail]
    | cons y r ih => simp [Lib.joinTail] at ih ⊢; first | done | rw [ih]
theorem tail_snoc (sep y : List UInt8) : ∀ r : List (List UInt8), Lib.joinTail sep (r ++ [y]) = Lib.joinTail sep r ++ sep ++ y
  | [] => by simp [Lib.joinTail]
  | x :: r => by
    have ih := tail_snoc sep y r
    simp [Lib.joinTail] at ih ⊢
    try rw [ih]
    try simp
theorem join_snoc {l : List (List UInt8)} (sep y : List UInt8) (h : l ≠ []) : Lib.join (l ++ [y]) sep = Lib.join l sep ++ sep ++ y := by
  cases l with
  | nil => exact absurd rfl h
  | cons x r => rw [List.cons_append, Lib.join_cons, Lib.join_cons, tail_snoc]; simp
def stT (L : List Tm) (k : Nat) : List UInt8 := 123 :: Lib.join ((L.take k).map txtL) [32]
def stW (L : List Tm) (k : Nat) : List UInt8 := stamp.encI L.length ++ ((L.take k).map wrtL).flatten
theorem stT_zero (L : List Tm) : stT L 0 = [123] := by simp [stT, Lib.join_nil]
theorem stT_one {L : List Tm} {x : Tm} (hx : L[0]? = some x) : stT L 1 = [123] ++ txtL x := by
  unfold stT
  rw [List.take_add_one, hx]
  simp [Lib.join_one]
theorem stT_next {L : List Tm} {k : Nat} {x : Tm} (hk : k ≠ 0) (hx : L[k]? = some x) : stT L (k + 1) = (stT L k ++ [32]) ++ txtL x := by
  have hlt := (List.getElem?_eq_some_iff.1 hx).1
  unfold stT
  rw [List.take_add_one, hx, Option.toList_some, List.map_append, List.map_cons, List.map_nil, join_snoc [32] (txtL x) (by
    intro e
    have := congrArg List.length e
    rw [List.length_map, List.length_take, List.length_nil] at this
    omega)]
  simp
theorem stW_zero (L : List Tm) : stW L 0 = stamp.encI L.length := by simp [stW]
theorem stW_next {L : List Tm} {k : Nat} {x : Tm} (hx : L[k]? = some x) : stW L (k + 1) = stW L k ++ wrtL x := by
  unfold stW
  rw [List.take_add_one, hx]
  simp
theorem stT_len {L : List Tm} (o : ∀ x ∈ L, Ok x) (k : Nat) : (stT L k).length ≤ 1 + 51 * L.length := by
  have h := join_len2 ((L.take k).map txtL) [32] 50 (by
    intro z hz
    obtain ⟨t, ht, rfl⟩ := List.mem_map.1 hz
    obtain ⟨it, ct⟩ := o t (List.mem_of_mem_take ht)
    obtain ⟨z0, z1, -⟩ := chk_zero ct
    have := len_txt it z0 z1
    omega)
  unfold stT
  rw [List.length_map, List.length_take] at h
  simp only [List.length_cons, List.length_nil] at h ⊢
  have : (50 + (0 + 1)) * min k L.length ≤ 51 * L.length := Nat.mul_le_mul (by omega) (by omega)
  omega
theorem stW_len {L : List Tm} (o : ∀ x ∈ L, Ok x) (k : Nat) : (stW L k).length ≤ 10 + 50 * L.length := by
  have h := join_len2 ((L.take k).map wrtL) [] 50 (by
    intro z hz
    obtain ⟨t, ht, rfl⟩ := List.mem_map.1 hz
    exact len_wrtL (o t (List.mem_of_mem_take ht)).2)
  have h2 := len_encI (L.length : Int)
  rw [join_flat, List.length_map, List.length_take] at h
  unfold stW
  rw [List.length_append]
  simp only [List.length_nil] at h
  have : (50 + 0) * min k L.length ≤ 50 * L.length := Nat.mul_le_mul (by omega) (by omega)
  omega
theorem size_l (l : List UInt8) : (⟨l.toArray⟩ : ByteArray).size = l.length := by simp [ByteArray.size]

set_option maxRecDepth 100000 in
set_option maxHeartbeats 1000000 in
theorem chTextR (A : Option Addr) (c : Nat) (L : List Tm) (iL : InL L) (mL : L.length ≤ 4611686018427387903) (w : World) (hL : Lt w A L) :
    Calls Tryz.prog 7 #[.slice A L.length c] w fun e W' => e = .returned (.tuple #[.string ⟨(chTxt L iL).toArray⟩, .int .i64 (checkE L iL)]) ∧ Below w.heap.size w W' := by
  have HL := Lib.hid hL
  have CC := Lib.hid (checkR_any A c L iL mL)
  clear hL
  by_cases h : checkE L iL = 0
  · have fr := front_check h
    have few := fr.few
    have OK := Lib.hid fr.ok
    have HV : Hid (chTxt L iL = stT L L.length ++ [125]) := Lib.hid (by unfold chTxt; rw [if_pos h]; simp [stT])
    have LEN := fun k => Nat.le_trans (stT_len fr.ok k) (show _ ≤ 4000 by omega)
    rw [h] at CC
    rw [h]
    clear h fr
    go_enter Tryz.func7, Tryz.ntmps7
    go_wp2_with fail
    refine (CC.out _ HL.out).mono ?_
    rintro e w1 ⟨rfl, b1⟩
    have HL1 := Lib.hid (HL.out.below b1)
    clear CC HL
    go_wp2_with fail
    go_loopw [5, 6] (fun s i wr => ∃ (k : Nat) (x : ByteArray), k ≤ L.length ∧ s = .string x ∧ i = .int .i64 k ∧ Hid (x = ⟨(stT L k).toArray⟩) ∧ Below w1.heap.size w1 wr) (fun _ i _ => L.length - (intOf i).toNat)
    case atStart => exact ⟨0, ⟨#[123]⟩, Nat.zero_le _, rfl, rfl, Lib.hid (by rw [stT_zero]), Below.refl _ _⟩
    case round =>
      obtain ⟨k, x, hk, rfl, rfl, HX, hb0⟩ := hrel
      rename World => W1
      have hsz : x.size ≤ 4000 := by rw [HX.out, size_l]; exact LEN k
      by_cases hlt : k < L.length
      · obtain ⟨y, hy, hm⟩ := get_lt hlt
        obtain ⟨b, off, hA, hb, c0, c1, c2, c3, c4⟩ := (HL1.out.below hb0).at hy
        subst hA
        obtain ⟨iy, cy⟩ := OK.out y hm
        have FX := Lib.hid (textR_good y iy cy)
        have hs2 : (txtL y).length ≤ 60 := by obtain ⟨z0, z1, -⟩ := chk_zero cy; have := len_txt iy z0 z1; omega
        have HY := Lib.hid hy
        clear hy hm iy cy
        generalize hE : txtL y = E at FX hs2
        have HE := Lib.hid hE
        clear hE
        by_cases hk0 : k = 0
        · subst hk0
          rw [stT_zero] at HX
          simp only [Nat.zero_mul, Nat.add_zero] at c0 c1 c2 c3 c4
          go_wp2_with fail
          refine (FX.out _).mono ?_
          rintro e w3 ⟨rfl, b3⟩
          have hb3 := hb0.trans (b3.mono hb0.size)
          clear FX c0 c1 c2 c3 c4 hb hb0 b3
          go_wp2_with fail
          go_roundw
          case rel => exact ⟨0 + 1, _, by omega, rfl, by go_num, Lib.hid (by rw [stT_one HY.out, HE.out, HX.out]; exact ByteArray.ext (by simp)), hb3⟩
          case measure => simp [intOf]; omega
        · have hk1 : (0 : Int) < (k : Int) := by omega
          go_wp2_with fail
          refine (FX.out _).mono ?_
          rintro e w3 ⟨rfl, b3⟩
          have hb3 := hb0.trans (b3.mono hb0.size)
          clear FX c0 c1 c2 c3 c4 hb hb0 b3
          go_wp2_with fail
          go_roundw
          case rel => exact ⟨k + 1, _, by omega, rfl, by go_num, Lib.hid (by rw [stT_next hk0 HY.out, HE.out, HX.out]; exact ByteArray.ext (by simp)), hb3⟩
          case measure => simp [intOf]; omega

      · have hkk : k = L.length := by omega
        subst hkk
        go_wp2_with fail
        go_ret2
        exact ⟨by rw [HV.out]; exact str_ret2 (by rw [HX.out]; exact ByteArray.ext (by simp)), b1.trans (hb0.mono b1.size)⟩
  · rw [show chTxt L iL = [] by unfold chTxt; rw [if_neg h]]
    generalize checkE L iL = m at CC h ⊢
    go_enter Tryz.func7, Tryz.ntmps7
    go_wp2_with fail
    refine (CC.out _ HL.out).mono ?_
    rintro e w1 ⟨rfl, b1⟩
    go_wp2_with fail
    go_ret2
    exact ⟨rfl, b1⟩

set_option maxRecDepth 100000 in
set_option maxHeartbeats 1000000 in
theorem chWriteR (A : Option Addr) (c : Nat) (L : List Tm) (iL : InL L) (mL : L.length ≤ 4611686018427387903) (w : World) (hL : Lt w A L) :
    Calls Tryz.prog 9 #[.slice A L.length c] w fun e W' => e = .returned (.tuple #[.string ⟨(chWrt L iL).toArray⟩, .int .i64 (checkE L iL)]) ∧ Below w.heap.size w W' := by
  have HL := Lib.hid hL
  have CC := Lib.hid (checkR_any A c L iL mL)
  clear hL
  by_cases h : checkE L iL = 0
  · have fr := front_check h
    have few := fr.few
    have OK := Lib.hid fr.ok
    have HV : Hid (chWrt L iL = stW L L.length) := Lib.hid (by unfold chWrt; rw [if_pos h]; simp [stW, join_flat])
    have LEN := fun k => Nat.le_trans (stW_len fr.ok k) (show _ ≤ 4000 by omega)
    rw [h] at CC
    rw [h]
    clear h fr
    have CN := Lib.hid (numR_i (L.length : Int) (by omega) (by omega))
    have hw : IntKind.u64.wrap (L.length : Int) = L.length := by rw [IntKind.wrap_u64]; omega
    go_enter Tryz.func9, Tryz.ntmps9
    go_wp2_with fail
    refine (CC.out _ HL.out).mono ?_
    rintro e w1 ⟨rfl, b1⟩
    have HL1 := Lib.hid (HL.out.below b1)
    clear CC HL
    go_wp2_with fail
    refine (CN.out _).mono ?_
    rintro e w2 ⟨rfl, b2⟩
    have HL1 := Lib.hid (HL1.out.below b2)
    have b1 := b1.trans (b2.mono b1.size)
    clear b2
    rename World => w1
    go_wp2_with fail
    go_loopw [5, 6] (fun s i wr => ∃ (k : Nat) (x : ByteArray), k ≤ L.length ∧ s = .string x ∧ i = .int .i64 k ∧ Hid (x = ⟨(stW L k).toArray⟩) ∧ Below w1.heap.size w1 wr) (fun _ i _ => L.length - (intOf i).toNat)
    case atStart => exact ⟨0, _, Nat.zero_le _, rfl, rfl, Lib.hid (by rw [stW_zero]), Below.refl _ _⟩
    case round =>
      obtain ⟨k, x, hk, rfl, rfl, HX, hb0⟩ := hrel
      rename World => W1
      have hsz : x.size ≤ 4000 := by rw [HX.out, size_l]; exact LEN k
      by_cases hlt : k < L.length
      · obtain ⟨y, hy, hm⟩ := get_lt hlt
        obtain ⟨b, off, hA, hb, c0, c1, c2, c3, c4⟩ := (HL1.out.below hb0).at hy
        subst hA
        obtain ⟨iy, cy⟩ := OK.out y hm
        have FX := Lib.hid (writeR_good y iy cy)
        have hs2 : (wrtL y).length ≤ 60 := by have := len_wrtL cy; omega
        have HY := Lib.hid hy
        clear hy hm iy cy
        generalize hE : wrtL y = E at FX hs2
        have HE := Lib.hid hE
        clear hE
        go_wp2_with fail
        refine (FX.out _).mono ?_
        rintro e w3 ⟨rfl, b3⟩
        have hb3 := hb0.trans (b3.mono hb0.size)
        clear FX c0 c1 c2 c3 c4 hb hb0 b3
        go_wp2_with fail
        go_roundw
        case rel => exact ⟨k + 1, _, by omega, rfl, by go_num, Lib.hid (by rw [stW_next HY.out, HE.out, HX.out]; exact ByteArray.ext (by simp)), hb3⟩
        case measure => simp [intOf]; omega

      · have hkk : k = L.length := by omega
        subst hkk
        go_wp2_with fail
        go_ret2
        exact ⟨by rw [HV.out]; exact str_ret2 HX.out, b1.trans (hb0.mono b1.size)⟩
  · rw [show chWrt L iL = [] by unfold chWrt; rw [if_neg h]]
    generalize checkE L iL = m at CC h ⊢
    go_enter Tryz.func9, Tryz.ntmps9
    go_wp2_with fail
    refine (CC.out _ HL.out).mono ?_
    rintro e w1 ⟨rfl, b1⟩
    go_wp2_with fail
    go_ret2
    exact ⟨rfl, b1⟩
end Go.Proofs.YtmepiogoofmbbaaGreatDoor.chain
