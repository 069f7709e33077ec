/-
  made: a Multi of what acts add.
-/
import Derived.Test.YtpjlefdigpejdaaGmv
import Derived.Test.YtpjlefdigpejdaaGal
import Derived.Test.YtpjlefdigpejdaaMuN
import Derived.Test.YtpjlefdigpejdaaGma
import Derived.StillTailTactics
namespace Go.Proofs.Ytpjlefdigpejdaa.multi
open Go.ChangeShapes Go.WideShapes Go.ChangeAt Go.RowKit
open Go.Proofs.Ytpjlefdigpejdaa.tm Go.Proofs.Ytpjlefdigpejdaa.opened Go.Proofs.Ytpjlefdigpejdaa.block Go.Proofs.Ytpjlefdigpejdaa.stamp Go.Proofs.Ytpjlefdigpejdaa.chain

/-- The depth that acts name. -/
def depA (L : List Ac) : Int := match L with
  | [] => 0
  | a :: _ => a.t.d % 4
theorem depA_le (L : List Ac) : 0 ≤ depA L ∧ depA L ≤ 3 := by
  unfold depA
  split <;> omega
/-- What they come to. -/
def sumA (d : Int) (L : List Ac) : List TN := L.foldl (fun M a => addV d M a.t a.n) []
theorem sumA_snoc (d : Int) (L : List Ac) (a : Ac) : sumA d (L ++ [a]) = addV d (sumA d L) a.t a.n := by simp [sumA, List.foldl_append]
theorem sumA_good {d : Int} : ∀ {L : List Ac}, (∀ a ∈ L, a.In) → GoodM d (sumA d L) ∧ (sumA d L).length ≤ 4096 := by
  intro L h
  unfold sumA
  suffices ∀ (L : List Ac) (M : List TN), (∀ a ∈ L, a.In) → GoodM d M ∧ M.length ≤ 4096 → GoodM d (L.foldl (fun M a => addV d M a.t a.n) M) ∧ (L.foldl (fun M a => addV d M a.t a.n) M).length ≤ 4096 from this L [] h ⟨GoodM.nil d, by simp⟩
  intro L
  induction L with
  | nil => intro M _ h; exact h
  | cons a r ih =>
    intro M hi h
    exact ih _ (fun x hx => hi x (List.mem_cons_of_mem _ hx)) (add_good h.1 h.2 (hi a (List.mem_cons_self ..)).t a.n)
theorem add_below {w w' : World} {n₀ b : Nat} (h : w.grownBy w' (some b)) (hn : n₀ ≤ w.heap.size) (hb : n₀ ≤ b) : Below n₀ w w' := (Below.refl n₀ w).grown h hn (fun k e => by cases e; exact hb)
theorem dep_wrap (d : Int) : wrap64 ((IntKind.u64.wrap d).tmod 4) = d % 4 := by
  rw [Int.tmod_eq_emod_of_nonneg (by rw [IntKind.wrap_u64]; omega)]
  have : IntKind.u64.wrap d % 4 = d % 4 := by rw [IntKind.wrap_u64]; omega
  rw [this]
  unfold wrap64
  omega
set_option maxRecDepth 100000 in
set_option maxHeartbeats 4000000 in
theorem made_any (A : Option Addr) (c : Nat) (L : List Ac) (iL : ∀ a ∈ L, a.In) (mL : L.length ≤ 4611686018427387903) (w : World) (h : La w A L) :
    Calls Try.prog 32 #[.slice A L.length c] w fun e w' => ∃ g b, e = .returned (.pointer (some ⟨g, 0, none⟩)) ∧ MulP w' g (depA L) b none 0 [] (sumA (depA L) (L.take 60)) ∧ Below w.heap.size w w' := by
  have H := Lib.hid h
  have hdep := depA_le L
  have hN := Lib.hid (fun W => new_good (depA L) hdep.1 hdep.2 W)
  clear h
  cases L with
  | nil =>
    change Hid (∀ W, Calls _ _ #[.int .i64 0] _ _) at hN
    clear hdep H
    go_enter Try.func32, Try.ntmps32
    go_wp2_with ((go_at_call 11; refine (hN.out _).mono ?_; rintro e w1 ⟨g, b, rfl, h1, b1, -, -⟩; have H1 := Lib.hid h1; have B1 := Lib.hid b1; clear h1 b1))
    go_loopw [6] (fun v wr => v = .int .i64 0 ∧ wr = w1) (fun _ _ => 0)
    case atStart => exact ⟨rfl, rfl⟩
    case round =>
      obtain ⟨rfl, rfl⟩ := hrel
      go_wp2_with fail
      go_ret
      exact ⟨g, b, rfl, H1.out, B1.out⟩
  | cons a r =>
    generalize hL : a :: r = L at *
    have h0 : L[0]? = some a := by rw [← hL]; rfl
    have hl0 : 0 < L.length := by rw [← hL]; simp
    have hdp : Hid (depA L = a.t.d % 4) := Lib.hid (by rw [← hL]; rfl)
    clear hL
    generalize depA L = dp at *
    have ia := iL a (List.mem_of_getElem? h0)
    obtain ⟨b0, o0, hA, hb0, c0, c1, c2, c3, c4, c5, c6⟩ := H.out.at h0
    subst hA
    clear h0 c0 c1 c3 c4 c5 c6
    have i1 := ia.t.d0
    have i2 := ia.t.d1
    clear ia
    go_enter Try.func32, Try.ntmps32
    go_upto_region 4 with fail
    rw [dep_wrap, ← hdp.out]
    clear c2
    go_wp2_with ((go_at_call 11; refine (hN.out _).mono ?_; rintro e w1 ⟨g, b, rfl, h1, b1, hg1, hb1⟩; have H1 := Lib.hid h1; have B1 := Lib.hid b1; have HG := Lib.hid (And.intro hg1 hb1); clear h1 b1 hg1 hb1))
    go_loopw [6] (fun v wr => ∃ k : Nat, k ≤ L.length ∧ k ≤ 60 ∧ v = .int .i64 k ∧ Hid (MulP wr g dp b none 0 [] (sumA dp (L.take k))) ∧ Below w.heap.size w wr) (fun v _ => 60 - (intOf v).toNat)
    case atStart => exact ⟨0, Nat.zero_le _, Nat.zero_le _, rfl, Lib.hid (by simpa [sumA] using H1.out), B1.out⟩
    case round =>
      obtain ⟨k, hk, hk6, rfl, HM, BB⟩ := hrel
      by_cases hlt : k < L.length
      · by_cases h6 : k < 60
        · obtain ⟨x, hx⟩ : ∃ x, L[k]? = some x := ⟨L[k], List.getElem?_eq_getElem hlt⟩
          have hs : Hid (sumA dp (L.take (k + 1)) = addV dp (sumA dp (L.take k)) x.t x.n) := Lib.hid (by rw [List.take_add_one, hx]; exact sumA_snoc dp (L.take k) x)
          have HGD := Lib.hid (sumA_good (d := dp) (L := L.take k) (fun y hy => iL y (List.mem_of_mem_take hy)))
          have ix := (iL x (List.mem_of_getElem? hx)).t
          have hbd : Below w.heap.size w wr.drew := BB.drew
          obtain ⟨b2, o2, hA2, hb2, d0, d1, d2, d3, d4, d5, d6⟩ := (H.out.below hbd).at hx
          simp only [Option.some.injEq, Addr.mk.injEq, and_true] at hA2
          obtain ⟨rfl, rfl⟩ := hA2
          have HMD := Lib.hid (HM.out.below (Below.refl _ wr).drew)
          have CA := Lib.hid (add_any x.t ix x.n HGD.out.1 HGD.out.2 wr.drew HMD.out)
          have hss := BB.size
          go_upto_region 8 with fail
          go_still_tail 11, (by kernel_rfl)
          change wpList _ _ _ _ _ wr.drew
          go_wp2_with ((go_at_call 13; refine CA.out.mono ?_; rintro e w7 ⟨rfl, h7, g7⟩; have H7 := Lib.hid h7; have B7 := Lib.hid (hbd.trans (add_below g7 hss HG.out.2)); clear h7 g7))
          go_roundw
          case rel => exact ⟨k + 1, by omega, by omega, by go_num, by rw [hs.out]; exact H7, B7.out⟩
          case measure => simp [intOf]; omega
        · obtain rfl : k = 60 := by omega
          go_wp2_with fail
          go_ret
          exact ⟨g, b, rfl, HM.out, BB⟩
      · obtain rfl : k = L.length := by omega
        go_wp2_with fail
        go_ret
        refine ⟨g, b, rfl, ?_, BB⟩
        have := HM.out
        rw [List.take_length] at this
        rw [List.take_of_length_le hk6]
        exact this
end Go.Proofs.Ytpjlefdigpejdaa.multi
