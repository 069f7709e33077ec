/-
  What is written is read: frontiers.
-/
import Derived.Test.YtmepiogoofmbbaaDoorChR
import Derived.Test.YtmepiogoofmbbaaDoorMath
namespace Go.Proofs.YtmepiogoofmbbaaDoor.chain
open Go.ChangeShapes Go.WideShapes Go.ChangeAt Go.RowKit
open Go.Proofs.YtmepiogoofmbbaaDoor.tm Go.Proofs.YtmepiogoofmbbaaDoor.opened Go.Proofs.YtmepiogoofmbbaaDoor.block Go.Proofs.YtmepiogoofmbbaaDoor.stamp Go.Proofs.YtmepiogoofmbbaaDoor.code Go.Proofs.YtmepiogoofmbbaaDoor.enc

theorem nx_enc {x m : Int} (h0 : 0 ≤ x) (hx : x ≤ m) (hm : m ≤ 1048576) (r : List UInt8) : nx (stamp.encI x ++ r, 0) m = (x, r, 0) := by
  have hd := dec_enc (v := x.toNat) (by omega) r
  have e : ((x.toNat : Nat) : Int) = x := Int.toNat_of_nonneg h0
  rw [e] at hd
  unfold nx rInt rNum stamp.encI
  simp only [if_true, hd]
  rw [if_neg (by omega)]
  simp
theorem rd_wrt {t : Tm} (it : t.In) (h : chk t = 0) (r : List UInt8) : rdT (wrtL t ++ r, 0) = t ∧ (rdS (wrtL t ++ r, 0)).2 = (r, 0) := by
  obtain ⟨d0, d3, he, ha, hb, hc, za, zb, zc⟩ := chk_zero h
  obtain ⟨e0, -, -, -, a0, -, b0, -, c0, -⟩ := it
  have E := fun s => nx_enc e0 he (Int.le_refl _) s
  have A := fun s => nx_enc a0 ha (Int.le_refl _) s
  have B := fun s => nx_enc b0 hb (Int.le_refl _) s
  have C := fun s => nx_enc c0 hc (Int.le_refl _) s
  have D := fun s => nx_enc d0 d3 (by omega) s
  obtain ⟨e, d, a, b, c⟩ := t
  dsimp only at *
  have key : rdS (wrtL ⟨e, d, a, b, c⟩ ++ r, 0) = ((⟨e, d, a, b, c⟩ : Tm), r, 0) := by
    have hk : d = 0 ∨ d = 1 ∨ d = 2 ∨ d = 3 := by omega
    rcases hk with rfl | rfl | rfl | rfl
    · rw [za (by omega), zb (by omega), zc (by omega)]
      simp [rdS, wrtL, cnt, encs, stt, st0, E, D, List.append_assoc]
    · rw [zb (by omega), zc (by omega)]
      simp [rdS, wrtL, cnt, encs, stt, st1, st0, E, D, A, List.append_assoc]
    · rw [zc (by omega)]
      simp [rdS, wrtL, cnt, encs, stt, st2, st1, st0, E, D, A, B, List.append_assoc]
    · simp [rdS, wrtL, cnt, encs, stt, st3, st2, st1, st0, E, D, A, B, C, List.append_assoc]
  unfold rdT
  rw [key]
  exact ⟨by simp, rfl⟩
theorem join_flat : ∀ l : List (List UInt8), Lib.join l [] = l.flatten
  | [] => by simp [Lib.join_nil]
  | x :: r => by
    rw [Lib.join_cons, List.flatten_cons]
    congr 1
    induction r with
    | nil => simp [Lib.joinTail]
    | cons y r ih => simp [Lib.joinTail] at ih ⊢; first | done | rw [ih]
theorem rdN_wrt {L : List Tm} (o : ∀ x ∈ L, Ok x) (r : List UInt8) : ∀ k, k ≤ L.length → rdN ((L.map wrtL).flatten ++ r, 0) k = (L.take k, ((L.drop k).map wrtL).flatten ++ r, 0)
  | 0, _ => by simp [rdN]
  | k + 1, h => by
    have ih := rdN_wrt o r k (by omega)
    obtain ⟨x, hx, hm⟩ := get_lt (L := L) (k := k) (by omega)
    obtain ⟨ix, cx⟩ := o x hm
    have hd : L.drop k = x :: L.drop (k + 1) := drop_at hx
    unfold rdN
    rw [ih, hd, List.map_cons, List.flatten_cons, List.append_assoc]
    obtain ⟨r1, r2⟩ := rd_wrt ix cx (((L.drop (k + 1)).map wrtL).flatten ++ r)
    rw [r1, r2, List.take_add_one, hx]
    rfl
theorem read_wrt {L : List Tm} (f : Front L) (h : InL L) (r : List UInt8) : chV (chWrt L h ++ r, 0) = L ∧ chE (chWrt L h ++ r, 0) = 0 ∧ (chQ (chWrt L h ++ r, 0)).1 = r := by
  have few := f.few
  have e : chWrt L h = stamp.encI L.length ++ (L.map wrtL).flatten := by
    unfold chWrt
    rw [if_pos (check_front f h), join_flat]
  have n1 : nx (chWrt L h ++ r, 0) 64 = ((L.length : Int), (L.map wrtL).flatten ++ r, 0) := by
    rw [e, List.append_assoc]
    exact nx_enc (by omega) (by omega) (by omega) _
  have n2 : chN (chWrt L h ++ r, 0) = L.length := by unfold chN; rw [n1]; simp
  have n3 := rdN_wrt f.ok r L.length (Nat.le_refl _)
  have n4 : chL (chWrt L h ++ r, 0) = L := by unfold chL; rw [n2, n1, n3]; simp
  have n5 : chQ (chWrt L h ++ r, 0) = (r, 0) := by unfold chQ; rw [n2, n1, n3]; simp
  have n6 : chE (chWrt L h ++ r, 0) = 0 := by
    have k : ∀ (M : List Tm) (hM : InL M), M = L → checkE M hM = 0 := by intro M hM hh; subst hh; exact check_front f hM
    unfold chE
    rw [n5, if_pos rfl]
    exact k _ _ n4
  exact ⟨by unfold chV; rw [if_pos n6, n4], n6, by rw [n5]⟩
set_option maxRecDepth 100000 in
theorem left6 (g : Nat) (l : List UInt8) (e : Int) (w : World) (h : RdA w g l e) :
    Calls Tryd.prog 22 #[.pointer (some ⟨g, 0, none⟩)] w fun r w' => r = .returned (.int .i64 l.length) ∧ w = w' := by
  obtain ⟨c0, c1, f0, f1⟩ := h.facts
  clear h
  go_enter Tryd.func22, Tryd.ntmps22
  go_wp2
  go_ret
  exact ⟨rfl, rfl⟩
end Go.Proofs.YtmepiogoofmbbaaDoor.chain
