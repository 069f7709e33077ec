/-
  The law's example: its closed values.
-/
import Derived.Test.YtmepiogoofmbbaaDoorChR
namespace Go.Proofs.YtmepiogoofmbbaaDoor.chain
open Go.ChangeShapes Go.WideShapes Go.ChangeAt Go.RowKit Go.Shelf Go.Sort
open Go.Proofs.YtmepiogoofmbbaaDoor.tm Go.Proofs.YtmepiogoofmbbaaDoor.opened Go.Proofs.YtmepiogoofmbbaaDoor.block Go.Proofs.YtmepiogoofmbbaaDoor.stamp Go.Proofs.YtmepiogoofmbbaaDoor.code

def k12 : Tm := ⟨1, 1, 2, 0, 0⟩
def k03 : Tm := ⟨0, 1, 3, 0, 0⟩
def k13 : Tm := ⟨1, 1, 3, 0, 0⟩
def k1 : Tm := ⟨1, 0, 0, 0, 0⟩
def k2 : Tm := ⟨2, 0, 0, 0, 0⟩
def kL : List Tm := [k12, k03, k13, k03]
def kV : List Tm := [k03, k12]
theorem in_kL : InL kL := by
  intro t ht
  simp only [kL, List.mem_cons, List.not_mem_nil, or_false] at ht
  rcases ht with rfl | rfl | rfl | rfl <;> constructor <;> decide
theorem in_kV : InL kV := by
  intro t ht
  simp only [kV, List.mem_cons, List.not_mem_nil, or_false] at ht
  rcases ht with rfl | rfl <;> constructor <;> decide
theorem in_k1 : InL [k1] := by
  intro t ht
  rw [List.mem_singleton.1 ht]; constructor <;> decide
theorem in_k2 : InL [k2] := by
  intro t ht
  rw [List.mem_singleton.1 ht]; constructor <;> decide
theorem makeK : makeE kL in_kL = 0 ∧ makeV kL in_kL = kV := by
  obtain ⟨r1, r2⟩ := ref_make kL in_kL
  rw [← r1, ← r2]
  constructor <;> decide +kernel
theorem front_kV : Front kV := by
  have := (make_zero makeK.1).2.1
  rwa [makeK.2] at this
theorem front_one {t : Tm} (h : Ok t) : Front [t] :=
  ⟨fun x hx => by rw [List.mem_singleton.1 hx]; exact h, fun x hx => by rw [List.mem_singleton.1 hx]; rfl, List.pairwise_singleton _ _, fun x hx y hy n => absurd ((List.mem_singleton.1 hy).trans (List.mem_singleton.1 hx).symm) n, by simp⟩
theorem ok_k1 : Ok k1 := ⟨in_k1 k1 (by simp), by decide⟩
theorem ok_k2 : Ok k2 := ⟨in_k2 k2 (by simp), by decide⟩
theorem bothK : bothE [k1] [k2] in_k1 in_k2 = 0 := by
  unfold bothE
  rw [check_front (front_one ok_k1), check_front (front_one ok_k2)]
  decide
theorem joinK : joinLE [k1] [k2] in_k1 in_k2 = 0 ∧ joinLV [k1] [k2] in_k1 in_k2 = [k2] := by
  obtain ⟨e1, e2⟩ := join_good2 bothK
  obtain ⟨r1, r2⟩ := ref_make (joins [k1] [k2]) (in_joins in_k1 in_k2)
  rw [e1, e2, ← r1, ← r2]
  constructor <;> decide +kernel
theorem meetK : meetLE [k1] [k2] in_k1 in_k2 = 0 ∧ meetLV [k1] [k2] in_k1 in_k2 = [k1] := by
  obtain ⟨e1, e2⟩ := meet_good bothK
  obtain ⟨r1, r2⟩ := ref_make ([k1] ++ [k2]) (in_app in_k1 in_k2)
  rw [e1, e2, ← r1, ← r2]
  constructor <;> decide +kernel
theorem txtK : chTxt kV in_kV = [123, 48, 46, 51, 32, 49, 46, 50, 125] := by
  unfold chTxt
  rw [if_pos (check_front front_kV in_kV)]
  simp [kV, k03, k12, txtL, cnt, decI, Lib.decDigits_one, Lib.join_cons, Lib.joinTail]
def kB : List UInt8 := [2, 1, 0, 3, 1, 1, 2]
theorem wrtK : chWrt kV in_kV = kB := by
  unfold chWrt
  rw [if_pos (check_front front_kV in_kV)]
  decide +kernel
theorem readLK : chL (kB, 0) = kV := by decide +kernel
theorem readQK : (chQ (kB, 0)).2 = 0 := by decide +kernel
theorem check_same {L M : List Tm} (e : L = M) (h : InL L) (k : InL M) : checkE L h = checkE M k := by subst e; rfl
theorem readEK : chE (kB, 0) = 0 := by
  unfold chE
  rw [if_pos readQK, check_same readLK _ in_kV, check_front front_kV]
theorem readVK : chV (kB, 0) = kV := by
  unfold chV
  rw [if_pos readEK, readLK]
theorem lt_lit (w : World) (N : List Tm) (cs : Array Value) (h : cs.toList = N.flatMap cT) (t : TypeId) : Lt (w.alloc (.cells cs t)) (some ⟨w.heap.size, 0, none⟩) N := by
  refine .inr ⟨w.heap.size, 0, rfl, by simp, fun i x hx => ?_⟩
  rw [List.getElem?_map, Option.map_eq_some_iff] at hx
  obtain ⟨y, hy, rfl⟩ := hx
  refine ⟨rfl, fun j hj => ?_⟩
  have e := flat_at N i y j hy hj
  rw [← h, Array.getElem?_toList] at e
  rw [Nat.zero_add]
  exact ((Whole.fresh w t cs).read _).trans e
end Go.Proofs.YtmepiogoofmbbaaDoor.chain
