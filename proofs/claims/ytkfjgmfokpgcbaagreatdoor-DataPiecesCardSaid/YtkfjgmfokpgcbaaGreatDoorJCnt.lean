/-
  The contract of stamp.counts: the epoch and the rounds of a time.
-/
import Derived.Test.YtkfjgmfokpgcbaaGreatDoorJChk
import Derived.Deep.RegionHeld3
import Derived.Deep.RegionLaw
import Derived.Deep.AppendLies
import Derived.Laws.OwnMore
namespace Go.Proofs.YtkfjgmfokpgcbaaGreatDoor.stamp
open Go.ChangeShapes Go.WideShapes Go.ChangeAt Go.RowKit
open Go.Proofs.YtkfjgmfokpgcbaaGreatDoor.tm Go.Proofs.YtkfjgmfokpgcbaaGreatDoor.opened Go.Proofs.YtkfjgmfokpgcbaaGreatDoor.block

theorem info22' : (Tryz.prog.info? 38).map (fun i => (i.zero, i.size, i.bytes)) = some (some (.int .u32 0), 1, 4) := by kernel_rfl
/-- A slice of the call's own of these numbers. -/
def OwnU (w w' : World) (e : Ending) (l : List Int) : Prop := ∃ b cap, e = .returned (.slice (some ⟨b, 0, none⟩) l.length cap) ∧ w'.ownsRow w.heap.size 38 1 (.slice (some ⟨b, 0, none⟩) l.length cap) l.length (l.map (Value.int .u32)) ∧ Below w.heap.size w w'
theorem oneU (l : List Int) : ∀ u ∈ l.map (Value.int .u32), u.oneCell' = true := by
  intro u hu
  obtain ⟨x, _, rfl⟩ := List.mem_map.1 hu
  rfl
theorem own_lit {W : World} {G base : Nat} {x : Value} (hG : W.heap.size = G) (hb : base ≤ G) : (W.alloc (.cells #[x] 38)).drew.ownsRow base 38 1 (.slice (some ⟨G, 0, none⟩) 1 1) 1 [x] := by
  subst hG
  exact (World.ownsRow_lit (base := base) (e := 38) (size := 1) W #[x] 1 hb (by unfold maxLen; omega) rfl).drew
theorem news1 {w : World} {g k : Nat} {x : Value} (h : w.cell? ⟨g, k + 1, none⟩ = some x) : ∀ j u, [x][j]? = some u → w.cell? ((⟨g, k + 1, none⟩ : Addr).add j) = some u := by
  intro j u hu
  match j with
  | 0 => simp at hu; subst hu; exact h
theorem news2 {w : World} {g k : Nat} {x y : Value} (h : w.cell? ⟨g, k + 1, none⟩ = some x) (i : w.cell? ⟨g, k + 2, none⟩ = some y) : ∀ j u, [x, y][j]? = some u → w.cell? ((⟨g, k + 1, none⟩ : Addr).add j) = some u := by
  intro j u hu
  match j with
  | 0 => simp at hu; subst hu; exact h
  | 1 => simp at hu; subst hu; exact i
theorem news3 {w : World} {g k : Nat} {x y z : Value} (h : w.cell? ⟨g, k + 1, none⟩ = some x) (i : w.cell? ⟨g, k + 2, none⟩ = some y) (l : w.cell? ⟨g, k + 3, none⟩ = some z) : ∀ j u, [x, y, z][j]? = some u → w.cell? ((⟨g, k + 1, none⟩ : Addr).add j) = some u := by
  intro j u hu
  match j with
  | 0 => simp at hu; subst hu; exact h
  | 1 => simp at hu; subst hu; exact i
  | 2 => simp at hu; subst hu; exact l
set_option maxHeartbeats 1000000 in
theorem counts_1 (e a b c : Int) (w : World) : Calls Tryz.prog 45 #[.agg #[.int .u32 e, .int .i64 1, .int .u32 a, .int .u32 b, .int .u32 c]] w fun r w' => OwnU w w' r [e, a] := by
  obtain ⟨i0, hi0, hz0, hz1, hz2⟩ := info_parts info22'
  go_enter Tryz.func45, Tryz.ntmps45
  go_wp2_with fail
  go_region_held3 (fun w' => w'.cell? ⟨w.heap.size, 0, none⟩ = some (.int .u32 e) ∧ w'.cell? ⟨w.heap.size, 1, none⟩ = some (.int .i64 1) ∧ w'.cell? ⟨w.heap.size, 2, none⟩ = some (.int .u32 a) ∧ w'.cell? ⟨w.heap.size, 3, none⟩ = some (.int .u32 b) ∧ w'.cell? ⟨w.heap.size, 4, none⟩ = some (.int .u32 c))
    (first | go_keep | (go_split_ands; refine ⟨?_, ?_, ?_, ?_, ?_⟩ <;> (rw [hgrow.cell_far _ (by simp; omega) (by simp [Value.ownBlock])]; assumption)))
    ((go_split_ands; refine step_append_lies _ (by rfl) _ _ _ (by rfl) w.heap.size 38 i0 _ 1 4 Tryz.underlying93 hi0 hz0 hz1 hz2 rfl (by omega) _ 1 _ (by rfl) (own_lit (by simp) (by omega)) ⟨w.heap.size, 2, none⟩ 1 3 [.int .u32 a] (by rfl) (by rfl) (news1 (k := 1) (by assumption)) (by simp [Value.oneCell']) (by omega) (by decide) (by omega) (by simp; omega) _ rfl ?_; intro gg cap w1 hown1 hgrow hat hlt))
  go_wp2
  go_ret
  exact ⟨gg, cap, rfl, hown1, (((fresh1 w _).alloc (by simp) _).drew).grown hgrow (by simp; omega) (fun k hk => by simp [Value.ownBlock] at hk; omega)⟩
set_option maxHeartbeats 1000000 in
theorem counts_2 (e a b c : Int) (w : World) : Calls Tryz.prog 45 #[.agg #[.int .u32 e, .int .i64 2, .int .u32 a, .int .u32 b, .int .u32 c]] w fun r w' => OwnU w w' r [e, a, b] := by
  obtain ⟨i0, hi0, hz0, hz1, hz2⟩ := info_parts info22'
  go_enter Tryz.func45, Tryz.ntmps45
  go_wp2_with fail
  go_region_held3 (fun w' => w'.cell? ⟨w.heap.size, 0, none⟩ = some (.int .u32 e) ∧ w'.cell? ⟨w.heap.size, 1, none⟩ = some (.int .i64 2) ∧ w'.cell? ⟨w.heap.size, 2, none⟩ = some (.int .u32 a) ∧ w'.cell? ⟨w.heap.size, 3, none⟩ = some (.int .u32 b) ∧ w'.cell? ⟨w.heap.size, 4, none⟩ = some (.int .u32 c))
    (first | go_keep | (go_split_ands; refine ⟨?_, ?_, ?_, ?_, ?_⟩ <;> (rw [hgrow.cell_far _ (by simp; omega) (by simp [Value.ownBlock])]; assumption)))
    ((go_split_ands; refine step_append_lies _ (by rfl) _ _ _ (by rfl) w.heap.size 38 i0 _ 1 4 Tryz.underlying93 hi0 hz0 hz1 hz2 rfl (by omega) _ 1 _ (by rfl) (own_lit (by simp) (by omega)) ⟨w.heap.size, 2, none⟩ 2 3 [.int .u32 a, .int .u32 b] (by rfl) (by rfl) (news2 (k := 1) (by assumption) (by assumption)) (by simp [Value.oneCell']) (by omega) (by decide) (by omega) (by simp; omega) _ rfl ?_; intro gg cap w1 hown1 hgrow hat hlt))
  go_wp2
  go_ret
  exact ⟨gg, cap, rfl, hown1, (((fresh1 w _).alloc (by simp) _).drew).grown hgrow (by simp; omega) (fun k hk => by simp [Value.ownBlock] at hk; omega)⟩
set_option maxHeartbeats 1000000 in
theorem counts_3 (e a b c : Int) (w : World) : Calls Tryz.prog 45 #[.agg #[.int .u32 e, .int .i64 3, .int .u32 a, .int .u32 b, .int .u32 c]] w fun r w' => OwnU w w' r [e, a, b, c] := by
  obtain ⟨i0, hi0, hz0, hz1, hz2⟩ := info_parts info22'
  go_enter Tryz.func45, Tryz.ntmps45
  go_wp2_with fail
  go_region_held3 (fun w' => w'.cell? ⟨w.heap.size, 0, none⟩ = some (.int .u32 e) ∧ w'.cell? ⟨w.heap.size, 1, none⟩ = some (.int .i64 3) ∧ w'.cell? ⟨w.heap.size, 2, none⟩ = some (.int .u32 a) ∧ w'.cell? ⟨w.heap.size, 3, none⟩ = some (.int .u32 b) ∧ w'.cell? ⟨w.heap.size, 4, none⟩ = some (.int .u32 c))
    (first | go_keep | (go_split_ands; refine ⟨?_, ?_, ?_, ?_, ?_⟩ <;> (rw [hgrow.cell_far _ (by simp; omega) (by simp [Value.ownBlock])]; assumption)))
    ((go_split_ands; refine step_append_lies _ (by rfl) _ _ _ (by rfl) w.heap.size 38 i0 _ 1 4 Tryz.underlying93 hi0 hz0 hz1 hz2 rfl (by omega) _ 1 _ (by rfl) (own_lit (by simp) (by omega)) ⟨w.heap.size, 2, none⟩ 3 3 [.int .u32 a, .int .u32 b, .int .u32 c] (by rfl) (by rfl) (news3 (k := 1) (by assumption) (by assumption) (by assumption)) (by simp [Value.oneCell']) (by omega) (by decide) (by omega) (by simp; omega) _ rfl ?_; intro gg cap w1 hown1 hgrow hat hlt))
  go_wp2
  go_ret
  exact ⟨gg, cap, rfl, hown1, (((fresh1 w _).alloc (by simp) _).drew).grown hgrow (by simp; omega) (fun k hk => by simp [Value.ownBlock] at hk; omega)⟩
set_option maxHeartbeats 1000000 in
theorem counts_0 (e a b c : Int) (w : World) : Calls Tryz.prog 45 #[.agg #[.int .u32 e, .int .i64 0, .int .u32 a, .int .u32 b, .int .u32 c]] w fun r w' => OwnU w w' r [e] := by
  obtain ⟨i0, hi0, hz0, hz1, hz2⟩ := info_parts info22'
  clear hz0 hz2
  go_enter Tryz.func45, Tryz.ntmps45
  go_wp2_with fail
  go_region_held3 (fun w' => w'.cell? ⟨w.heap.size, 0, none⟩ = some (.int .u32 e) ∧ w'.cell? ⟨w.heap.size, 1, none⟩ = some (.int .i64 0))
    (go_keep)
    ((go_split_ands; refine step_append_room (by rfl) _ _ _ (by rfl) 38 i0 1 Tryz.underlying93 hi0 hz1 (w.heap.size + 1) 0 1 1 (by rfl) ⟨w.heap.size, 2, none⟩ 0 3 [] (by rfl) (by rfl) (fun j u hu => by simp at hu) (by simp) (by omega) (fun j hj => by simp at hj) ?_; unfold World.setCells))
  go_wp2
  go_ret
  exact ⟨w.heap.size + 1, 1, rfl, own_lit (by simp) (by omega), ((fresh1 w _).alloc (by simp) _).drew⟩
/-- The epoch and the rounds. -/
def cnt (t : Tm) : List Int := if t.d = 0 then [t.e] else if t.d = 1 then [t.e, t.a] else if t.d = 2 then [t.e, t.a, t.b] else [t.e, t.a, t.b, t.c]
theorem counts_any (t : Tm) (h0 : 0 ≤ t.d) (h1 : t.d ≤ 3) (w : World) : Calls Tryz.prog 45 #[.agg #[.int .u32 t.e, .int .i64 t.d, .int .u32 t.a, .int .u32 t.b, .int .u32 t.c]] w fun r w' => OwnU w w' r (cnt t) := by
  obtain ⟨e, d, a, b, c⟩ := t
  dsimp only at *
  have hk : d = 0 ∨ d = 1 ∨ d = 2 ∨ d = 3 := by omega
  rcases hk with rfl | rfl | rfl | rfl
  · exact counts_0 e a b c w
  · exact counts_1 e a b c w
  · exact counts_2 e a b c w
  · exact counts_3 e a b c w
end Go.Proofs.YtkfjgmfokpgcbaaGreatDoor.stamp
