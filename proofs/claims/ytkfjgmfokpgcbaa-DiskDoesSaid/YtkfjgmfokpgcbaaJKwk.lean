/-
  What works does to a disk, as mathematics.
-/
import Derived.Test.YtkfjgmfokpgcbaaJKme
import Derived.Test.YtkfjgmfokpgcbaaJKco
namespace Go.Proofs.Ytkfjgmfokpgcbaa.disk
open Go.ChangeShapes Go.WideShapes Go.ChangeAt Go.RowKit Go.Maps Go.WideMaps
open Go.Proofs.Ytkfjgmfokpgcbaa.words Go.Proofs.Ytkfjgmfokpgcbaa.opened Go.Proofs.Ytkfjgmfokpgcbaa.block

def K0 : Dk := ⟨[], false, -1⟩
def K1 : Dk := ⟨[⟨[97], [120, 121, 122], 0⟩], false, -1⟩
def K2 : Dk := ⟨[⟨[97], [120, 121, 122], 3⟩], false, -1⟩
def K3 : Dk := ⟨[⟨[97], [120, 121, 122, 117, 118], 3⟩], false, -1⟩
def K4 : Dk := ⟨[⟨[97], [120, 121, 122, 117, 118], 3⟩], false, 1⟩
def K5 : Dk := ⟨[⟨[97], [120, 121, 122, 117, 118], 3⟩, ⟨[98], [119], 0⟩], false, 0⟩
def K6 : Dk := ⟨[⟨[97], [120, 121, 122, 117, 118], 3⟩, ⟨[98], [119], 0⟩], true, 0⟩
def K7 : Dk := ⟨[⟨[97], [120, 121, 122, 117], 4⟩], false, -1⟩
theorem k1 : appV K0 [97] [120, 121, 122] = K1 ∧ appE K0 [97] [120, 121, 122] = 0 := ⟨by kernel_rfl, by kernel_rfl⟩
theorem k2 : synV K1 [97] = K2 ∧ onE K1 [97] = 0 := ⟨by kernel_rfl, by kernel_rfl⟩
theorem k3 : appV K2 [97] [117, 118] = K3 ∧ appE K2 [97] [117, 118] = 0 := ⟨by kernel_rfl, by kernel_rfl⟩
theorem k4 : armV K3 1 = K4 := rfl
theorem k5 : appV K4 [98] [119] = K5 ∧ appE K4 [98] [119] = 0 := ⟨by kernel_rfl, by kernel_rfl⟩
theorem k6 : synV K5 [98] = K6 ∧ onE K5 [98] = 14 := ⟨by kernel_rfl, by kernel_rfl⟩
theorem k7 : mendV K6 [1] = K7 := by kernel_rfl
theorem k8 : readE K6 [97] = 14 ∧ readV K6 [97] = [] := ⟨by kernel_rfl, by kernel_rfl⟩
theorem k9 : readE K7 [97] = 0 ∧ readV K7 [97] = [120, 121, 122, 117] ∧ oldL K7.F [97] = 4 := ⟨by kernel_rfl, by kernel_rfl, by kernel_rfl⟩
theorem k10 : appV K7 [] [120] = K7 ∧ appE K7 [] [120] = 6 ∧ onE K7 [98] = 3 := ⟨by kernel_rfl, by kernel_rfl, by kernel_rfl⟩
theorem g0 : GoodD K0 := good_new
theorem g1 : GoodD K1 := k1.1 ▸ good_app g0 _ _
theorem g2 : GoodD K2 := k2.1 ▸ good_syn g1 _
theorem g3 : GoodD K3 := k3.1 ▸ good_app g2 _ _
theorem g4 : GoodD K4 := k4 ▸ good_arm g3 (by omega) (by omega)
theorem g5 : GoodD K5 := k5.1 ▸ good_app g4 _ _
theorem g6 : GoodD K6 := k6.1 ▸ good_syn g5 _
theorem g7 : GoodD K7 := k7 ▸ good_mend g6 _

/-! ### The contracts, for a disk that lies above B -/
def DiskB (w : World) (B g : Nat) (D : Dk) : Prop := DiskP w (fun k => B ≤ k) g D
theorem DiskB.below {w w' : World} {B g : Nat} {D : Dk} (h : DiskB w B g D) (hb : Below w.heap.size w w') : DiskB w' B g D := DiskP.below h hb
theorem up {w w' w'' : World} {B g : Nat} {D : Dk} {S : Nat → Prop} (hB : B ≤ w.heap.size) (h : DiskP w' (More w S) g D) (hS : ∀ k, S k → B ≤ k) (ht : Turn w w'' S) : DiskB w' B g D ∧ Below B w w'' :=
  ⟨h.wide fun k hk => by
    rcases hk with hk | hk
    · exact hS k hk
    · omega, ht.below hB hS⟩
section
variable {B g : Nat} {D : Dk} {w : World}
theorem newB (w : World) (B : Nat) (hB : B ≤ w.heap.size) : Calls Try.prog 7 #[] w fun e w' => e = .returned (.pointer (some ⟨w.heap.size + 1, 0, none⟩)) ∧ DiskB w' B (w.heap.size + 1) K0 ∧ Below B w w' :=
  (new_any w).mono fun _ _ ⟨h1, h2, h3⟩ => ⟨h1, ⟨_, _, h2, fun k hk => by
    rcases hk with rfl | rfl | ⟨x, hx, -⟩
    · omega
    · exact hB
    · cases hx⟩, h3.mono hB⟩
theorem appendB (G : GoodD D) (hF : D.F.length ≤ 1000) (n s : Bs) (hn : n.length ≤ 100000) (hs : s.length ≤ 100000) (hB : B ≤ w.heap.size) (h : DiskB w B g D) :
    Calls Try.prog 9 #[.pointer (some ⟨g, 0, none⟩), sV n, sV s] w fun e w' => e = .returned (.int .i64 (appE D n s)) ∧ DiskB w' B g (appV D n s) ∧ Below B w w' :=
  (append_any G hF n s hn hs w h).mono fun _ _ ⟨h1, h2, h3⟩ => ⟨h1, up hB h2 (fun _ hk => hk) h3⟩
theorem syncB (G : GoodD D) (hF : D.F.length ≤ 1000) (n : Bs) (hn : n.length ≤ 100000) (hB : B ≤ w.heap.size) (h : DiskB w B g D) :
    Calls Try.prog 11 #[.pointer (some ⟨g, 0, none⟩), sV n] w fun e w' => e = .returned (.int .i64 (onE D n)) ∧ DiskB w' B g (synV D n) ∧ Below B w w' :=
  (sync_any G hF n hn w h).mono fun _ _ ⟨h1, h2, h3⟩ => ⟨h1, up hB h2 (fun _ hk => hk) h3⟩
theorem removeB (G : GoodD D) (n : Bs) (hn : n.length ≤ 100000) (hB : B ≤ w.heap.size) (h : DiskB w B g D) :
    Calls Try.prog 13 #[.pointer (some ⟨g, 0, none⟩), sV n] w fun e w' => e = .returned (.int .i64 (onE D n)) ∧ DiskB w' B g (remV D n) ∧ Below B w w' :=
  (remove_any G n hn w h).mono fun _ _ ⟨h1, h2, h3⟩ => ⟨h1, up hB h2 (fun _ hk => hk) h3⟩
theorem armB (n : Int) (hB : B ≤ w.heap.size) (h : DiskB w B g D) :
    Calls Try.prog 15 #[.pointer (some ⟨g, 0, none⟩), .int .i64 n] w fun e w' => e = .returned (.tuple #[]) ∧ DiskB w' B g (armV D n) ∧ Below B w w' := by
  obtain ⟨mb, E, h1, h2⟩ := h
  exact (arm_any n w h1).mono fun _ _ ⟨e1, e2, e3, _⟩ => ⟨e1, ⟨mb, E, e2, h2⟩, (Below.refl B w).grown e3 hB (fun k ek => by cases ek; exact h2 g (.inl rfl))⟩
theorem readB' (n : Bs) (hn : n.length ≤ 100000) (h : DiskB w B g D) :
    Calls Try.prog 21 #[.pointer (some ⟨g, 0, none⟩), sV n] w fun e w' => e = .returned (.tuple #[sV (readV D n), .int .i64 (readE D n)]) ∧ Below w.heap.size w w' := by
  obtain ⟨mb, E, h1, h2⟩ := h
  exact read_any n hn w h1
theorem lastsB (n : Bs) (hn : n.length ≤ 100000) (h : DiskB w B g D) :
    Calls Try.prog 23 #[.pointer (some ⟨g, 0, none⟩), sV n] w fun e w' => e = .returned (.int .i64 (oldL D.F n : Int)) ∧ w = w' := by
  obtain ⟨mb, E, h1, h2⟩ := h
  exact lasts_any n hn w h1
theorem downB (h : DiskB w B g D) : Calls Try.prog 28 #[.pointer (some ⟨g, 0, none⟩)] w fun e w' => e = .returned (.bool D.off) ∧ w = w' := by
  obtain ⟨mb, E, h1, h2⟩ := h
  exact down_any w h1
theorem namesB (G : GoodD D) (hF : D.F.length ≤ 1000) (h : DiskB w B g D) :
    Calls Try.prog 29 #[.pointer (some ⟨g, 0, none⟩)] w fun e w' => ∃ A c, e = .returned (.slice A (D.F.map Fl.n).length c) ∧ OwnS w' w.heap.size (.slice A (D.F.map Fl.n).length c) (D.F.map Fl.n) ∧ Below w.heap.size w w' := by
  obtain ⟨mb, E, h1, h2⟩ := h
  exact names_any G hF w h1
/-- Mend by a row that is newer than w0. -/
theorem mendB {w0 : World} (G : GoodD D) (hF : D.F.length ≤ 1000) (K : Option Addr) (kc : Nat) (keep : List Int) (hk : ∀ x ∈ keep, x ≤ 9223372036854775807) (hkl : keep.length ≤ 100000) (hB : B ≤ w0.heap.size) (h : DiskB w0 B g D) (hb : Below w0.heap.size w0 w) (hK : Lies w K (keep.map (Value.int .i64))) (hKn : ∀ a, K = some a → w0.heap.size ≤ a.block) :
    Calls Try.prog 17 #[.pointer (some ⟨g, 0, none⟩), .slice K keep.length kc] w fun e w' => e = .returned (.tuple #[]) ∧ DiskB w' B g (mendV D keep) ∧ Below B w w' := by
  have h1 : DiskP w0 (fun k => B ≤ k ∧ k < w0.heap.size) g D := by
    obtain ⟨mb, E, h1, h2⟩ := h
    exact ⟨mb, E, h1, fun k hk => ⟨h2 k hk, h1.inside hk⟩⟩
  exact (mend_any G hF K kc keep hk hkl w (h1.below hb) hK (fun a ha hh => by have := hKn a ha; omega)).mono fun _ _ ⟨e1, e2, e3⟩ => ⟨e1, up (Nat.le_trans hB hb.size) e2 (fun _ hk => hk.1) e3⟩
theorem copyB (G : GoodD D) (hF : D.F.length ≤ 1000) (h : DiskB w B g D) :
    Calls Try.prog 19 #[.pointer (some ⟨g, 0, none⟩)] w fun e w' => e = .returned (.pointer (some ⟨w.heap.size + 1, 0, none⟩)) ∧ DiskB w' w.heap.size (w.heap.size + 1) D ∧ Below w.heap.size w w' := by
  obtain ⟨mb, E, h1, h2⟩ := h
  exact copy_any G hF w h1
end
end Go.Proofs.Ytkfjgmfokpgcbaa.disk
