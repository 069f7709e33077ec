/-
  What a parse of a graph keeps: how many parts there are, how long the names are, that the numbers are numbers (mathematics).
  The program's parse of a graph.
-/
import Derived.Test.YtpblpjopinllcaaGreatDoorJGt2
import Derived.Test.YtpblpjopinllcaaGreatDoorJOg
import Derived.Test.YtpblpjopinllcaaGreatDoorJGp5o
import Derived.Test.YtpblpjopinllcaaGreatDoorJGz
import Derived.Test.YtpblpjopinllcaaGreatDoorJBlock
set_option linter.unusedSimpArgs false
set_option linter.unusedVariables false
namespace Go.Proofs.YtpblpjopinllcaaGreatDoor.graph
open Go.Proofs.YtpblpjopinllcaaGreatDoor.words

theorem lines_len9 : ∀ (r w : Bs), (linesC w r).length ≤ r.length + 1
  | [], w => by unfold linesC; split <;> simp
  | c :: r, w => by
    unfold linesC
    split
    · have := lines_len9 r []
      simp
      omega
    · have := lines_len9 r (w ++ [c])
      simp
      omega
theorem lines_each : ∀ (r w : Bs), ∀ x ∈ linesC w r, x.length ≤ w.length + r.length
  | [], w, x, hx => by
    unfold linesC at hx
    split at hx
    · cases hx
    · rw [List.mem_singleton] at hx
      subst hx
      simp
  | c :: r, w, x, hx => by
    unfold linesC at hx
    split at hx
    · rcases List.mem_cons.1 hx with rfl | hx
      · simp
      · have := lines_each r [] x hx
        simp at this ⊢
        omega
    · have := lines_each r (w ++ [c]) x hx
      simp at this ⊢
      omega
theorem split_len9 : ∀ (r w : Bs), (splitC w r).length ≤ r.length + 1
  | [], w => by unfold splitC; split <;> simp
  | c :: r, w => by
    unfold splitC
    split
    · have := split_len9 r []
      split
      · simp; omega
      · simp; omega
    · split
      · simp
      · have := split_len9 r (w ++ [c])
        simp
        omega
theorem split_each : ∀ (r w : Bs), ∀ x ∈ splitC w r, x.length ≤ w.length + r.length
  | [], w, x, hx => by
    unfold splitC at hx
    split at hx
    · cases hx
    · rw [List.mem_singleton] at hx
      subst hx
      simp
  | c :: r, w, x, hx => by
    unfold splitC at hx
    split at hx
    · split at hx
      · have := split_each r [] x hx
        simp at this ⊢
        omega
      · rcases List.mem_cons.1 hx with rfl | hx
        · simp
        · have := split_each r [] x hx
          simp at this ⊢
          omega
    · split at hx
      · cases hx
      · have := split_each r (w ++ [c]) x hx
        simp at this ⊢
        omega
/-- So many parts at most; names that are not long; numbers that are numbers. -/
structure PG (m : Nat) (g : Gr) : Prop where
  len : g.c.length + g.l.length + g.o.length + g.h.length ≤ m
  c : ∀ x ∈ g.c, x.n.length ≤ 100000
  l : ∀ x ∈ g.l, x.n.length ≤ 100000
  o : ∀ x ∈ g.o, x.n.length ≤ 100000
  i : g.In
theorem pg_nil : PG 0 noG := ⟨by simp, (by simp), (by simp), (by simp), ⟨by simp, by simp, by simp, by simp⟩⟩
theorem PG.more {m n : Nat} {g : Gr} (h : PG m g) (hm : m ≤ n) : PG n g := ⟨Nat.le_trans h.len hm, h.c, h.l, h.o, h.i⟩
theorem numV_64 (f x : Bs) : I64 (numV f x) := by
  unfold numV
  split
  · exact sg_bounds _
  · exact ⟨by omega, by omega⟩
theorem plV_lt {ix : List Bs → Bs → Option Nat} (hi : IxOk ix) (f : Bs) (N : List Bs) (x : Bs) : plV ix f N x ≤ N.length := by
  unfold plV
  split
  · cases h : ix N (x.drop f.length) with
    | none => exact Nat.zero_le _
    | some k => exact Nat.le_of_lt (hi.lt h)
  · exact Nat.zero_le _
theorem plV_64 {ix : List Bs → Bs → Option Nat} (hi : IxOk ix) (f : Bs) (N : List Bs) (hN : N.length ≤ 1000000) (x : Bs) : I64 ((plV ix f N x : Nat) : Int) := by
  have := plV_lt hi f N x
  exact ⟨by omega, by omega⟩
theorem lpV_64 {ix : List Bs → Bs → Option Nat} (hi : IxOk ix) (N : List Bs) (hN : N.length ≤ 1000000) (x : Bs) : I64 (lpV ix N x) := by
  unfold lpV
  split
  · exact ⟨by omega, by omega⟩
  · exact plV_64 hi _ _ hN _
theorem aV_64 (l : List Bs) : I64 (aV l) := by
  unfold aV
  split
  · exact ⟨by omega, by omega⟩
  · exact numV_64 _ _
theorem bV_64 (l : List Bs) : I64 (bV l) := by
  unfold bV
  split
  · split
    · exact ⟨by omega, by omega⟩
    · exact numV_64 _ _
  · exact ⟨by omega, by omega⟩
theorem kindN_64 (x : Bs) : I64 ((kindN x : Nat) : Int) := by
  have : ∀ f k, k + f ≤ 15 → kindFrom x f k ≤ 14 := by
    intro f
    induction f with
    | zero => intro k _; exact Nat.zero_le _
    | succ f ih =>
      intro k hk
      unfold kindFrom
      split
      · omega
      · exact ih (k + 1) (by omega)
  have h := this 14 1 (by omega)
  unfold kindN
  exact ⟨by omega, by omega⟩
theorem all_snoc {α : Type} {L : List α} {P : α → Prop} {x : α} (h : ∀ y ∈ L, P y) (hx : P x) : ∀ y ∈ L ++ [x], P y := by
  intro y hy
  rcases List.mem_append.1 hy with hy | hy
  · exact h y hy
  · rw [List.mem_singleton] at hy
    exact hy ▸ hx
/-- A line adds one part at most. -/
theorem pg_line {ix : List Bs → Bs → Option Nat} (hi : IxOk ix) {m : Nat} (hm : m ≤ 100000) {g : Gr} (h : PG m g) {w : List Bs} (hw : ∀ x ∈ w, x.length ≤ 100000) (h0 : (lineF ix g w).1 = 0) : PG (m + 1) (lineF ix g w).2 := by
  have hlen := h.len
  unfold lineF at h0 ⊢
  split
  · exact h.more (by omega)
  · rename_i k r
    split
    · rename_i e
      unfold clF
      split
      · rename_i n x heq
        have hn : n.length ≤ 100000 := hw n (by rw [heq]; simp)
        split
        · exact h.more (by omega)
        · exact ⟨by simp; omega, all_snoc h.c hn, h.l, h.o, ⟨all_snoc h.i.c (numV_64 _ _), h.i.l, h.i.o, h.i.h⟩⟩
      · exact h.more (by omega)
    · split
      · unfold loF
        split
        · rename_i n x y heq
          have hn : n.length ≤ 100000 := hw n (by rw [heq]; simp)
          split
          · exact h.more (by omega)
          · split
            · exact h.more (by omega)
            · exact ⟨by simp; omega, h.c, all_snoc h.l hn, h.o, ⟨h.i.c, all_snoc h.i.l ⟨lpV_64 hi _ (by simp; omega) _, numV_64 _ _⟩, h.i.o, h.i.h⟩⟩
        · exact h.more (by omega)
      · split
        · unfold opF
          split
          · rename_i n q x y rest heq
            have hn : n.length ≤ 100000 := hw n (by rw [heq]; simp)
            split
            · exact h.more (by omega)
            · split
              · exact h.more (by omega)
              · split
                · exact h.more (by omega)
                · split
                  · exact h.more (by omega)
                  · exact ⟨by simp; omega, h.c, h.l, all_snoc h.o hn, ⟨h.i.c, h.i.l, all_snoc h.i.o ⟨kindN_64 _, lpV_64 hi _ (by simp; omega) _, plV_64 hi _ _ (by simp; omega) _, aV_64 _, bV_64 _⟩, h.i.h⟩⟩
          · exact h.more (by omega)
        · split
          · unfold chF
            split
            · rename_i a t b heq
              split
              · exact h.more (by omega)
              · split
                · exact h.more (by omega)
                · split
                  · exact h.more (by omega)
                  · exact ⟨by simp; omega, h.c, h.l, h.o, ⟨h.i.c, h.i.l, h.i.o, all_snoc h.i.h ⟨plV_64 hi _ _ (by simp; omega) _, plV_64 hi _ _ (by simp; omega) _⟩⟩⟩
            · exact h.more (by omega)
          · exact h.more (by omega)
theorem drop_at9 {L : List Bs} {i : Nat} {x : Bs} (h : L[i]? = some x) : L.drop i = x :: L.drop (i + 1) := by
  have hi := (List.getElem?_eq_some_iff.1 h).1
  rw [List.drop_eq_getElem_cons hi]
  rw [List.getElem?_eq_getElem hi] at h
  rw [Option.some.inj h]
theorem parse_step {ix : List Bs → Bs → Option Nat} {L : List Bs} {i : Nat} {l : Bs} {g : Gr} (h : L[i]? = some l) : parseF ix (L.drop i) i g = if (lineF ix g (splitL l)).1 ≠ 0 then (noG, (i : Int) + 1, (lineF ix g (splitL l)).1) else parseF ix (L.drop (i + 1)) (i + 1) (lineF ix g (splitL l)).2 := by
  rw [drop_at9 h]
  rfl
theorem parse_end {ix : List Bs → Bs → Option Nat} {L : List Bs} {g : Gr} : parseF ix (L.drop L.length) L.length g = if checkE g ≠ 0 then (noG, 0, checkE g) else (g, 0, 0) := by
  rw [List.drop_length]
  rfl
/-- What is read is a graph of numbers, its names not long. -/
theorem parse_pg {ix : List Bs → Bs → Option Nat} (hi : IxOk ix) : ∀ (L : List Bs) (i m : Nat) (g : Gr), m + L.length ≤ 100000 → (∀ x ∈ L, x.length ≤ 100000) → PG m g → PG (m + L.length) (parseF ix L i g).1
  | [], i, m, g, _, _, h => by
    unfold parseF
    split
    · exact pg_nil.more (by omega)
    · exact h
  | l :: r, i, m, g, hm, hl, h => by
    unfold parseF
    split
    · exact pg_nil.more (by omega)
    · rename_i h1
      have hl0 := hl l (by simp)
      have := parse_pg hi r (i + 1) (m + 1) (lineF ix g (splitL l)).2 (by simp at hm; omega) (fun x hx => hl x (by simp [hx])) (pg_line hi (by simp at hm; omega) h (fun x hx => by have := split_each l [] x hx; simp at this; omega) (by simpa using h1))
      exact this.more (by simp; omega)
theorem parseV_pg {ix : List Bs → Bs → Option Nat} (hi : IxOk ix) (s : Bs) (hs : s.length ≤ 50000) : PG 100000 (parseV ix s).1 := by
  have h1 := lines_len9 s []
  have := parse_pg hi (linesL s) 0 0 noG (by unfold linesL; omega) (fun x hx => by have := lines_each s [] x hx; simp at this; omega) pg_nil
  exact this.more (by unfold linesL; omega)
end Go.Proofs.YtpblpjopinllcaaGreatDoor.graph
set_option linter.unusedSimpArgs false
set_option linter.unusedVariables false
namespace Go.Proofs.YtpblpjopinllcaaGreatDoor.graph
open Go.ChangeShapes Go.WideShapes Go.ChangeAt Go.RowKit
open Go.Proofs.YtpblpjopinllcaaGreatDoor.opened Go.Proofs.YtpblpjopinllcaaGreatDoor.block Go.Proofs.YtpblpjopinllcaaGreatDoor.words Go.Proofs.YtpblpjopinllcaaGreatDoor.region
theorem fit_pg {w : World} {B gd mc ml mo : Nat} {v : Gv} {g : Gr} {m : Nat} (h : DrP w B gd mc ml mo v g) (p : PG m g) : Fit v g :=
  ⟨OwnG.room h.oc, OwnG.room h.ol, OwnG.room h.oo, OwnG.room h.oh, p.c, p.l, p.o⟩
theorem lies_dr {w : World} {B gd mc ml mo : Nat} {v : Gv} {g : Gr} (h : DrP w B gd mc ml mo v g) : Lies4 w v g := ⟨OwnG.lg CELLS_cCl h.oc, OwnG.lg CELLS_cLo h.ol, OwnG.lg CELLS_cOq h.oo, OwnG.lg CELLS_cCh h.oh⟩
/-- The draft as it is made. -/
theorem dr_made {w : World} {B : Nat} (hB : B ≤ w.heap.size) : DrP ((((w.alloc (.map #[] 0)).alloc (.map #[] 0)).alloc (.map #[] 0)).alloc (.cells #[.slice none 0 0, .slice none 0 0, .slice none 0 0, .slice none 0 0, .map (some w.heap.size), .map (some (w.heap.size + 1)), .map (some (w.heap.size + 1 + 1))] 130)) B (w.heap.size + 1 + 1 + 1) w.heap.size (w.heap.size + 1) (w.heap.size + 1 + 1) ⟨none, none, none, none, 0, 0, 0, 0⟩ noG := by
  have z1 := size_alloc w (.map #[] 0)
  have z2 := size_alloc (w.alloc (.map #[] 0)) (.map #[] 0)
  have z3 := size_alloc ((w.alloc (.map #[] 0)).alloc (.map #[] 0)) (.map #[] 0)
  have W4 := Whole.fresh (((w.alloc (.map #[] 0)).alloc (.map #[] 0)).alloc (.map #[] 0)) 130 #[.slice none 0 0, .slice none 0 0, .slice none 0 0, .slice none 0 0, .map (some w.heap.size), .map (some (w.heap.size + 1)), .map (some (w.heap.size + 1 + 1))]
  rw [z3, z2, z1] at W4
  have m1 := ownI_made w
  have m2 := ownI_made (w.alloc (.map #[] 0))
  have m3 := ownI_made ((w.alloc (.map #[] 0)).alloc (.map #[] 0))
  rw [z1] at m2
  rw [z2, z1] at m3
  refine ⟨W4, ownG_nil _ _, ownG_nil _ _, ownG_nil _ _, ownG_nil _ _, ?_, ?_, ?_, by omega, by omega, by omega, by omega, by omega, by omega, by omega⟩
  · exact ((m1.below (fresh1 _ _)).below (fresh1 _ _)).below (fresh1 _ _)
  · exact (m2.below (fresh1 _ _)).below (fresh1 _ _)
  · exact m3.below (fresh1 _ _)
theorem rooms_none : Rooms ⟨none, none, none, none, 0, 0, 0, 0⟩ noG := ⟨Nat.le_refl _, Nat.le_refl _, Nat.le_refl _, Nat.le_refl _⟩
theorem lies_none (w : World) : Lies4 w ⟨none, none, none, none, 0, 0, 0, 0⟩ noG := ⟨.inl rfl, .inl rfl, .inl rfl, .inl rfl⟩
set_option maxRecDepth 100000 in
set_option maxHeartbeats 4000000 in
theorem parseP_any (s : Bs) (hs : s.length ≤ 40000) (w : World) (hE : Env w) (hK : KT w) :
    Calls Tryz.prog 15 #[sV s] w fun e w' => ∃ v', e = .returned (.tuple #[gV v' (parseV lastIx s).1, .int .i64 (parseV lastIx s).2.1, .int .i64 (parseV lastIx s).2.2]) ∧ Lies4 w' v' (parseV lastIx s).1 ∧ Rooms v' (parseV lastIx s).1 ∧ Below w.heap.size w w' := by
  obtain ⟨R, hR⟩ : ∃ R, parseV lastIx s = R := ⟨_, rfl⟩
  rw [hR]
  have LN := fun W hW => lines_any s (by omega) W hW
  have hll := lines_len9 s []
  have HLn : (linesL s).length ≤ 40001 := by unfold linesL; omega
  have HLx : ∀ x ∈ linesL s, x.length ≤ 40000 := fun x hx => by have := lines_each s [] x hx; simp at this; omega
  have hR0 : parseF lastIx ((linesL s).drop 0) 0 noG = R := hR
  generalize linesL s = L at LN HLn HLx hR0
  replace hR := Lib.hid hR0
  replace LN := Lib.hid LN
  have HLN := Lib.hid HLn
  replace HLx := Lib.hid HLx
  have hmm := @run_makeMap Tryz.prog
  have E0 := Lib.hid hE
  have K0 := Lib.hid hK
  clear hE hK hll hR0 HLn hs
  go_enter Tryz.func15, Tryz.ntmps15
  go_upto_region 2 with fail
  clear hmm
  have OG := Whole.fresh w 27 #[.slice none 0 0, .slice none 0 0, .slice none 0 0, .slice none 0 0]
  have b1 := fresh1 w (.cells #[.slice none 0 0, .slice none 0 0, .slice none 0 0, .slice none 0 0] 27)
  have z1 := size_alloc w (.cells #[.slice none 0 0, .slice none 0 0, .slice none 0 0, .slice none 0 0] 27)
  change Code.wp _ _ _ _ (((((w.alloc (.cells #[.slice none 0 0, .slice none 0 0, .slice none 0 0, .slice none 0 0] 27)).alloc (.map #[] 0)).alloc (.map #[] 0)).alloc (.map #[] 0)).alloc (.cells #[.slice none 0 0, .slice none 0 0, .slice none 0 0, .slice none 0 0, .map (some (w.heap.size + 1)), .map (some (w.heap.size + 1 + 1)), .map (some (w.heap.size + 1 + 1 + 1))] 130))
  generalize w.alloc (.cells #[.slice none 0 0, .slice none 0 0, .slice none 0 0, .slice none 0 0] 27) = w1 at OG b1 z1 ⊢
  have hD := dr_made (w := w1) (B := w1.heap.size) (Nat.le_refl _)
  have bd : Below w1.heap.size w1 ((((w1.alloc (.map #[] 0)).alloc (.map #[] 0)).alloc (.map #[] 0)).alloc (.cells #[.slice none 0 0, .slice none 0 0, .slice none 0 0, .slice none 0 0, .map (some w1.heap.size), .map (some (w1.heap.size + 1)), .map (some (w1.heap.size + 1 + 1))] 130)) :=
    ((((Below.refl _ _).alloc (Nat.le_refl _) _).alloc (by simp) _).alloc (by simp; omega) _).alloc (by simp; omega) _
  rw [z1] at hD bd
  generalize (((w1.alloc (.map #[] 0)).alloc (.map #[] 0)).alloc (.map #[] 0)).alloc (.cells #[.slice none 0 0, .slice none 0 0, .slice none 0 0, .slice none 0 0, .map (some (w.heap.size + 1)), .map (some (w.heap.size + 1 + 1)), .map (some (w.heap.size + 1 + 1 + 1))] 130) = w5 at hD bd ⊢
  obtain ⟨gr, hgr⟩ : ∃ gr, w.heap.size = gr := ⟨_, rfl⟩
  rw [hgr] at OG hD bd ⊢
  have B5 := Lib.hid (b1.trans (bd.mono (by rw [hgr]; omega)))
  rw [hgr] at B5
  have OG5 := Lib.hid (OG.below bd (by omega))
  obtain ⟨B, hB⟩ : ∃ B, gr + 1 = B := ⟨_, rfl⟩
  have hgB : gr < B := by omega
  obtain ⟨gd, hgd⟩ : ∃ gd, gr + 1 + 1 + 1 + 1 = gd := ⟨_, rfl⟩
  obtain ⟨mo, hmo⟩ : ∃ mo, gr + 1 + 1 + 1 = mo := ⟨_, rfl⟩
  obtain ⟨ml, hml⟩ : ∃ ml, gr + 1 + 1 = ml := ⟨_, rfl⟩
  rw [hgd, hmo, hml, hB] at hD
  rw [hgd, hmo, hml, hB]
  have HgB := Lib.hid hgB
  have Hgr := Lib.hid hgr
  have D5 := Lib.hid hD
  have LNw := Lib.hid (LN.out w5 (E0.out.max.below (Hgr.out ▸ B5.out)))
  clear hgd hmo hml hB hgr hgB hD bd b1 z1 OG LN
  go_wp2_with (go_at_call 73; refine LNw.out.mono ?_; rintro e w6 ⟨A, c, rfl, hO, b6⟩; have HO6 := Lib.hid hO; have D6 := Lib.hid (D5.out.below b6); have K6 := Lib.hid (b6.mono D5.out.size); clear hO b6)
  go_loopw [17] (fun a wr => ∃ (i : Nat) (v : Gv) (g : Gr), i ≤ L.length ∧ a = .int .i64 i ∧ Hid (DrP wr B gd B ml mo v g) ∧ Hid (PG i g) ∧ Hid (parseF lastIx (L.drop i) i g = R) ∧ Hid (Below B w5 wr) ∧ Hid (OwnS wr w5.heap.size (.slice A L.length c) L)) (fun a _ => (L.length - intOf a).toNat)
  case atStart => exact ⟨0, _, noG, Nat.zero_le _, rfl, D6, Lib.hid pg_nil, hR, K6, HO6⟩
  case round =>
    obtain ⟨i, v, g, hil, rfl, DR, HP, HR, HBR, HOR⟩ := hrel
    have Bw : Hid (∀ W, Below B wr W → Below gr w W) := Lib.hid fun W hW => B5.out.trans ((HBR.out.trans hW).mono (by have := HgB.out; omega))
    have GRw : Hid (∀ W, Below B wr W → Whole W gr 27 #[.slice none 0 0, .slice none 0 0, .slice none 0 0, .slice none 0 0]) := Lib.hid fun W hW => OG5.out.below (HBR.out.trans hW) HgB.out
    have hsz := Lib.hid DR.out.size
    by_cases hlt : i < L.length
    · obtain ⟨l, hl⟩ : ∃ l, L[i]? = some l := ⟨_, List.getElem?_eq_getElem hlt⟩
      obtain ⟨b, off, hA, hb, hc⟩ := Ls.at (OwnS.lies HOR.out) hl
      subst hA
      have hll := HLx.out l (List.mem_of_getElem? hl)
      have hpl := HLN.out
      have hst := parse_step (ix := lastIx) (g := g) hl
      rw [HR.out] at hst
      have SP := Lib.hid (split_any l (by omega) wr (E0.out.max.below (Hgr.out ▸ Bw.out wr (Below.refl _ _))))
      have HW : ∀ x ∈ splitL l, x.length ≤ 100000 := fun x hx => by have := split_each l [] x hx; simp at this; omega
      have HWl : (splitL l).length ≤ 100000 := by have := split_len9 l []; unfold splitL; omega
      have hlen := HP.out.len
      have PL := pg_line ok_last (m := i) (by omega) HP.out HW
      have AD := fun W (hW : Below wr.heap.size wr W) A2 c2 hO2 => add_any (B := B) A2 c2 (splitL l) HWl HW (by omega) (by omega) (by omega) (by omega) W (DR.out.below hW) hO2 (E0.out.below (Hgr.out ▸ Bw.out W (hW.mono hsz.out))) (K0.out.below (Hgr.out ▸ Bw.out W (hW.mono hsz.out)))
      clear hl hll HW HWl hlen
      generalize splitL l = ws at SP PL AD hst
      obtain ⟨re, rg, hr⟩ : ∃ re rg, lineF lastIx g ws = (re, rg) := ⟨_, _, rfl⟩
      rw [hr] at PL AD hst
      dsimp only at PL AD hst
      replace AD := Lib.hid AD
      clear hr
      by_cases he : re = 0
      · subst he
        rw [if_neg (by simp)] at hst
        have HP2 := Lib.hid (PL rfl)
        have HR2 := Lib.hid hst.symm
        clear PL hst
        go_wp2_with (first
          | (go_at_call 75; refine SP.out.mono ?_; rintro e w7 ⟨A2, c2, rfl, hO2, b7⟩; have AD7 := Lib.hid (AD.out w7 b7 A2 c2 (OwnS.low hO2 hsz.out)); have B7 := Lib.hid (b7.mono hsz.out); have O7 := Lib.hid (OwnS.below HOR.out b7); clear hO2 b7)
          | (go_at_call 74; refine AD7.out.mono ?_; rintro e w8 ⟨⟨rfl, v2, hD8⟩, b8⟩; have D8 := Lib.hid hD8; have B8 := Lib.hid (B7.out.trans b8.b); have O8 := Lib.hid (b8.k _ _ _ O7.out); clear hD8 b8))
        go_roundw
        case rel => exact ⟨i + 1, v2, rg, hlt, by go_num, D8, HP2, HR2, Lib.hid (HBR.out.trans B8.out), O8⟩
        case measure => simp [intOf]; omega
      · rw [if_pos he] at hst
        have hne : (re == 0) = false := by rw [beq_eq_false_iff_ne]; exact he
        clear PL
        go_upto_region 7 with (first
          | (go_at_call 75; refine SP.out.mono ?_; rintro e w7 ⟨A2, c2, rfl, hO2, b7⟩; have AD7 := Lib.hid (AD.out w7 b7 A2 c2 (OwnS.low hO2 hsz.out)); have B7 := Lib.hid (b7.mono hsz.out); clear hO2 b7)
          | (go_at_call 74; refine AD7.out.mono ?_; rintro e w8 ⟨⟨rfl, v2, hD8⟩, b8⟩; have B8 := Lib.hid (B7.out.trans b8.b); clear hD8 b8))
        have WG := Lib.hid (GRw.out _ B8.out)
        have q0 := WG.out.read 0
        have q1 := WG.out.read 1
        have q2 := WG.out.read 2
        have q3 := WG.out.read 3
        have s0 := WG.out.soft 0
        have s1 := WG.out.soft 1
        have s2 := WG.out.soft 2
        have s3 := WG.out.soft 3
        have GW := Lib.hid (only_store (only_store (only_store (only_store (World.grownBy.refl w8 (some gr)) (i := 0) (.slice none 0 0)) (i := 1) (.slice none 0 0)) (i := 2) (.slice none 0 0)) (i := 3) (.slice none 0 0))
        go_wp2_with fail
        refine bodyPost_ret (v := .tuple #[gV ⟨none, none, none, none, 0, 0, 0, 0⟩ noG, .int .i64 ((i : Int) + 1), .int .i64 re]) (by simp [results, Tryz.results15, go_sem, q0, q1, q2, q3]) rfl ?_
        rw [hst]
        exact ⟨_, rfl, lies_none _, rooms_none, by rw [Hgr.out]; exact below_only (Bw.out _ B8.out) GW.out (Nat.le_of_lt WG.out.inside) (Nat.le_refl _)⟩
    · obtain rfl : i = L.length := by omega
      have hst := HR.out
      rw [parse_end] at hst
      have CK := Lib.hid (check_any v g (fit_pg DR.out HP.out) HP.out.i wr (lies_dr DR.out) (K0.out.below (Hgr.out ▸ Bw.out wr (Below.refl _ _))))
      have d0 : wr.cell? ⟨gd, 0, none⟩ = some (.slice v.a g.c.length v.i) := DR.out.cells.read 0
      have d1 : wr.cell? ⟨gd, 1, none⟩ = some (.slice v.b g.l.length v.j) := DR.out.cells.read 1
      have d2 : wr.cell? ⟨gd, 2, none⟩ = some (.slice v.d g.o.length v.k) := DR.out.cells.read 2
      have d3 : wr.cell? ⟨gd, 3, none⟩ = some (.slice v.e g.h.length v.m) := DR.out.cells.read 3
      generalize checkE g = ce at CK hst
      by_cases he : ce = 0
      · subst he
        rw [if_neg (by simp)] at hst
        go_upto_region 12 with (go_at_call 23; refine CK.out.mono ?_; rintro e w8 ⟨rfl, b8⟩; have D8 := Lib.hid (DR.out.below b8); have B8 := Lib.hid (b8.mono hsz.out); clear b8)
        have WG := Lib.hid (GRw.out _ B8.out)
        clear d0 d1 d2 d3
        have d0 : w8.cell? ⟨gd, 0, none⟩ = some (.slice v.a g.c.length v.i) := D8.out.cells.read 0
        have d1 : w8.cell? ⟨gd, 1, none⟩ = some (.slice v.b g.l.length v.j) := D8.out.cells.read 1
        have d2 : w8.cell? ⟨gd, 2, none⟩ = some (.slice v.d g.o.length v.k) := D8.out.cells.read 2
        have d3 : w8.cell? ⟨gd, 3, none⟩ = some (.slice v.e g.h.length v.m) := D8.out.cells.read 3
        have q0 := WG.out.read 0
        have q1 := WG.out.read 1
        have q2 := WG.out.read 2
        have q3 := WG.out.read 3
        have s0 := WG.out.soft 0
        have s1 := WG.out.soft 1
        have s2 := WG.out.soft 2
        have s3 := WG.out.soft 3
        have GW := Lib.hid (only_store (only_store (only_store (only_store (World.grownBy.refl w8 (some gr)) (i := 0) (.slice v.a g.c.length v.i)) (i := 1) (.slice v.b g.l.length v.j)) (i := 2) (.slice v.d g.o.length v.k)) (i := 3) (.slice v.e g.h.length v.m))
        go_wp2_with fail
        refine bodyPost_ret (v := .tuple #[gV v g, .int .i64 0, .int .i64 0]) (by simp [results, Tryz.results15, go_sem, q0, q1, q2, q3]) rfl ?_
        rw [← hst]
        have LD := lies_dr D8.out
        have ng : ∀ {a : Addr}, B ≤ a.block → a.block ≠ gr := fun h e => by have := HgB.out; omega
        refine ⟨v, rfl, ⟨lg_past LD.c GW.out fun a e => ng (OwnG.gap D8.out.oc a e), lg_past LD.l GW.out fun a e => ng (OwnG.gap D8.out.ol a e), lg_past LD.o GW.out fun a e => ng (OwnG.gap D8.out.oo a e), lg_past LD.h GW.out fun a e => ng (OwnG.gap D8.out.oh a e)⟩, ⟨OwnG.room D8.out.oc, OwnG.room D8.out.ol, OwnG.room D8.out.oo, OwnG.room D8.out.oh⟩, ?_⟩
        rw [Hgr.out]
        exact below_only (Bw.out _ B8.out) GW.out (Nat.le_of_lt WG.out.inside) (Nat.le_refl _)
      · rw [if_pos he] at hst
        have hne : (ce == 0) = false := by rw [beq_eq_false_iff_ne]; exact he
        go_upto_region 11 with (go_at_call 23; refine CK.out.mono ?_; rintro e w8 ⟨rfl, b8⟩; have B8 := Lib.hid (b8.mono hsz.out); clear b8)
        have WG := Lib.hid (GRw.out _ B8.out)
        clear d0 d1 d2 d3
        have q0 := WG.out.read 0
        have q1 := WG.out.read 1
        have q2 := WG.out.read 2
        have q3 := WG.out.read 3
        have s0 := WG.out.soft 0
        have s1 := WG.out.soft 1
        have s2 := WG.out.soft 2
        have s3 := WG.out.soft 3
        have GW := Lib.hid (only_store (only_store (only_store (only_store (World.grownBy.refl w8 (some gr)) (i := 0) (.slice none 0 0)) (i := 1) (.slice none 0 0)) (i := 2) (.slice none 0 0)) (i := 3) (.slice none 0 0))
        go_wp2_with fail
        refine bodyPost_ret (v := .tuple #[gV ⟨none, none, none, none, 0, 0, 0, 0⟩ noG, .int .i64 0, .int .i64 ce]) (by simp [results, Tryz.results15, go_sem, q0, q1, q2, q3]) rfl ?_
        rw [← hst]
        exact ⟨_, rfl, lies_none _, rooms_none, by rw [Hgr.out]; exact below_only (Bw.out _ B8.out) GW.out (Nat.le_of_lt WG.out.inside) (Nat.le_refl _)⟩
end Go.Proofs.YtpblpjopinllcaaGreatDoor.graph
