/-
  All records of a time by keys: oper.Fold (by gen_fo.py).
-/
import Derived.Test.YtpbdfiddgbkkmaaDoorMg
import Derived.Test.YtpbdfiddgbkkmaaDoorDso
import Derived.Handy
import Derived.BigQuiet
import Derived.Deep.CutBlock
namespace Go.Proofs.YtpbdfiddgbkkmaaDoor.oper
open Go.ChangeShapes Go.WideShapes Go.ChangeAt Go.RowKit Go.Maps Go.WideMaps
open Go.Proofs.YtpbdfiddgbkkmaaDoor.tm Go.Proofs.YtpbdfiddgbkkmaaDoor.opened Go.Proofs.YtpbdfiddgbkkmaaDoor.block Go.Proofs.YtpbdfiddgbkkmaaDoor.region Go.Proofs.YtpbdfiddgbkkmaaDoor.data

theorem infoI : (Tryd.prog.info? 2).map (fun i => (i.zero, i.size, i.bytes)) = some (some (.int .i64 0), 1, 8) := by kernel_rfl
theorem infoI_parts : ∃ i, Tryd.prog.info? 2 = some i ∧ i.zero = some (.int .i64 0) ∧ i.size = 1 ∧ i.bytes = 8 := by
  have h := infoI
  rw [Option.map_eq_some_iff] at h
  obtain ⟨i, hi, he⟩ := h
  simp only [Prod.mk.injEq] at he
  exact ⟨i, hi, he.1, he.2.1, he.2.2⟩
theorem ints_flat (zs : List Int) : zs.map (Value.int .i64) = zs.flatMap cI := by
  induction zs with
  | nil => rfl
  | cons z r ih => rw [List.map_cons, List.flatMap_cons, ih]; rfl
theorem ints_li {w : World} {base : Nat} {v : Value} {zs : List Int} (h : w.ownsInts base 2 .i64 v zs) : ∃ A c, v = .slice A zs.length c ∧ Li w A zs := by
  have h1 : OwnG 2 1 cI w base v zs := by
    unfold OwnG
    rw [← ints_flat]
    exact h.1
  obtain ⟨A, c, rfl, -⟩ := h1.shape
  exact ⟨A, c, rfl, h1.lg cellsI⟩
/-- What a map that is gone through has given so far. -/
def doneV (k : Int) (L : List Rc) (left : Lit → Bool) : List Rc := ((gV L).filter fun p => !left (kL p.1)).map fun p => ⟨p.1, totV k p.2⟩
theorem done_len (k : Int) (L : List Rc) (left : Lit → Bool) : (doneV k L left).length ≤ L.length := by
  unfold doneV
  rw [List.length_map]
  refine Nat.le_trans (List.length_filter_le _ _) ?_
  unfold gV
  rw [List.length_map]
  exact keysS_len L
theorem done_start {es : List (Lit × DataW Nat)} {L : List Rc} (k : Int) (hp : es.Perm ((gV L).map pG)) : doneV k L (Maps.has (.map es)) = [] := by
  unfold doneV
  rw [List.map_eq_nil_iff, List.filter_eq_nil_iff]
  intro p hpm
  rw [hasG hp p.1, decide_eq_true (mem_gV.1 hpm).1]
  simp
theorem done_end {k : Int} {L : List Rc} {left : Lit → Bool} (h : ∀ kl, left kl = false) : doneV k L left = foldV k L := by
  unfold doneV
  rw [List.filter_eq_self.2 fun p _ => by rw [h]; rfl]
  unfold gV foldV
  rw [List.map_map]
  rfl
theorem done_step {k : Int} {L : List Rc} {left : Lit → Bool} {q : Int} (hq : (q, vals q L) ∈ gV L) (hl : left (kL q) = true) :
    (doneV k L left ++ [(⟨q, totV k (vals q L)⟩ : Rc)]).Perm (doneV k L fun z => left z && !z.sameKey (kL q)) := by
  have h0 : ∀ p : Int × List Int, (kL p.1).sameKey (kL q) = decide (p.1 = q) := fun p => by
    by_cases e : p.1 = q
    · rw [e, WideAt.sameKey_self (isKeyL q)]; simp
    · rw [Maps.sameKey_ne (fun h => e (kL_inj h))]; simp [e]
  have nd : (gV L).Nodup := (gV_apart L).imp fun h e => h (by rw [e])
  have key : (((gV L).filter fun p => !left (kL p.1)) ++ [(q, vals q L)]).Perm ((gV L).filter fun p => !(left (kL p.1) && !(kL p.1).sameKey (kL q))) := by
    refine (List.perm_ext_iff_of_nodup ?_ (nd.sublist List.filter_sublist)).2 fun p => ?_
    · refine List.nodup_append.2 ⟨nd.sublist List.filter_sublist, by simp, fun a ha b hb e => ?_⟩
      simp only [List.mem_singleton] at hb
      subst hb
      subst e
      have := (List.mem_filter.1 ha).2
      simp [hl] at this
    · rw [List.mem_append, List.mem_filter, List.mem_filter, h0]
      constructor
      · rintro (⟨h1, h2⟩ | h1)
        · refine ⟨h1, ?_⟩
          have h3 : left (kL p.1) = false := by simpa using h2
          rw [h3]
          rfl
        · have e : p = (q, vals q L) := by simpa using h1
          rw [e]
          exact ⟨hq, by simp⟩
      · rintro ⟨h1, h2⟩
        by_cases e : p.1 = q
        · refine .inr ?_
          have h3 := (mem_gV.1 h1).2
          obtain ⟨a, b⟩ := p
          simp only at e h3
          subst e
          rw [h3]
          simp
        · refine .inl ⟨h1, ?_⟩
          rw [decide_eq_false e] at h2
          simpa using h2
  have := key.map fun p : Int × List Int => (⟨p.1, totV k p.2⟩ : Rc)
  rw [List.map_append] at this
  exact this
/-- The step over the map: nothing is left, or a key that has not come yet, with its values. -/
theorem next_groups {w W0 : World} {ops : Array Oper} {rest : List Oper} {o : Oper} {a : Act} {Q : Exit → Act → World → Prop} (hg : o.guard = none) (it : Operand) (hop : o.op = Op.next it false)
    (base b r n : Nat) {es : List (Lit × DataW Nat)} {L : List Rc} (hp : es.Perm ((gV L).map pG)) (iL : InR L) (left : Lit → Bool) (cnt : Nat)
    (hit : a.eval it = .pointer (some ⟨r, 0, none⟩)) (h : w.ranges Tryd.prog 2 (rowElem W0 base 2 .i64) b r n (.map es) left cnt)
    (hDone : cnt = 0 → (∀ kl, left kl = false) → wpList Tryd.prog ops Q rest (a.put o.dst (.tuple #[.bool false])) w)
    (hMore : ∀ (q : Int) (v : Value), (q, vals q L) ∈ gV L → left (kL q) = true → W0.ownsInts base 2 .i64 v (vals q L) → ∀ (w' : World) (cnt' : Nat), w'.ranges Tryd.prog 2 (rowElem W0 base 2 .i64) b r n (.map es) (fun z => left z && !z.sameKey (kL q)) cnt' → cnt' < cnt →
      w.grownBy w' (some r) → w'.heap.size = w.heap.size → (Instr.entry (.pointer (some ⟨r, 0, none⟩))).run Tryd.prog w' = .ok (.tuple #[.int .i64 q, v]) w' → wpList Tryd.prog ops Q rest (a.put o.dst (.tuple #[.bool true, .int .i64 q, v])) w') :
    wpList Tryd.prog ops Q (o :: rest) a w := by
  refine wpList_plain hg fun K' hK' => ?_
  unfold Oper.wp
  rcases h.next keyed64 o.type with ⟨h0, hl, hrun⟩ | ⟨key, v, kl, y, w', cnt', hkey, hlk, hv, hat, hrun, hrg, hlt, hgr, hsz, hen⟩
  · simp [execOp, hop, hit, hrun, Result.andThen]
    exact hK' _ _ (hDone h0 hl)
  · have hh := Maps.has_true_of_atKey hat
    rw [has_eq] at hh
    obtain ⟨z, hz, hs⟩ := List.any_eq_true.1 hh
    obtain ⟨p, hpm, he⟩ := List.mem_map.1 (hp.mem_iff.1 hz)
    have ekl : kl = kL p.1 := by rw [← WideAt.sameKey_eq hs, ← he]; rfl
    obtain ⟨⟨x, hx, hxk⟩, hp2⟩ := mem_gV.1 hpm
    subst ekl
    have iq : I64 p.1 := by rw [← hxk]; exact (iL x hx).1
    have ek := keyed64.inj hkey (keyOf64 iq)
    subst ek
    obtain ⟨zs, ho, rfl⟩ := rowElem_inv hv
    have e := found_vals hp (hat .nil) ho
    rw [e] at ho
    obtain ⟨q, l⟩ := p
    simp only at hp2
    subst hp2
    simp [execOp, hop, hit, hrun, Result.andThen]
    exact hK' _ _ (hMore q v hpm hlk ho w' cnt' hrg hlt hgr hsz hen)
theorem shuns_new {w : World} {base b : Nat} {L : List Rc} (h : OwnM w base b L) (hlt : b < w.heap.size) {w' : World} (hb : Below w.heap.size w w') : w'.Shuns b fun g => w.heap.size ≤ g := by
  obtain ⟨es, hp, ho⟩ := h
  have h0 : w.Shuns b fun _ => False := fun _ _ _ _ _ _ _ hf => hf
  exact (h0.reno ho fun g hg => .inr hg).kept (grown_below (row := none) hb) hlt (by simp)
theorem ownM_lt {w : World} {base b : Nat} {L : List Rc} (h : OwnM w base b L) : b < w.heap.size ∧ b < base := by
  obtain ⟨es, hp, xs, clock, hb, F, hz, hD, hbb, hlen, hap⟩ := h
  exact ⟨(Array.getElem?_eq_some_iff.1 hb).1, hbb⟩
theorem lt_of_same {w w' : World} {b : Nat} (h : w'.heap[b]? = w.heap[b]?) (hb : b < w.heap.size) : b < w'.heap.size := by
  rw [Array.getElem?_eq_getElem hb] at h
  exact (Array.getElem?_eq_some_iff.1 h).1
theorem keeps_jp {base b : Nat} {L : List Rc} {x : Rc} (wx : World) : Keeps fun u w7 => b < w7.heap.size ∧ (w7.heap[b]? = wx.heap[b]? → Joined base b L x u w7) := fun u w w' hb h =>
  ⟨Nat.lt_of_lt_of_le h.1 hb.size, fun e => keeps_joined u w w' hb (h.2 ((hb.block b h.1).symm.trans e))⟩
theorem jp_store {base b : Nat} {L : List Rc} {x : Rc} {wx w7 w8 : World} {u : Value} (hg : w7.grownBy w8 (some b)) (h : b < w7.heap.size ∧ (w7.heap[b]? = wx.heap[b]? → Joined base b L x u w7)) (h0 : w7.heap[b]? = wx.heap[b]?) : b < w8.heap.size ∧ (w8.heap[b]? = wx.heap[b]? → Joined base b L x u w8) :=
  ⟨Nat.lt_of_lt_of_le h.1 hg.size, fun e => keeps_joined u w7 w8 ⟨hg.os, hg.tape, hg.output, hg.size, fun i hi => by
    by_cases hib : i = b
    · rw [hib, e, h0]
    · exact hg.block i hi (fun e => hib (Option.some.inj e))⟩ (h.2 h0)⟩
theorem ints_appended {wx w8 : World} {base : Nat} {v v' : Value} {zs : List Int} {x : Int} (h : wx.ownsInts base 2 .i64 v zs) (hown : w8.ownsRow base 2 1 v' (zs.length + 1) (zs.map (Value.int .i64) ++ cI x)) (hx : I64 x) : w8.ownsInts base 2 .i64 v' (zs ++ [x]) := by
  refine ⟨by rw [List.length_append, List.map_append]; exact hown, fun z hz => ?_⟩
  rcases List.mem_append.1 hz with hz | hz
  · exact h.2 z hz
  · have : z = x := by simpa using hz
    rw [this]
    exact wf64 hx
set_option maxRecDepth 100000 in
set_option maxHeartbeats 8000000 in
theorem fold_yes (kd : Int) (hkd : keepsB kd = true) (A : Option Addr) (c : Nat) (L : List Rc) (iL : InR L) (mL : L.length ≤ 4096) (w : World) (hL : Lr w A L) :
    Calls Tryd.prog 15 #[.int .i64 kd, .slice A L.length c] w fun e W' => ∃ B c', e = .returned (.tuple #[.slice B (foldV kd L).length c', .int .i64 0]) ∧ Lr W' B (foldV kd L) ∧ Below w.heap.size w W' := by
  have HLr := Lib.hid hL
  have HI := Lib.hid iL
  have KP := Lib.hid (fun w0 => keeps_any kd w0)
  rw [hkd] at KP
  have TT := Lib.hid (fun A c zs w0 h1 h2 h3 => total_any kd A c zs h1 h2 w0 h3)
  have OD := Lib.hid (fun A c N w0 h1 h2 => order_any A c N h1 w0 h2)
  have HB0 := Lib.hid (fresh0 w (.map #[] 0))
  have HM0 := Lib.hid (ownM_made w)
  clear hL iL hkd
  obtain ⟨i0, hi0, hz0, hz1, hz2⟩ := infoR_parts
  obtain ⟨i1, hi1, hz4, hz5, hz6⟩ := infoI_parts
  have hmm := @run_makeMap Tryd.prog
  go_enter Tryd.func15, Tryd.ntmps15
  go_wp2_with (go_at_call 13; refine (KP.out _).mono ?_; rintro e w2 ⟨rfl, rfl⟩)
  clear hmm
  go_loopw [18] (fun s wr => ∃ k : Nat, k ≤ L.length ∧ s = .int .i64 k ∧ Hid (OwnM wr (w.heap.size + 1) w.heap.size (L.take k)) ∧ Hid (Below w.heap.size w wr) ∧ Hid (w.heap.size + 1 ≤ wr.heap.size)) (fun s _ => L.length - (intOf s).toNat)
  case atStart => exact ⟨0, Nat.zero_le _, rfl, by rw [List.take_zero]; exact HM0, HB0, Lib.hid (by simp)⟩
  case round =>
    obtain ⟨k, hk, rfl, HM, HB, HS⟩ := hrel
    clear HM0 HB0
    by_cases hlt : k < L.length
    · obtain ⟨x, hx, hxm⟩ := get_ltR hlt
      obtain ⟨b1, o1, hA, hb1, c0, c1⟩ := at_rc (HLr.out.below HB.out) hx
      subst hA
      have HLT := Lib.hid (take_next hx)
      have ixk := (HI.out x hxm).1
      have ixv := (HI.out x hxm).2
      clear hx hxm
      go_upto_region 7 with fail
      change Code.wp _ _ _ _ (wr.alloc (.cells #[.int .i64 x.k, .int .i64 x.v] 33))
      have bb := fresh0 wr (.cells #[.int .i64 x.k, .int .i64 x.v] 33)
      have WX := Whole.fresh wr 33 #[.int .i64 x.k, .int .i64 x.v]
      have HSH := Lib.hid (shuns_new HM.out (ownM_lt HM.out).1 bb)
      have HMx := Lib.hid (HM.out.keptB bb)
      have HWL := Lib.hid (Nat.le_trans HB.out.size bb.size)
      have HBW := Lib.hid (Nat.le_trans HS.out bb.size)
      have HGB : Hid (wr.heap.size < (wr.alloc (.cells #[.int .i64 x.k, .int .i64 x.v] 33)).heap.size) := Lib.hid WX.inside
      have HRN : Hid (RN w (wr.alloc (.cells #[.int .i64 x.k, .int .i64 x.v] 33)) wr.heap.size 0 x (wr.alloc (.cells #[.int .i64 x.k, .int .i64 x.v] 33))) := Lib.hid ⟨HB.out.trans (bb.mono HB.out.size), Nat.le_refl _, WX.read 0, WX.read 1⟩
      have HGM : Hid (some wr.heap.size ≠ some w.heap.size) := Lib.hid (fun e => by have e := Option.some.inj e; have := HS.out; omega)
      have hLL : (L.take k).length ≤ 4096 := by rw [List.length_take]; omega
      clear HM HB HS bb WX c0 c1
      obtain ⟨wx, hwx⟩ : ∃ wx, wx = wr.alloc (.cells #[.int .i64 x.k, .int .i64 x.v] 33) := ⟨_, rfl⟩
      rw [← hwx] at HSH HMx HWL HBW HGB HRN ⊢
      obtain ⟨gb, hgb⟩ : ∃ gb, gb = wr.heap.size := ⟨_, rfl⟩
      rw [← hgb] at HSH HGB HRN HGM ⊢
      clear hwx hgb
      obtain ⟨base, hbase⟩ : ∃ base, base = w.heap.size + 1 := ⟨_, rfl⟩
      obtain ⟨b, hb⟩ : ∃ b, b = w.heap.size := ⟨_, rfl⟩
      have HWB : Hid (w.heap.size ≤ base) := Lib.hid (by omega)
      have HWM : Hid (w.heap.size ≤ b) := Lib.hid (by omega)
      rw [← hbase] at HBW HMx
      have HBL := Lib.hid (ownM_lt HMx.out).1
      have HB9 := Lib.hid hb
      have HB8 := Lib.hid hbase
      obtain ⟨HM, hHM⟩ : ∃ h : Hid (OwnM wx base b (L.take k)), True := ⟨Lib.hid (by rw [hb]; exact HMx.out), trivial⟩
      rw [← hb] at HSH HBL HGM ⊢
      clear hb hbase HMx hHM
      have HGX := Lib.hid HGB.out
      generalize hLk : L.take k = LL at HM HLT hLL
      clear hLk
      refine region_full 51 [(10, 11)] [(10, 6), (11, 6), (11, 10)] (fun k => k == 6 || k == 10 || k == 11) (fun w7 => RN w wx gb 0 x w7) ?hR ?r0 [pdOne 0 (Is (.map (some b))), pdOne 1 (Is (.pointer (some ⟨gb, 0, none⟩))), pdOne 2 (Is (.int .i64 x.k)), pdOne 3 (Is (.map (some b))), pdOne 4 (Is (.pointer (some ⟨gb, 0, none⟩))), pdOne 5 (Is (.int .i64 x.k)), pdOne 6 (fun u _ => Looked base b LL x.k gb u wx), pdOne 7 (Is (.pointer (some ⟨gb, 1, none⟩))), pdOne 8 (Is (.int .i64 x.v)), pdOne 9 (LoneG 2 cI wx.heap.size x.v), pdOne 10 (fun u w7 => b < w7.heap.size ∧ (w7.heap[b]? = wx.heap[b]? → Joined base b LL x u w7)), pdOne 11 (fun _ w7 => OwnM w7 base b (LL ++ [x]))] (fun k w7 => ((k = 6 ∨ k = 10) → Below wx.heap.size wx w7) ∧ (k = 11 → w7.heap[b]? = wx.heap[b]?)) (by kernel_rfl) rfl (by kernel_rfl) (by kernel_rfl) (by kernel_rfl) (by kernel_rfl) ?keep ?hO ?h0 ?tell
      case hR => exact fun wa wb hb h => h.run HWL.out HGX.out hb
      case r0 => exact HRN.out
      case keep => exact ⟨keep_one (keeps_is _), keep_one (keeps_is _), keep_one (keeps_is _), keep_one (keeps_is _), keep_one (keeps_is _), keep_one (keeps_is _), keep_one (fun _ _ _ _ h => h), keep_one (keeps_is _), keep_one (keeps_is _), keep_one (keeps_loneG _ _), keep_one (keeps_jp wx), keep_one (fun _ _ _ hb h => h.keptB hb), trivial⟩
      case hO => exact fun k wa wb hb h => ⟨fun e => (h.1 e).trans (hb.mono (h.1 e).size), fun e => (hb.block _ (lt_of_same (h.2 e) HBL.out)).trans (h.2 e)⟩
      case h0 => exact fun _ _ => ⟨fun _ => Below.refl _ _, fun _ => rfl⟩
      case tell =>
        intro fin hfin
        simp [lexPut, Act.put] at hfin
        simp only [TellF]
        refine ⟨⟨?_, ?_, ?_, ?_, ?_, ?_, ?_, ?_, ?_, ?_, ?_, ?_, trivial⟩, ?_⟩
        · intro v2 w7 hr hd
          refine yields_run (u := .map (some b)) (w' := w7) ?_ (Below.refl _ _) rfl
          unfold execOp
          simp [go_sem, Act.eval]
        · intro v2 w7 hr hd
          refine yields_run (u := .pointer (some ⟨gb, 0, none⟩)) (w' := w7) ?_ (Below.refl _ _) rfl
          unfold execOp
          simp [go_sem, Act.eval, Act.put]
        · intro v2 w7 hr hd
          have h1 : v2 1 = _ := hd 1 (by kernel_rfl)
          have k0 := hr.c0
          refine yields_run (u := .int .i64 x.k) (w' := w7) ?_ (Below.refl _ _) rfl
          unfold execOp
          simp [go_sem, Act.eval, Act.put, h1, k0]
        · intro v2 w7 hr hd
          refine yields_run (u := .map (some b)) (w' := w7) ?_ (Below.refl _ _) rfl
          unfold execOp
          simp [go_sem, Act.eval, Act.put]
        · intro v2 w7 hr hd
          refine yields_run (u := .pointer (some ⟨gb, 0, none⟩)) (w' := w7) ?_ (Below.refl _ _) rfl
          unfold execOp
          simp [go_sem, Act.eval, Act.put]
        · intro v2 w7 hr hd
          have h4 : v2 4 = _ := hd 4 (by kernel_rfl)
          have k0 := hr.c0
          refine yields_run (u := .int .i64 x.k) (w' := w7) ?_ (Below.refl _ _) rfl
          unfold execOp
          simp [go_sem, Act.eval, Act.put, h4, k0]
        · intro v2 w7 hr ho hd
          have h3 : v2 3 = _ := hd 3 (by kernel_rfl)
          have h5 : v2 5 = _ := hd 5 (by kernel_rfl)
          obtain ⟨v0, hrun, hlk⟩ := look_run HM.out hLL HSH.out ((ho.1 (.inl (by first | rfl | trivial))).block b HBL.out) ixk
          refine .inl (.inl ⟨v0, w7, ?_, hr, fun _ _ _ _ hu => hu, fun _ _ _ _ hu => hu, hlk⟩)
          unfold execOp
          simp [go_sem, Act.eval, Act.put, h3, h5, hrun]
        · intro v2 w7 hr hd
          refine yields_run (u := .pointer (some ⟨gb, 1, none⟩)) (w' := w7) ?_ (Below.refl _ _) rfl
          unfold execOp
          simp [go_sem, Act.eval, Act.put]
        · intro v2 w7 hr hd
          have h7 : v2 7 = _ := hd 7 (by kernel_rfl)
          have k1 : w7.cell? ⟨gb, 1, none⟩ = _ := hr.c1
          refine yields_run (u := .int .i64 x.v) (w' := w7) ?_ (Below.refl _ _) rfl
          unfold execOp
          simp [go_sem, Act.eval, Act.put, h7, k1]
        · intro v2 w7 hr hd
          have h8 : v2 8 = _ := hd 8 (by kernel_rfl)
          refine yields_run (u := .slice (some ⟨w7.heap.size, 0, none⟩) 1 1) (w' := w7.alloc (.cells (cI x.v).toArray 2)) ?_ (fresh0 w7 _) ⟨w7.heap.size, rfl, hr.size, Whole.fresh w7 _ _⟩
          unfold execOp
          simp [go_sem, Act.eval, Act.put, h8, cI]
        · intro v2 w7 hr ho hd
          obtain ⟨es, hp, hoi, hback, HG, hbb⟩ : Looked base b LL x.k gb (v2 6) wx := hd 6 (by kernel_rfl)
          obtain ⟨gy, hz, hyl, hw⟩ : LoneG 2 cI wx.heap.size x.v (v2 9) w7 := hd 9 (by kernel_rfl)
          have hb7 := ho.1 (.inr (by first | rfl | trivial))
          obtain ⟨vv, hvv⟩ : ∃ vv, vv = v2 6 := ⟨_, rfl⟩
          rw [← hvv] at hoi hback HG
          have hoi7 := hoi.kept (grown_below (row := none) hb7) (by cases vv.ownBlock <;> simp)
          refine .inl (yields_appendA (.tmp 28) (.tmp 31) 50 rfl base 2 i1 (.int .i64 0) 1 8 Tryd.underlying50 hi1 hz4 hz5 hz6 rfl (by decide) vv (vals x.k LL).length ((vals x.k LL).map (Value.int .i64)) (by simp [Act.eval, Act.put, hvv]) hoi7.1 ⟨gy, 0, none⟩ 1 1 (cI x.v) (by simp [Act.eval, Act.put, hz]) rfl (whole_cells hw) (cellsI.one x.v) (by decide) (by have := vals_len x.k LL; unfold maxLen; omega) (by have := vals_len x.k LL; omega) (Nat.le_trans HBW.out hr.size) ?_)
          intro g8 cap8 w8 hown hgrow hat
          have hne : some b ≠ vv.ownBlock := fun e => by have := (hoi.1.lt b e.symm).1; omega
          have hgb : some gb ≠ vv.ownBlock := fun e => by have := HG gb e.symm; omega
          have hblk : w8.heap[b]? = w7.heap[b]? := hgrow.block b (Nat.lt_of_lt_of_le HBL.out hr.size) hne
          refine ⟨hr.grow HWL.out hgb (fun j hj => by have := (hoi.1.lt j hj).1; have := HWB.out; omega) hgrow, ?_, ?_, Nat.lt_of_lt_of_le (Nat.lt_of_lt_of_le HBL.out hr.size) hgrow.size, fun _ => ⟨wx, vv, es, hp, hback, (grown_below hb7).trans hgrow, ints_appended hoi hown ixv, ?_⟩⟩
          · intro k2 v' hk2 hc hu
            exact match k2, hk2, hc, hu with
              | 0, _, _, hu => hu
              | 1, _, _, hu => hu
              | 2, _, _, hu => hu
              | 3, _, _, hu => hu
              | 4, _, _, hu => hu
              | 5, _, _, hu => hu
              | 6, _, _, hu => hu
              | 7, _, _, hu => hu
              | 8, _, _, hu => hu
              | 9, _, _, ⟨gx, h1, h2, h3⟩ => ⟨gx, h1, h2, h3.grown hgrow (fun e => by have := HG gx e.symm; have := HGB.out; omega)⟩
              | 10, hk2, _, _ => absurd rfl hk2
              | 11, _, hc, _ => absurd hc (by decide)
              | _ + 12, _, _, _ => trivial
          · intro k2 hk2 hn hc2 h
            refine ⟨fun e => ?_, fun e => (hblk.trans (h.2 e))⟩
            rcases e with rfl | rfl
            · exact absurd hc2 (by decide)
            · exact absurd rfl hk2
          · rcases hat with e | e
            · exact .inl e.symm
            · exact .inr ⟨g8, rfl, by rw [e]; exact hr.size⟩
        · intro v2 w7 hr ho hd
          have h0 : v2 0 = _ := hd 0 (by kernel_rfl)
          have h2 : v2 2 = _ := hd 2 (by kernel_rfl)
          have hJ : b < w7.heap.size ∧ (w7.heap[b]? = wx.heap[b]? → Joined base b LL x (v2 10) w7) := hd 10 (by kernel_rfl)
          obtain ⟨w8, hrun, hM8, hgr⟩ := join_store (hJ.2 (ho.2 (by first | rfl | trivial)))
          refine .inr ⟨w8, ?_, hr.grow HWL.out HGM.out (fun j hj => by have hj := Option.some.inj hj; have := HWM.out; omega) hgr, ?_, ?_, hM8⟩
          · clear hJ hM8 hgr
            generalize v2 10 = u8 at hrun
            unfold execOp
            simp [go_sem, Act.eval, Act.put, h0, h2, hrun]
          · intro k2 v' hk2 hc hu
            exact match k2, hk2, hc, hu with
              | 0, _, _, hu => hu
              | 1, _, _, hu => hu
              | 2, _, _, hu => hu
              | 3, _, _, hu => hu
              | 4, _, _, hu => hu
              | 5, _, _, hu => hu
              | 6, _, _, hu => hu
              | 7, _, _, hu => hu
              | 8, _, _, hu => hu
              | 9, _, _, ⟨gx, h1, h2, h3⟩ => ⟨gx, h1, h2, h3.grown hgr (fun e => by have e := Option.some.inj e; have := HBL.out; omega)⟩
              | 10, _, _, hu => jp_store hgr hu (ho.2 (by first | rfl | trivial))
              | 11, hk2, _, _ => absurd rfl hk2
              | _ + 12, _, _, _ => trivial
          · intro k2 hk2 hn hc2 h
            refine ⟨fun e => ?_, fun e => absurd e hk2⟩
            rcases e with rfl | rfl <;> exact absurd hc2 (by decide)
        · intro v2 w7 hr hv
          have hM7 : OwnM w7 base b (LL ++ [x]) := hv 11 (by decide)
          rw [hfin]
          have HM7 := Lib.hid hM7
          have HB7 := Lib.hid hr.old
          have HS7 := Lib.hid (Nat.le_trans HBW.out hr.size)
          clear hfin hv hr hM7
          have hb9 := HB9.out
          have hb8 := HB8.out
          clear HB9 HB8
          subst hb9 hb8
          go_wp2_with fail
          go_roundw
          case rel => exact ⟨k + 1, by omega, by go_num, Lib.hid (by rw [HLT.out]; exact HM7.out), HB7, HS7⟩
          case measure => simp [intOf]; omega
    · obtain rfl : k = L.length := by omega
      rw [List.take_length] at HM
      obtain ⟨es, hp, ho⟩ := HM.out
      have hro : wr.ownsMap Tryd.prog 2 (rowElem wr (w.heap.size + 1) 2 .i64) w.heap.size L.length (.map es) := by
        obtain ⟨xs, clock, hb, F, hz, hD, -⟩ := ho
        exact ⟨xs, clock, hb, F, hz, hD⟩
      have hP := Lib.hid hp
      have hbl := Lib.hid (ownM_lt HM.out).1
      clear hp ho HLr KP
      go_wp2_with (first | (at_range; refine wpList_range_own _ rfl _ 49 rfl 2 50 keyed64 Tryd.underlying49 _ w.heap.size L.length _ rfl hro ?_; intro w0 hrg0 hg0 hs0) | go_in)
      go_frame
      have HS0 := Lib.hid hs0
      have HP0 := Lib.hid (done_start kd hP.out)
      go_loopw [9, 10, 11] (fun v _ _ w9 => ∃ (N : List Rc) (B : Option Addr) (c' : Nat) (left : Lit → Bool) (cnt : Nat), v = .slice B N.length c' ∧ w9.ranges Tryd.prog 2 (rowElem wr (w.heap.size + 1) 2 .i64) w.heap.size wr.heap.size L.length (.map es) left cnt ∧ Hid (N.Perm (doneV kd L left)) ∧ Hid (OwnR w9 (wr.heap.size + 1) (.slice B N.length c') N) ∧ Hid (Below wr.heap.size wr w9) ∧ Hid (wr.heap.size + 1 ≤ w9.heap.size)) (fun _ _ _ w9 => w9.rangeLeft w.heap.size wr.heap.size)
      case atStart => exact ⟨[], none, 0, _, _, rfl, hrg0, Lib.hid (by rw [HP0.out]), Lib.hid (ownG_nil _ _), Lib.hid ⟨hg0.os, hg0.tape, hg0.output, hg0.size, fun k hk => hg0.block k hk (by simp)⟩, Lib.hid (by omega)⟩
      case round =>
        obtain ⟨N, B, c', left, cnt, rfl, hrg, HN, HO, HB9, HS9⟩ := hrel
        rename World => w9
        clear hrg0 hg0 hs0 hro
        have hNl : N.length ≤ 4096 := by
          have e1 := HN.out.length_eq
          have e2 := done_len kd L left
          omega
        go_wp2_with (first | (at_next; refine next_groups rfl _ rfl (w.heap.size + 1) w.heap.size wr.heap.size L.length hP.out HI.out left cnt rfl hrg ?_ ?_) | go_in)
        · intro _ hl0
          have HK : Hid (srtR N = foldV kd L) := Lib.hid (by
            rw [srt_congr (HN.out.trans (by rw [done_end hl0]))]
            exact (srt_uniq (List.Perm.refl _) (rise_srt (fold_rise kd L))).symm)
          have C := Lib.hid (OD.out B c' N w9 hNl (HO.out.lg cellsR))
          rw [HK.out] at C
          clear hrg HN HO hNl HP0
          go_wp2_with ((go_at_call 19; refine C.out.mono ?_; rintro e w6 ⟨E, c6, rfl, h6, b6⟩; have H6 := Lib.hid h6; have B6 := Lib.hid b6; clear h6 b6))
          go_ret2
          exact ⟨E, c6, rfl, H6.out, HB.out.trans ((HB9.out.trans (B6.out.mono HB9.out.size)).mono HB.out.size)⟩
        · intro q v hq hlk ho w1 cnt1 hrg1 hlt hg1 hs1 hen
          obtain ⟨A5, c5, rfl, hli⟩ := ints_li ho
          have HQ := Lib.hid ((HN.out.append_right _).trans (done_step (k := kd) hq hlk))
          have hpos : 0 < (vals q L).length := List.length_pos_iff.2 (gV_pos hq)
          have hvl : (vals q L).length ≤ 1000000 := by have := vals_len q L; omega
          have HR1 := Lib.hid hrg1
          have HM1 : Hid (w9.rangeLeft w.heap.size wr.heap.size = cnt) := Lib.hid hrg.left_eq
          have HB1 := Lib.hid (HB9.out.grown hg1 HB9.out.size (fun k e => by cases e; exact Nat.le_refl _))
          have HO1 := Lib.hid (HO.out.past hg1 (fun k e => by cases e; exact own_off HO.out (Nat.lt_succ_self _)))
          have HS1 : Hid (wr.heap.size + 1 ≤ w1.heap.size) := Lib.hid (by have := HS9.out; omega)
          have C := Lib.hid (TT.out A5 c5 (vals q L) w1 hpos hvl (hli.below HB1.out))
          generalize totV kd (vals q L) = tv at HQ C
          generalize (vals q L).length = vl at C hen
          have HLT := Lib.hid hlt
          clear hrg hrg1 hg1 hs1 hli ho hpos hvl hq hlk HN HO hlt HP0
          go_wp2_with (first | (at_builtin; refine wpList_append_own _ rfl _ _ 24 rfl (wr.heap.size + 1) 33 i0 (.agg #[.int .i64 0, .int .i64 0]) 2 16 Tryd.underlying24 hi0 hz0 hz1 hz2 rfl (by decide) _ N.length (N.flatMap cR) rfl HO3.out ⟨w3.heap.size, 0, none⟩ 1 1 (cR ⟨q, tv⟩) rfl rfl (cell_newG _ _ _) (cellsR.one ⟨q, tv⟩) (by unfold maxLen; omega) (by omega) (by have := HS3.out; simp; omega) ?_; intro v' w5 hown' hgrow _; obtain ⟨g, cap', rfl⟩ := OwnG.succ hown'; have HO5 := Lib.hid (own_snoc (x := ⟨q, tv⟩) hown'); have HB5 := Lib.hid ((HB3.out.alloc HB3.out.size (.cells #[.int .i64 q, .int .i64 tv] 33)).grown hgrow (by have := HB3.out.size; simp; omega) (fun j e => Nat.le_trans (Nat.le_succ _) (HO3.out.lt j e).1)); have HR5 := Lib.hid ((HR3.out.alloc (.cells #[.int .i64 q, .int .i64 tv] 33)).kept hgrow (own_off HO3.out (by have := hbl.out; omega)) (own_off HO3.out (Nat.lt_succ_self _))); have HS5 := Lib.hid (Nat.le_trans HS3.out (Nat.le_trans (by simp) hgrow.size)); clear hown' hgrow) | (go_at_call 21; refine C.out.mono ?_; rintro e w3 ⟨rfl, b3⟩; have HB3 := Lib.hid (HB1.out.trans (b3.mono HB1.out.size)); have HO3 := Lib.hid ((HO1.out.below b3).below (fresh0 w3 (.cells #[.int .i64 q, .int .i64 tv] 33))); have HS3 := Lib.hid (Nat.le_trans HS1.out b3.size); have HR3 := Lib.hid (HR1.out.kept (grown_below (row := none) b3) (by simp) (by simp)); clear b3))
          go_roundw
          case rel => exact ⟨N ++ [⟨q, tv⟩], some ⟨g, 0, none⟩, cap', _, cnt1, by rw [List.length_append]; rfl, HR5.out, HQ, Lib.hid (by have h := HO5.out; rw [List.length_append]; exact h), HB5, HS5⟩
          case measure => rw [HR5.out.left_eq, HM1.out]; exact HLT.out
theorem fold_any (kd : Int) (A : Option Addr) (c : Nat) (L : List Rc) (iL : InR L) (mL : L.length ≤ 4096) (w : World) (hL : Lr w A L) :
    Calls Tryd.prog 15 #[.int .i64 kd, .slice A L.length c] w fun e W' => ∃ B c', e = .returned (.tuple #[.slice B (if keepsB kd then foldV kd L else []).length c', .int .i64 (if keepsB kd then 0 else 70)]) ∧ Lr W' B (if keepsB kd then foldV kd L else []) ∧ Below w.heap.size w W' := by
  cases hk : keepsB kd with
  | true => simpa using fold_yes kd hk A c L iL mL w hL
  | false =>
    have KP := Lib.hid (fun w0 => keeps_any kd w0)
    rw [hk] at KP
    clear hL hk mL iL
    simp only [Bool.false_eq_true, if_false]
    go_enter Tryd.func15, Tryd.ntmps15
    go_wp2_with (go_at_call 13; refine (KP.out _).mono ?_; rintro e w2 ⟨rfl, rfl⟩)
    go_ret2
    exact ⟨none, 0, rfl, lg_nil _ _, Below.refl _ _⟩
end Go.Proofs.YtpbdfiddgbkkmaaDoor.oper
