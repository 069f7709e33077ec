/-
  The contracts of words.Number, words.Signed and words.Int, and of the document's.
  The frame of the cards: a law whose arguments are only read, where the listed variables are as laid.
  The contract of data.parseRecord.
-/
import Derived.Test.YtkfjgmfokpgcbaaGreatDoorJLayW
import Derived.Test.YtkfjgmfokpgcbaaGreatDoorJNw
import Derived.Lib.AppendIntMem
import Derived.Shelf.Strconv.ErrVarParseInt
import Derived.Laws.OwnMore
import Derived.Test.YtkfjgmfokpgcbaaGreatDoorRows
import Derived.Test.YtkfjgmfokpgcbaaGreatDoorJDe
import Derived.ProofKit
import Derived.OpenShut
import Derived.LaidMore
import Derived.Lay
import Derived.Stop.Joined
import Derived.Stop.LaidErr
import Derived.Shelf.Vars
import Derived.Handed
import Derived.Test.YtkfjgmfokpgcbaaGreatDoorJBlock
namespace Go.Proofs.YtkfjgmfokpgcbaaGreatDoor.words
open Go.ChangeShapes Go.WideShapes Go.ChangeAt Go.RowKit
open Go.Proofs.YtkfjgmfokpgcbaaGreatDoor.opened Go.Proofs.YtkfjgmfokpgcbaaGreatDoor.block

/-- What the listed variables hold. -/
structure Env (w : World) : Prop where
  tab : Lib.TabIs Tryz.prog w "internal/strconv.uint64pow10" .u64 Lib.pow10Tab
  max : MaxIs w
  syn : ∃ tp p, w.var? Tryz.prog "strconv.ErrSyntax" = some #[.iface tp p]
  rng : ∃ tp p, w.var? Tryz.prog "strconv.ErrRange" = some #[.iface tp p]
theorem var_below {P : Program} {w w' : World} {name : String} {cs : Array Value} (h : w.var? P name = some cs) (hb : Below w.heap.size w w') : w'.var? P name = some cs := by
  unfold World.var? at *
  cases hg : P.globalNamed name with
  | none => simp [hg] at h
  | some g =>
    simp only [hg, Option.bind_some] at h ⊢
    have hlt : g < w.heap.size := by
      rcases Nat.lt_or_ge g w.heap.size with h' | h'
      · exact h'
      · simp [Array.getElem?_eq_none h'] at h
    rw [hb.block g hlt]
    exact h
theorem Env.below {w w' : World} (h : Env w) (hb : Below w.heap.size w w') : Env w' := by
  obtain ⟨t1, p1, h1⟩ := h.syn
  obtain ⟨t2, p2, h2⟩ := h.rng
  exact ⟨var_below h.tab hb, h.max.below hb, ⟨t1, p1, var_below h1 hb⟩, ⟨t2, p2, var_below h2 hb⟩⟩
theorem number_any (n : Int) (h0 : -9223372036854775808 ≤ n) (h1 : n ≤ 9223372036854775807) (w : World) (hE : Env w) :
    Calls Tryz.prog 41 #[.int .i64 n] w fun e w' => e = .returned (sV (Lib.itoa n)) ∧ Below w.heap.size w w' := by
  have H := Lib.hid (Any.strconv_FormatInt_10 Tryz.laysM173 n h0 h1 w hE.tab)
  clear hE h0 h1
  go_enter Tryz.func41, Tryz.ntmps41
  go_wp2_with ((go_at_call 56; refine H.out.mono ?_; rintro e w4 ⟨rfl, k, os, rfl⟩))
  go_ret
  exact ⟨rfl, Lib.below_grow _ _ (Nat.le_refl _) k os⟩
/-- What ParseInt tells. -/
def PV (w : Bs) : Option Int := match Lib.parseIntB 64 w with
  | .ok v => some v
  | _ => none
theorem parse_yes (s : Bs) (hs : s.length ≤ 100000) (v : Int) (h : PV s = some v) (w : World) :
    Calls Tryz.prog 70 #[.string ⟨s.toArray⟩, .int .i64 10, .int .i64 64] w fun e w' => e = .returned (.tuple #[.int .i64 v, .nilIface]) ∧ Below w.heap.size w w' := by
  have h2 : Lib.parseIntB 64 s = .ok v := by
    unfold PV at h
    split at h
    · rename_i u hu; simp at h; rw [hu, h]
    · cases h
  refine (Any.strconv_ParseInt_10_at64_ok Tryz.laysC174 ⟨s.toArray⟩ (by show s.toArray.size ≤ _; simp; omega) v h2 w).mono fun e w' ⟨he, hw⟩ => ⟨he, ?_⟩
  rcases hw with rfl | ⟨t, rfl⟩
  · exact Below.refl _ _
  · exact Lib.bytesWorld_below _ _ _
theorem parse_no (s : Bs) (hs : s.length ≤ 100000) (h : PV s = none) (w : World) (hE : Env w) :
    Calls Tryz.prog 70 #[.string ⟨s.toArray⟩, .int .i64 10, .int .i64 64] w fun e w' => ∃ (v : Int) (N : Nat), e = .returned (.tuple #[.int .i64 v, .iface 156 (.pointer (some ⟨N, 0, none⟩))]) ∧ Below w.heap.size w w' := by
  have hz : (⟨s.toArray⟩ : ByteArray).size ≤ 281474976710656 := by show s.toArray.size ≤ _; simp; omega
  obtain ⟨t1, p1, h1⟩ := hE.syn
  obtain ⟨t2, p2, h2⟩ := hE.rng
  rcases hp : Lib.parseIntB 64 s with u | _ | _
  · simp [PV, hp] at h
  · exact (Any.strconv_ParseInt_10_at64_syntax_var Tryz.laysC174 ⟨s.toArray⟩ hz hp t1 p1 w h1).mono fun e w' ⟨N, he, _, _, hb⟩ => ⟨0, N, he, hb⟩
  · exact (Any.strconv_ParseInt_10_at64_range_var Tryz.laysC174 ⟨s.toArray⟩ hz hp t2 p2 w h2).mono fun e w' ⟨N, he, _, _, hb⟩ => ⟨_, N, he, hb⟩
theorem PV_bounds {w : Bs} {v : Int} (h : PV w = some v) : -9223372036854775808 ≤ v ∧ v ≤ 9223372036854775807 := by
  unfold PV at h
  split at h
  · rename_i u hu
    simp at h
    subst h
    have := Lib.parseIntB_bounds hu
    exact ⟨by omega, by omega⟩
  · cases h
theorem sg_PV (w : Bs) : sgP w = (PV w).bind fun v => if Lib.itoa v = w then some v else none := by
  unfold sgP PV
  cases h : Lib.parseIntB 64 w <;> simp
theorem str_ne {a b : Bs} : (sV a = sV b) ↔ a = b := by
  constructor
  · intro h
    injection h with h
    injection h with h
    exact Array.toList_inj.2 h |> fun h => by simpa using h
  · rintro rfl; rfl
set_option maxRecDepth 100000 in
theorem signed_any (s : Bs) (hs : s.length ≤ 100000) (w : World) (hE : Env w) :
    Calls Tryz.prog 55 #[.string ⟨s.toArray⟩] w fun e w' => e = .returned (.tuple #[.int .i64 (sgV s), .int .i64 (sgE s)]) ∧ Below w.heap.size w w' := by
  have HE := Lib.hid hE
  clear hE
  cases hp : PV s with
  | none =>
    obtain ⟨e1, e2⟩ := sgE_none (by rw [sg_PV, hp]; rfl : sgP s = none)
    rw [e1, e2]
    have C := Lib.hid (parse_no s hs hp w HE.out)
    clear hp e1 e2
    go_enter Tryz.func55, Tryz.ntmps55
    go_wp2_with ((go_at_call 70; refine C.out.mono ?_; rintro e w4 ⟨v, N, rfl, b4⟩))
    go_ret2
    exact ⟨rfl, b4⟩
  | some v =>
    have hb := PV_bounds hp
    have C := Lib.hid (parse_yes s hs v hp w)
    have CN := Lib.hid (fun w2 h2 => number_any v hb.1 hb.2 w2 h2)
    by_cases hi : Lib.itoa v = s
    · obtain ⟨e1, e2⟩ := sgE_some (by rw [sg_PV, hp]; simp [hi] : sgP s = some v)
      rw [e1, e2]
      rw [hi] at CN
      clear hp e1 e2 hi hb
      go_enter Tryz.func55, Tryz.ntmps55
      go_wp2_with (first | (go_at_call 70; refine C.out.mono ?_; rintro e w4 ⟨rfl, b4⟩; have B4 := Lib.hid b4; clear b4) | (go_at_call 41; refine (CN.out _ (HE.out.below B4.out)).mono ?_; rintro e w5 ⟨rfl, b5⟩; have B5 := Lib.hid b5; clear b5))
      go_ret2
      exact ⟨rfl, then_below B4.out B5.out⟩
    · obtain ⟨e1, e2⟩ := sgE_none (by rw [sg_PV, hp]; simp [hi] : sgP s = none)
      rw [e1, e2]
      have hne : (Lib.itoa v == s) = false := by simpa using hi
      clear hp e1 e2 hb hi
      generalize Lib.itoa v = z at CN hne
      go_enter Tryz.func55, Tryz.ntmps55
      go_wp2_with (first | (go_at_call 70; refine C.out.mono ?_; rintro e w4 ⟨rfl, b4⟩; have B4 := Lib.hid b4; clear b4) | (go_at_call 41; refine (CN.out _ (HE.out.below B4.out)).mono ?_; rintro e w5 ⟨rfl, b5⟩; have B5 := Lib.hid b5; clear b5))
      go_ret2
      exact ⟨rfl, then_below B4.out B5.out⟩
end Go.Proofs.YtkfjgmfokpgcbaaGreatDoor.words
namespace Go.Proofs.YtkfjgmfokpgcbaaGreatDoor.data
open Go.ChangeShapes Go.WideShapes Go.ChangeAt Go.RowKit
open Go.Proofs.YtkfjgmfokpgcbaaGreatDoor.opened
theorem own : ownKnob Tryz.prog.godebug = none := by kernel_rfl
theorem laidOut : laidOutB Tryz.prog = true := by kernel_rfl
set_option maxRecDepth 100000 in
/-- THE FRAME: a law over arguments that are only read, where the listed variables read as laid. -/
theorem liftG {os : Os} {f : FuncId} {fn : Func} {s : ChangeSpec} {H : Type} {enc : TypeId × Value → H} {ts : List TypeId} {dom : List PathCond} {l : List (String × DataW Unit)} {Env : World → Prop} (hEnv : ∀ W : World, W.ShapedOpen Tryz.prog → laidMetH Tryz.prog l W → Env W)
    (started : os.Started) (noInit : Tryz.prog.inits.idxOf? f = none) (hfn : Tryz.prog.funcs[f]? = some fn)
    (hts : fn.params.toList = ts) (hrB : (ts.all fun t => Tryz.prog.readableRec t && decide (t < Tryz.prog.types.size)) = true)
    (hres : fn.resultTypes = #[4]) (hv : s.vars = [])
    (hspec : ∀ ds : List (DataW H), ds.length = ts.length → s.fn H (ds ++ []) = { results := [.lit (.bool true)], args := ds })
    (witness : ∃ (w : World) (tape : Tape) (i : Input), w.os = os ∧ (w.forCall tape i).Shaped Tryz.prog ∧ i.vars = [] ∧ Input.okWide Tryz.prog (w.forCall tape i) .any w.heap.size f i ∧
      ((s.pre enc Tryz.prog fn dom false (w.forCall tape i).memory i.args ∧ laidMetH Tryz.prog l (w.forCall tape i).memory) ∧ sizedMet enc Tryz.prog fn (OpenSpec.ofChange s) false (w.forCall tape i).memory i.args) ∧ ({} : Assume).holds Tryz.prog (lone (Frame.enter Tryz.prog f i.args .normal) [] (w.forCall tape i)))
    (walk : ∀ (W : World) (args : Array Value), Env W → Fed Tryz.prog W ts args → Calls Tryz.prog f args W fun e W' => e = .returned (.bool true) ∧ Below W.heap.size W W') :
    ReturnsInHanded {} Tryz.checked os f .any (fun w args => (s.pre enc Tryz.prog fn dom false w args ∧ laidMetH Tryz.prog l w) ∧ sizedMet enc Tryz.prog fn (OpenSpec.ofChange s) false w args) (s.post enc Tryz.prog fn false true false false) := by
  have hr : ∀ t ∈ ts, Tryz.prog.readableRec t = true ∧ t < Tryz.prog.types.size := fun t ht => by
    have := List.all_eq_true.1 hrB t ht
    simpa using this
  refine returnsInHanded_of_calls own started noInit witness ?_
  intro w tape i _ hsh _ hok hpre hholds
  obtain ⟨_, _, _, fn', hfn', _, _, _, _, hval⟩ := hok
  have e : fn' = fn := Option.some.inj (hfn'.symm.trans hfn)
  subst e
  obtain ⟨⟨⟨ds, gs, before, hw, hc⟩, hx⟩, hz⟩ := hpre
  have hW := DataW.Whole.of_heap (w' := w.forCall tape i) (by rfl) hw
  have hsz := hz.weights hw
  have hL : laidMetH Tryz.prog l (w.forCall tape i) := hx.of_heap (by rfl)
  have hE := hEnv _ hsh hL
  clear hw hz hx hL hsh
  generalize w.forCall tape i = W at *
  generalize i.args = args at *
  generalize w.heap.size = base at *
  have hW' := hW
  obtain ⟨p, q, hA, hV, rfl, _, _⟩ := hW
  rw [hv] at hV
  obtain ⟨rfl, rfl⟩ := trodVars_none hV
  have hA' := hA
  rw [hts] at hA'
  obtain ⟨n1, n2, n3⟩ := trodAll_at hA'
  have hvt : (OpenSpec.ofChange s).bare.plain.varTypes Tryz.prog = [] := by
    show s.plain.varTypes Tryz.prog = []
    simp [ChangeSpec.plain, DataSpec.varTypes, hv]
  rw [hts, hvt, List.append_nil, List.append_nil] at hsz
  refine (walk W args hE ⟨by simpa using n1, fun j t v hj hjv => ?_⟩).mono fun e W' ⟨he, bel⟩ => ?_
  · have hjv' : args.toList[j]? = some v := by simpa using hjv
    obtain ⟨d, pl, hd, fuel, hf⟩ := n3 j t v hj hjv'
    refine ⟨⟨base, hval j t v (by rw [← Array.getElem?_toList, hts]; exact hj) hjv⟩, fun hO => hO enc W fuel _ _ hf (fun k hk => ?_)⟩
    have := List.all_eq_true.1 hsz _ (DataW.weights_mem_each hj hd k hk)
    simpa using this
  · subst he
    refine ChangeSpec.post_blind (v := .bool true) ?_
    refine ⟨ds, [], _, [], p, [], hW', ?_, ?_, ?_, bel.frame _, fun h => by cases h⟩
    · rw [hspec ds n2, hres]
      exact trodAll_mk1 (shut_bool Tryz.underlying4 _)
    · rw [hspec ds n2]
      have h3 := trodAll_below laidOut bel hr hA'
      rw [hts]
      exact h3
    · rw [hspec ds n2, hv]
      rfl
end Go.Proofs.YtkfjgmfokpgcbaaGreatDoor.data
namespace Go.Proofs.YtkfjgmfokpgcbaaGreatDoor.data
open Go.ChangeShapes Go.WideShapes Go.ChangeAt Go.RowKit
open Go.Proofs.YtkfjgmfokpgcbaaGreatDoor.opened Go.Proofs.YtkfjgmfokpgcbaaGreatDoor.block Go.Proofs.YtkfjgmfokpgcbaaGreatDoor.words

def rcV (s : Bs) : Rc := (recP s).getD ⟨0, 0⟩
def rcE (s : Bs) : Int := if (recP s).isSome then 0 else 6
theorem cut_short (s : Bs) (x : UInt8) : (Lib.cut s [x]).1.length ≤ s.length ∧ (Lib.cut s [x]).2.1.length ≤ s.length := by
  rcases cut_one s x with ⟨a, b, e, -, h⟩ | ⟨-, h⟩
  · rw [h, e]
    simp
    omega
  · rw [h]
    simp
set_option maxRecDepth 100000 in
set_option maxHeartbeats 2000000 in
theorem prec_any (s : Bs) (hs : s.length ≤ 100000) (w : World) (hE : Env w) :
    Calls Tryz.prog 40 #[.string ⟨s.toArray⟩] w fun e w' => e = .returned (.tuple #[.agg #[.int .i64 (rcV s).k, .int .i64 (rcV s).v], .int .i64 (rcE s)]) ∧ Below w.heap.size w w' := by
  have b1 := fresh0 w (.cells #[.int .i64 0, .int .i64 0] 33)
  obtain ⟨c1, c2⟩ := cut_short s 58
  have HE := Lib.hid (hE.below b1)
  have HB := Lib.hid b1
  have W1 := Lib.hid (Whole.fresh w 33 #[.int .i64 0, .int .i64 0])
  have CT := Lib.hid (fun W (h : Env W) => cut_any s 58 hs W h.max)
  have SA := Lib.hid (fun W (h : Env W) => signed_any (Lib.cut s [58]).1 (by omega) W h)
  have SB := Lib.hid (fun W (h : Env W) => signed_any (Lib.cut s [58]).2.1 (by omega) W h)
  have HV : Hid (rcV s = (recP s).getD ⟨0, 0⟩ ∧ rcE s = if (recP s).isSome then 0 else 6) := Lib.hid ⟨rfl, rfl⟩
  have HP : Hid (recP s = _) := Lib.hid (recP.eq_1 s)
  clear hE b1 c1 c2
  generalize rcV s = rv at HV ⊢
  generalize rcE s = re at HV ⊢
  generalize recP s = rp at HV HP
  generalize (Lib.cut s [58]).1 = xa at CT SA HP
  generalize (Lib.cut s [58]).2.1 = xb at CT SB HP
  generalize (Lib.cut s [58]).2.2 = ok at CT HP
  have GA : Hid (sgV xa = (sgP xa).getD 0 ∧ sgE xa = if (sgP xa).isSome then 0 else 6) := Lib.hid ⟨rfl, rfl⟩
  have GB : Hid (sgV xb = (sgP xb).getD 0 ∧ sgE xb = if (sgP xb).isSome then 0 else 6) := Lib.hid ⟨rfl, rfl⟩
  generalize sgV xa = va at GA SA
  generalize sgE xa = ea at GA SA
  generalize sgV xb = vb at GB SB
  generalize sgE xb = eb at GB SB
  generalize sgP xa = pa at GA HP
  generalize sgP xb = pb at GB HP
  cases ok with
  | false =>
    obtain ⟨e1, e2⟩ := HV.out
    rw [HP.out] at e1 e2
    simp at e1 e2
    subst e1 e2
    clear HV HP
    clear GA GB SA SB
    go_enter Tryz.func40, Tryz.ntmps40
    go_wp2_with (first | (go_at_call 54; refine (CT.out _ HE.out).mono ?_; rintro e w2 ⟨rfl, b2⟩; have W2 := (W1.out).below b2 (W1.out).inside; have B2 := Lib.hid ((HB.out).trans (b2.mono (HB.out).size)); obtain ⟨k0, k1, f0, f1⟩ : _ ∧ _ ∧ _ ∧ _ := ⟨W2.read 0, W2.read 1, W2.soft 0, W2.soft 1⟩; clear b2))
    have W9 := W2
    have B9 := B2
    clear k0 k1 f0 f1
    generalize w2 = w9 at W9 B9 ⊢
    have hset : w9.grownBy ((w9.setCell ⟨w.heap.size, 0, none⟩ (.int .i64 0)).setCell ⟨w.heap.size, 1, none⟩ (.int .i64 0)) (some w.heap.size) := only_store (only_store (World.grownBy.refl w9 _) _) _
    have W3 : Whole ((w9.setCell ⟨w.heap.size, 0, none⟩ (.int .i64 0)).setCell ⟨w.heap.size, 1, none⟩ (.int .i64 0)) w.heap.size 33 #[.int .i64 0, .int .i64 0] := (W9.store 0 _).store 1 _
    have B3 := below_only B9.out hset B9.out.size (Nat.le_refl _)
    generalize (w9.setCell ⟨w.heap.size, 0, none⟩ (.int .i64 0)).setCell ⟨w.heap.size, 1, none⟩ (.int .i64 0) = wz at W3 B3 ⊢
    have q0 := W3.read 0
    have q1 := W3.read 1
    exact bodyPost_ret (v := .tuple #[.agg #[.int .i64 0, .int .i64 0], .int .i64 6]) (by simp [results, Tryz.results40, go_sem, q0, q1]) rfl ⟨rfl, B3⟩
  | true =>
    cases pa with
    | none =>
      obtain ⟨g1, g2⟩ := GA.out
      simp at g1 g2
      subst g1 g2
      obtain ⟨e1, e2⟩ := HV.out
      rw [HP.out] at e1 e2
      simp at e1 e2
      subst e1 e2
      clear HV HP
      clear GA GB SB
      go_enter Tryz.func40, Tryz.ntmps40
      go_wp2_with (first | (go_at_call 54; refine (CT.out _ HE.out).mono ?_; rintro e w2 ⟨rfl, b2⟩; have W2 := (W1.out).below b2 (W1.out).inside; have B2 := Lib.hid ((HB.out).trans (b2.mono (HB.out).size)); have HE2 := Lib.hid ((HE.out).below b2); clear b2) | (go_at_call 55; refine (SA.out _ HE2.out).mono ?_; rintro e w3 ⟨rfl, b3⟩; have W3 := (W2).below b3 (W2).inside; have B3 := Lib.hid ((B2.out).trans (b3.mono (B2.out).size)); obtain ⟨k0, k1, f0, f1⟩ : _ ∧ _ ∧ _ ∧ _ := ⟨W3.read 0, W3.read 1, W3.soft 0, W3.soft 1⟩; clear b3))
      have W9 := W3
      have B9 := B3
      clear k0 k1 f0 f1
      generalize w3 = w9 at W9 B9 ⊢
      have hset : w9.grownBy ((w9.setCell ⟨w.heap.size, 0, none⟩ (.int .i64 0)).setCell ⟨w.heap.size, 1, none⟩ (.int .i64 0)) (some w.heap.size) := only_store (only_store (World.grownBy.refl w9 _) _) _
      have W3 : Whole ((w9.setCell ⟨w.heap.size, 0, none⟩ (.int .i64 0)).setCell ⟨w.heap.size, 1, none⟩ (.int .i64 0)) w.heap.size 33 #[.int .i64 0, .int .i64 0] := (W9.store 0 _).store 1 _
      have B3 := below_only B9.out hset B9.out.size (Nat.le_refl _)
      generalize (w9.setCell ⟨w.heap.size, 0, none⟩ (.int .i64 0)).setCell ⟨w.heap.size, 1, none⟩ (.int .i64 0) = wz at W3 B3 ⊢
      have q0 := W3.read 0
      have q1 := W3.read 1
      exact bodyPost_ret (v := .tuple #[.agg #[.int .i64 0, .int .i64 0], .int .i64 6]) (by simp [results, Tryz.results40, go_sem, q0, q1]) rfl ⟨rfl, B3⟩
    | some ka =>
      obtain ⟨g1, g2⟩ := GA.out
      simp at g1 g2
      subst g1 g2
      cases pb with
      | none =>
        obtain ⟨g1, g2⟩ := GB.out
        simp at g1 g2
        subst g1 g2
        obtain ⟨e1, e2⟩ := HV.out
        rw [HP.out] at e1 e2
        simp at e1 e2
        subst e1 e2
        clear HV HP
        clear GA GB
        go_enter Tryz.func40, Tryz.ntmps40
        go_wp2_with (first | (go_at_call 54; refine (CT.out _ HE.out).mono ?_; rintro e w2 ⟨rfl, b2⟩; have W2 := (W1.out).below b2 (W1.out).inside; have B2 := Lib.hid ((HB.out).trans (b2.mono (HB.out).size)); have HE2 := Lib.hid ((HE.out).below b2); clear b2) | (go_at_call 55; refine (SB.out _ HE3.out).mono ?_; rintro e w4 ⟨rfl, b4⟩; have W4 := (W3).below b4 (W3).inside; have B4 := Lib.hid ((B3.out).trans (b4.mono (B3.out).size)); obtain ⟨k0, k1, f0, f1⟩ : _ ∧ _ ∧ _ ∧ _ := ⟨W4.read 0, W4.read 1, W4.soft 0, W4.soft 1⟩; clear b4) | (go_at_call 55; refine (SA.out _ HE2.out).mono ?_; rintro e w3 ⟨rfl, b3⟩; have W3 := (W2).below b3 (W2).inside; have B3 := Lib.hid ((B2.out).trans (b3.mono (B2.out).size)); have HE3 := Lib.hid ((HE2.out).below b3); clear b3))
        have W9 := W4
        have B9 := B4
        clear k0 k1 f0 f1
        generalize w4 = w9 at W9 B9 ⊢
        have hset : w9.grownBy ((w9.setCell ⟨w.heap.size, 0, none⟩ (.int .i64 0)).setCell ⟨w.heap.size, 1, none⟩ (.int .i64 0)) (some w.heap.size) := only_store (only_store (World.grownBy.refl w9 _) _) _
        have W3 : Whole ((w9.setCell ⟨w.heap.size, 0, none⟩ (.int .i64 0)).setCell ⟨w.heap.size, 1, none⟩ (.int .i64 0)) w.heap.size 33 #[.int .i64 0, .int .i64 0] := (W9.store 0 _).store 1 _
        have B3 := below_only B9.out hset B9.out.size (Nat.le_refl _)
        generalize (w9.setCell ⟨w.heap.size, 0, none⟩ (.int .i64 0)).setCell ⟨w.heap.size, 1, none⟩ (.int .i64 0) = wz at W3 B3 ⊢
        have q0 := W3.read 0
        have q1 := W3.read 1
        exact bodyPost_ret (v := .tuple #[.agg #[.int .i64 0, .int .i64 0], .int .i64 6]) (by simp [results, Tryz.results40, go_sem, q0, q1]) rfl ⟨rfl, B3⟩
      | some kb =>
        obtain ⟨g1, g2⟩ := GB.out
        simp at g1 g2
        subst g1 g2
        obtain ⟨e1, e2⟩ := HV.out
        rw [HP.out] at e1 e2
        simp at e1 e2
        subst e1 e2
        clear HV HP
        clear GA GB
        go_enter Tryz.func40, Tryz.ntmps40
        go_wp2_with (first | (go_at_call 54; refine (CT.out _ HE.out).mono ?_; rintro e w2 ⟨rfl, b2⟩; have W2 := (W1.out).below b2 (W1.out).inside; have B2 := Lib.hid ((HB.out).trans (b2.mono (HB.out).size)); have HE2 := Lib.hid ((HE.out).below b2); clear b2) | (go_at_call 55; refine (SB.out _ HE3.out).mono ?_; rintro e w4 ⟨rfl, b4⟩; have W4 := (W3).below b4 (W3).inside; have B4 := Lib.hid ((B3.out).trans (b4.mono (B3.out).size)); obtain ⟨k0, k1, f0, f1⟩ : _ ∧ _ ∧ _ ∧ _ := ⟨W4.read 0, W4.read 1, W4.soft 0, W4.soft 1⟩; clear b4) | (go_at_call 55; refine (SA.out _ HE2.out).mono ?_; rintro e w3 ⟨rfl, b3⟩; have W3 := (W2).below b3 (W2).inside; have B3 := Lib.hid ((B2.out).trans (b3.mono (B2.out).size)); have HE3 := Lib.hid ((HE2.out).below b3); clear b3))
        have W9 := W4
        have B9 := B4
        clear k0 k1 f0 f1
        generalize w4 = w9 at W9 B9 ⊢
        have hset : w9.grownBy ((w9.setCell ⟨w.heap.size, 0, none⟩ (.int .i64 va)).setCell ⟨w.heap.size, 1, none⟩ (.int .i64 vb)) (some w.heap.size) := only_store (only_store (World.grownBy.refl w9 _) _) _
        have W3 : Whole ((w9.setCell ⟨w.heap.size, 0, none⟩ (.int .i64 va)).setCell ⟨w.heap.size, 1, none⟩ (.int .i64 vb)) w.heap.size 33 #[.int .i64 va, .int .i64 vb] := (W9.store 0 _).store 1 _
        have B3 := below_only B9.out hset B9.out.size (Nat.le_refl _)
        generalize (w9.setCell ⟨w.heap.size, 0, none⟩ (.int .i64 va)).setCell ⟨w.heap.size, 1, none⟩ (.int .i64 vb) = wz at W3 B3 ⊢
        have q0 := W3.read 0
        have q1 := W3.read 1
        exact bodyPost_ret (v := .tuple #[.agg #[.int .i64 va, .int .i64 vb], .int .i64 0]) (by simp [results, Tryz.results40, go_sem, q0, q1]) rfl ⟨rfl, B3⟩
end Go.Proofs.YtkfjgmfokpgcbaaGreatDoor.data
