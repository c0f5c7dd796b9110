/- For every code of bytes the law FnNumbers returns true: exactly the numbers from 0 to MaxUint can be parsed from their decimal text. No condition but the tie of the listed variables to the program's text, which the card gives. -/
import Derived.Test.YtidfeffpfcnnlaaDoorLaid
import Derived.Test.YtidfeffpfcnnlaaDoorDraw
namespace Go.Proofs.YtidfeffpfcnnlaaDoor
open Go.ChangeShapes Go.WideShapes Go.ChangeAt Go.RowKit

def OneInt (w : World) (e : Ending) (w' : World) : Prop :=
  ∃ x : Int, -9223372036854775808 ≤ x ∧ x ≤ 9223372036854775807 ∧ e = .returned (.int .i64 x) ∧ Below w.heap.size w w'

set_option maxHeartbeats 400000 in
theorem drawformat_any {w : World} {v : Value} {n : Nat} (hC : Code w w.heap.size v n) :
    Calls Tryd.prog 13 #[v] w (OneInt w) := by
  go_enter Tryd.func13, Tryd.ntmps13
  go_wp2_with (first
    | (go_at_call 21; refine (new_any hC).mono ?_; rintro e w1 ⟨c, rfl, hb0, hC1⟩)
    | (go_at_call 22; refine (once_any _ (by omega) (by omega) (by assumption)).mono ?_; rintro e w1 ⟨x, rfl, hg1, hC1⟩; replace hg1 := (by assumption : Below w.heap.size w _).trans (below_of_only hg1 hC1.1 (by assumption : Below w.heap.size w _).size))
    | (go_at_call 24; refine (below_any _ (by omega) (by omega) (by assumption)).mono ?_; rintro e w1 ⟨x, hx0, hx1, rfl, hg1, hC1⟩; replace hg1 := (by assumption : Below w.heap.size w _).trans (below_of_only hg1 hC1.1 (by assumption : Below w.heap.size w _).size))
    | (go_at_call 28; refine (number_any (by assumption)).mono ?_; rintro e w1 ⟨x, hx0, hx1, rfl, hg1, hC1⟩; replace hg1 := (by assumption : Below w.heap.size w _).trans (below_of_only hg1 hC1.1 (by assumption : Below w.heap.size w _).size)))
  all_goals go_ret
  all_goals (refine ⟨_, ?_, ?_, rfl, by assumption⟩ <;> first | omega | (unfold wrap64; omega))

theorem str_nonempty {l : List UInt8} (h : l ≠ []) : (strL l).toList ≠ [] ∧ (strL l).toList.isEmpty = false := by
  have e : (strL l).toList = l := ByteArray.toList_mk l
  rw [e]
  exact ⟨h, by cases l with | nil => exact absurd rfl h | cons a b => rfl⟩

set_option maxHeartbeats 1000000 in
theorem numbers_walk {w : World} {v : Value} {n : Nat} (hC : Code w w.heap.size v n) (hT : Pow w) (hE : Errs w) :
    Calls Tryd.prog 4 #[v] w fun e w' => e = .returned (.bool true) ∧ Below w.heap.size w w' := by
  have HT := Lib.hid hT; clear hT
  have HE := Lib.hid hE; clear hE
  by_cases hbig : 1048576 < n
  · go_enter Tryd.func4, Tryd.ntmps4
    go_wp2_with (go_at_call 8; refine (big_yes hC hbig).mono ?_; rintro e w1 ⟨rfl, rfl⟩)
    go_ret
    exact ⟨rfl, Below.refl _ _⟩
  · go_enter Tryd.func4, Tryd.ntmps4
    go_wp2_with (go_at_call 8; refine (big_no hC hbig).mono ?_; rintro e w1 ⟨rfl, rfl⟩)
    refine (drawformat_any hC).mono ?_
    rintro e w1 ⟨x, hx0, hx1, rfl, hb1⟩
    go_wp2_with fail
    refine (fmt_any x hx0 hx1 _ (HT.out.below hb1)).mono ?_
    rintro e w2 ⟨rfl, hb2⟩
    have hb2' := bstep hb1 hb2
    clear hb1 hb2
    obtain ⟨ne1, ne2⟩ := str_nonempty (itoa_ne x)
    have hlen : (strL (Lib.itoa x)).size ≤ 281474976710656 := by rw [strL_size]; have := Lib.itoa_length_le x hx0 hx1; omega
    have HL := Lib.hid hlen; clear hlen
    go_wp2_with fail
    refine (impparse_any _ HL.out _ (HT.out.below hb2') (HE.out.below hb2')).mono ?_
    rintro e w3 ⟨rfl, hb3⟩
    have hb3' := bstep hb2' hb3
    clear hb2' hb3
    by_cases hin : 0 ≤ x ∧ x ≤ 1000000000
    · obtain ⟨i0, i1⟩ := hin
      have hp : parseR (strL (Lib.itoa x)) = (x, true) := parseR_ok ⟨i0, i1, rfl⟩
      go_wp2
      go_ret
      exact ⟨rfl, hb3'⟩
    · have hp : parseR (strL (Lib.itoa x)) = (0, false) := parseR_no (fun ⟨m, hm⟩ => hin (by have := numeral_of_itoa (n := x) rfl hm; subst this; exact ⟨hm.1, hm.2.1⟩))
      by_cases i0 : 0 ≤ x
      · have i1 : 1000000000 < x := by omega
        go_wp2
        go_ret
        exact ⟨rfl, hb3'⟩
      · go_wp2
        go_ret
        exact ⟨rfl, hb3'⟩

namespace fnNumbers
theorem own : ownKnob Tryd.prog.godebug = none := by kernel_rfl
theorem laidOut : laidOutB Tryd.prog = true := by kernel_rfl
theorem contract (H : Type) (enc : TypeId × Value → H) (W : World) (base : Nat) (args : Array Value) (ds gs : List (DataW H)) (before : List MemPlace)
    (hval : ∀ (j : Nat) t v, Tryd.f4.params[j]? = some t → args[j]? = some v → Value.okWide Tryd.prog W .any base t v)
    (hW : DataW.Whole enc Tryd.prog Tryd.f4.params.toList Rows.fnNumbersSpec.vars false W args.toList ds gs before) (hL : laidMetH Tryd.prog laid5 W) :
    Calls Tryd.prog 4 args W fun e W' => ∃ v, e = .returned v ∧ Rows.fnNumbersSpec.post enc Tryd.prog Tryd.f4 false true false false W args v W' := by
  have hW' := hW
  obtain ⟨p, q, hA0, hV, rfl, hfz, hnd⟩ := hW
  have hA : DataW.TrodAll enc Tryd.prog W 0 (fun _ => true) true Tryd.f4.params.toList args.toList ds p := hA0
  have hAk := hA
  rw [Tryd.params4] at hA hval
  obtain ⟨v0, vs0, d0, ds0, p0, q0, hargs, rfl, hp0, h0, r0⟩ := trodAll_cons hA
  obtain ⟨rfl, rfl, hq⟩ := trodAll_nil r0
  obtain rfl : args = #[v0] := by cases args; simp_all
  obtain ⟨rfl, rfl⟩ := trodVars_none hV
  obtain ⟨n0, hC0⟩ := code_of_trod Tryd.underlying22 Tryd.underlying5 (by kernel_rfl) (hval 0 22 v0 rfl rfl) h0
  clear hA0
  simp only [List.append_nil] at hW'
  have hlt : ∀ x ∈ p, x.block < W.heap.size := fun x hx => hW'.lt x hx
  refine (numbers_walk hC0 (pow5 hL) (errs5 hL)).mono fun e W' ⟨he, hb⟩ => ?_
  subst he
  exact ⟨_, rfl, post_of_below (pa := p) (pv := []) hW' (fun _ _ _ => (trodAll_cons_mk (shut_bool Tryd.underlying4 _) trodAll_mk0)) (fun sp hsp => trodAll_stays laidOut hb (by rw [Tryd.params4]; intro t ht; have ht' : t = 22 := (by simpa using ht); rcases ht' with rfl <;> exact ⟨by kernel_rfl, of_decide_eq_true (by kernel_rfl)⟩) hAk hlt hsp) (fun _ _ => rfl) (by simp)
    hb (ok_one (by kernel_rfl) rfl (okWide_bool_mk Tryd.underlying4 _))⟩

theorem reads (os : Os) {H : Type} (enc : TypeId × Value → H) : ∃ places, DataW.whole enc Tryd.prog ((laidWorld5 os).forCall (fun _ _ => 0) ⟨#[], #[.slice none 0 0], []⟩).memory Tryd.f4.params.toList Rows.fnNumbersSpec.vars false (#[.slice none 0 0] : Array Value).toList 8 = some ([.nil], [], places) :=
  ⟨[], by kernel_rfl⟩
set_option maxRecDepth 100000 in
theorem lifted (os : Os) (started : os.Started) (H : Type) (enc : TypeId × Value → H) (F : Stop.Interp) :
    ReturnsInHanded {} Tryd.checked os 4 .any ((OpenSpec.ofChange Rows.fnNumbersSpec).preRow enc Tryd.prog Tryd.f4 Rows.fnNumbersRow.domain false Rows.fnNumbersRow.laid) (((OpenSpec.ofChange Rows.fnNumbersSpec).at F).post enc Tryd.prog Tryd.f4 false true false false) := by
  obtain ⟨places, hx⟩ := reads os enc
  refine returnsInHanded_of_row (C := Tryd.checked) (s := OpenSpec.ofChange Rows.fnNumbersSpec) own started (by kernel_rfl) Tryd.func4
    (witness_row_at (enc := enc) (C := Tryd.checked) false (laidWorld5 os) #[.slice none 0 0] rfl (by kernel_rfl) (by kernel_rfl) (by kernel_rfl)
      (OpenSpec.preRow_of_cond 8 hx (by kernel_rfl) (fun k hk => by cases hk) (by kernel_rfl) (laid5_met os _))) ?_
  intro W base args ds gs before hval hW _ _ _ hL _ _
  exact contract H enc W base args ds gs before hval hW hL

theorem said : Rows.FnNumbersSaid :=
  OpenClaim.holds_of_cond 4 Tryd.f4 rfl rfl rfl rfl rfl rfl rfl ⟨rfl, rfl, rfl, rfl, rfl⟩ rfl rfl rfl rfl rfl (by kernel_rfl) Tryd.func4 (by kernel_rfl)
    (of_decide_eq_true (by kernel_rfl)) (by unfold Func.isWrapper; first | (rw [if_pos (by decide +kernel)]; kernel_rfl) | (rw [if_neg (by decide +kernel)]; exact ⟨rfl, rfl⟩))
    (fun os started H enc _ F => by rw [OpenClaim.pre_eq_preRow]; exact lifted os started H enc F)

theorem plain (f : FuncId) (fn : Func) (hf : Tryd.pinned.checked.prog.funcNamed "loop.example/g03309/laws.FnNumbers" = some f) (hfn : Tryd.pinned.checked.prog.funcs[f]? = some fn) :
    true = Tryd.pinned.checked.prog.looks [] ∧ ∀ (j : Nat) t, fn.params[j]? = some t → Tryd.pinned.checked.prog.wantsStandIn t = false := by
  obtain rfl : f = 4 := Option.some.inj ((show Tryd.prog.funcNamed "loop.example/g03309/laws.FnNumbers" = some 4 by kernel_rfl).symm.trans hf) |>.symm
  obtain rfl : fn = Tryd.f4 := (Option.some.inj (Tryd.func4.symm.trans hfn)).symm
  refine ⟨by kernel_rfl, fun j t ht => ?_⟩
  rw [Tryd.params4] at ht
  have hm := Array.mem_of_getElem? ht
  have ht' : t = 22 := (by simpa using hm)
  rcases ht' with rfl <;> (show _ = _; kernel_rfl)

/-- THE CARD -/
theorem card : Rows.FnNumbersCardSaid :=
  Claim7.holds_tied_plain_at .later [] _ _ _ _ said (fun _ h => by cases h) (by kernel_rfl) (fun _ h => by cases h) fnNumbers_row_tie rfl ⟨rfl, rfl⟩ (by kernel_rfl) rfl plain (by kernel_rfl)
end fnNumbers
end Go.Proofs.YtidfeffpfcnnlaaDoor
