/- For every code of bytes the law FnFieldsAgain returns true: the fields of a line, joined by single spaces, have the same fields. No condition but the tie of the listed variables to the program's text, which the card gives. -/
import Derived.Test.YtidfeffpfcnnlaaDoorLaid
import Derived.Test.YtidfeffpfcnnlaaDoorSplitDraw
import Derived.Test.YtidfeffpfcnnlaaDoorSplitSpec
import Derived.Test.YtidfeffpfcnnlaaDoorJoined
namespace Go.Proofs.YtidfeffpfcnnlaaDoor
open Go.ChangeShapes Go.WideShapes Go.ChangeAt Go.RowKit

set_option maxHeartbeats 1000000 in
theorem sametexts_any {B1 B2 : Nat} {w : World} {v1 v2 : Value} {n : Nat} {xs : List (List UInt8)} (hn : n ≤ 8000000) (h1 : w.ownsRow B1 9 1 v1 n (xs.map strV)) (h2 : w.ownsRow B2 9 1 v2 n (xs.map strV)) :
    Calls Tryd.prog 18 #[v1, v2] w fun e w' => e = .returned (.bool true) ∧ Below w.heap.size w w' := by
  obtain ⟨a1, cap1, rfl⟩ := own_slice h1
  obtain ⟨a2, cap2, rfl⟩ := own_slice h2
  go_enter Tryd.func18, Tryd.ntmps18
  go_wp2
  go_loopw [5] (fun v5 wr => ∃ j d : Nat, j ≤ n ∧ v5 = .int .i64 j ∧ wr = w.drewN d) (fun v5 _ => n - (intOf v5).toNat)
  case atStart => exact ⟨0, 0, Nat.zero_le _, rfl, rfl⟩
  case round =>
    obtain ⟨j, d, hj, rfl, rfl⟩ := hrel
    by_cases hlt : j < n
    · obtain ⟨g1, cap1', hv1, _, _, _⟩ := own_slice_pos h1 (by omega)
      simp only [Value.slice.injEq, true_and] at hv1
      obtain ⟨rfl, rfl⟩ := hv1
      obtain ⟨g2, cap2', hv2, _, _, _⟩ := own_slice_pos h2 (by omega)
      simp only [Value.slice.injEq, true_and] at hv2
      obtain ⟨rfl, rfl⟩ := hv2
      have hxl : xs.length = n := by simpa using h1.1
      obtain ⟨x, hx⟩ : ∃ x, xs[j]? = some x := ⟨xs[j], List.getElem?_eq_getElem (by omega)⟩
      have hc1 : w.cell? ⟨g1, j, none⟩ = some (.string (strL x)) := by rw [h1.cellAt j (by omega), List.getElem?_map, hx]; rfl
      have hc2 : w.cell? ⟨g2, j, none⟩ = some (.string (strL x)) := by rw [h2.cellAt j (by omega), List.getElem?_map, hx]; rfl
      clear hx hxl h1 h2
      go_wp2
      go_quiet (fail)
      go_wp2
      go_roundw
      case rel => exact ⟨j + 1, _, by omega, by go_num, rfl⟩
      case measure => simp [intOf]; omega
    · obtain rfl : j = n := by omega
      go_wp2
      go_ret
      exact ⟨rfl, below_drewN (Below.refl _ _) _⟩

theorem own_below {a b : World} {B : Nat} {e : TypeId} {v : Value} {n : Nat} {xs : List Value} (h : a.ownsRow B e 1 v n xs) (hb : Below a.heap.size a b) : b.ownsRow B e 1 v n xs :=
  h.kept (only_of_below hb none) (by cases h : v.ownBlock <;> simp)

def SplitAs (fs : List (List UInt8)) (b : Bool) (w : World) (e : Ending) (w' : World) : Prop :=
  ∃ v, e = .returned (.tuple #[v, .bool b]) ∧ w'.ownsRow w.heap.size 9 1 v fs.length (fs.map strV) ∧ Below w.heap.size w w'
theorem impsplit_as {s : ByteArray} {fs : List (List UInt8)} {b : Bool} (hR : splitR s = (fs, b)) (hm : s.size ≤ 9223372036854775807) (w : World) :
    Calls Tryd.prog 16 #[.string s] w (SplitAs fs b w) :=
  (impsplit_any s w hm).mono fun _ _ ⟨v, h1, h2, h3⟩ => by rw [hR] at h1 h2; exact ⟨v, h1, h2, h3⟩
theorem specsplit_as {s : ByteArray} {fs : List (List UInt8)} {b : Bool} (hR : splitR s = (fs, b)) (hm : s.size ≤ 9223372036854775807) (w : World) :
    Calls Tryd.prog 17 #[.string s] w (SplitAs fs b w) :=
  (specsplit_any s w hm).mono fun _ _ ⟨v, h1, h2, h3⟩ => by rw [hR] at h1 h2; exact ⟨v, h1, h2, h3⟩
theorem splitR_false {s : ByteArray} {fs : List (List UInt8)} (h : splitR s = (fs, false)) : fs = [] := by
  unfold splitR at h
  split at h
  · exact absurd (Prod.mk.inj h).2 (by decide)
  · exact (Prod.mk.inj h).1.symm

set_option maxHeartbeats 2000000 in
theorem fieldsagain_walk {w : World} {v : Value} {n : Nat} (hC : Code w w.heap.size v n) (hT : Pow w) :
    Calls Tryd.prog 5 #[v] w fun e w' => e = .returned (.bool true) ∧ Below w.heap.size w w' := by
  have HT := Lib.hid hT; clear hT
  by_cases hbig : 1048576 < n
  · go_enter Tryd.func5, Tryd.ntmps5
    go_wp2_with (go_at_call 8; refine (big_yes hC hbig).mono ?_; rintro e w1 ⟨rfl, rfl⟩)
    go_ret
    exact ⟨rfl, Below.refl _ _⟩
  · go_enter Tryd.func5, Tryd.ntmps5
    go_wp2_with (go_at_call 8; refine (big_no hC hbig).mono ?_; rintro e w1 ⟨rfl, rfl⟩)
    refine (drawsplit_any hC).mono ?_
    rintro e w1 ⟨s, hs, rfl, hb1⟩
    obtain ⟨fs, b, hR⟩ : ∃ fs b, splitR s = (fs, b) := ⟨_, _, rfl⟩
    have HR := Lib.hid hR; clear hR
    go_wp2_with fail
    refine (impsplit_as HR.out (by omega) _).mono ?_
    rintro e w2 ⟨v1, rfl, ho1, hb2⟩
    have hb2' := bstep hb1 hb2
    clear hb1 hb2
    go_wp2_with fail
    refine (specsplit_as HR.out (by omega) _).mono ?_
    rintro e w3 ⟨v2, rfl, -, hb3⟩
    have ho1' := own_below ho1 hb3
    have hb3' := bstep hb2' hb3
    clear hb2' hb3 ho1
    cases b
    · obtain rfl := splitR_false HR.out
      obtain ⟨a, cap, rfl⟩ := own_slice ho1'
      have h3 : strL (Lib.itoa (-3)) = { data := #[45, 51] } := by
        rw [show Lib.itoa (-3) = [45, 51] from by unfold Lib.itoa; rw [if_pos (by decide)]; show 45 :: Lib.decDigits 3 = [45, 51]; rw [Lib.decDigits_one (by decide)]; rfl]
        rfl
      go_wp2_with (go_at_call 11; refine (fmt_any (-3) (by omega) (by omega) _ (HT.out.below hb3')).mono ?_; rintro e w4 ⟨rfl, hb4⟩)
      go_ret
      exact ⟨rfl, bstep hb3' hb4⟩
    · obtain ⟨hg, htot, hl24, hagain⟩ := join_again HR.out
      have HG := Lib.hid hg; clear hg
      have HAG := Lib.hid hagain; clear hagain
      obtain ⟨a, cap, rfl⟩ := own_slice ho1'
      go_wp2
      go_loop [8, 9] (fun v8 v9 => ∃ j : Nat, j ≤ fs.length ∧ v9 = .int .i64 j ∧ v8 = .string (strL (joinF (fs.take j)))) (fun _ v9 => fs.length - (intOf v9).toNat)
      case atStart => exact ⟨0, Nat.zero_le _, rfl, rfl⟩
      case round =>
        obtain ⟨j, hj, rfl, rfl⟩ := hrel
        have hsz := strL_size (joinF (fs.take j))
        have hjl := joinF_length (fs.take j)
        have htk := totF_take fs j
        have hll : (fs.take j).length ≤ j := List.length_take_le _ _
        have hbd : (joinF (fs.take j)).length ≤ 700 := by omega
        clear hjl htk hll
        by_cases hlt : j < fs.length
        · obtain ⟨g, cap', hv, _, _, _⟩ := own_slice_pos ho1' (by omega)
          simp only [Value.slice.injEq, true_and] at hv
          obtain ⟨rfl, rfl⟩ := hv
          obtain ⟨f, hf⟩ : ∃ f, fs[j]? = some f := ⟨_, List.getElem?_eq_getElem hlt⟩
          have hcell : w3.cell? ⟨g, j, none⟩ = some (.string (strL f)) := by rw [ho1'.cellAt j (by omega), List.getElem?_map, hf]; rfl
          have hfs : (strL f).size = f.length := strL_size f
          have hf600 : f.length ≤ 600 := by
            have := totF_take fs (j + 1)
            rw [List.take_add_one, hf, totF_append] at this
            have e : totF (Option.some f).toList = f.length := totF_one f
            rw [e] at this; omega
          have ha1 := strL_append (joinF (fs.take j)) f
          have ha2 : strL (joinF (fs.take j) ++ f) ++ ({ data := #[32] } : ByteArray) = strL (joinF (fs.take j) ++ f ++ [32]) := strL_append _ [32]
          have hsz2 : (strL (joinF (fs.take j) ++ f)).size = (joinF (fs.take j)).length + f.length := by rw [strL_size, List.length_append]
          have hnext : joinF (fs.take j) ++ f ++ [32] = joinF (fs.take (j + 1)) := by
            rw [List.take_add_one, hf]; exact (joinF_snoc _ f).symm
          have HN := Lib.hid hnext; clear hnext
          have HF := Lib.hid hf; clear hf
          go_wp2
          go_round
          case rel => exact ⟨j + 1, by omega, by go_num, by rw [← HN.out, List.append_assoc]⟩
          case measure => simp [intOf]; omega
        · obtain rfl : j = fs.length := by omega
          have hfull : fs.take fs.length = fs := List.take_length
          rw [hfull] at hsz hbd
          have HFULL := Lib.hid hfull
          clear hlt hj
          have hR3 : ∃ fs3 b3, splitR (strL (joinF fs)) = (fs3, b3) ∧ ((strL (joinF fs)).size ≤ 600 → fs3 = fs ∧ b3 = true) := ⟨(splitR (strL (joinF fs))).1, (splitR (strL (joinF fs))).2, rfl, fun h => by rw [HAG.out h]; exact ⟨rfl, rfl⟩⟩
          obtain ⟨fs3, b3, hR3, hR4⟩ := hR3
          have H3 := Lib.hid hR3; clear hR3
          have H4 := Lib.hid hR4; clear hR4
          have hcall : Calls Tryd.prog 16 #[.string (strL (joinF fs))] w3 (SplitAs fs3 b3 w3) := impsplit_as H3.out (by omega) w3
          have HCALL := Lib.hid hcall; clear hcall hfull HFULL
          by_cases h600 : 600 < (joinF fs).length
          · go_wp2_with fail
            refine HCALL.out.mono ?_
            rintro e w4 ⟨v3, rfl, ho3, hb4⟩
            have hb4' := bstep hb3' hb4
            clear hb3' hb4 ho3
            go_wp2
            go_ret
            exact ⟨rfl, hb4'⟩
          · obtain ⟨rfl, rfl⟩ := H4.out (by omega)
            go_wp2_with fail
            refine HCALL.out.mono ?_
            rintro e w4 ⟨v3, rfl, ho3, hb4⟩
            have hb4' := bstep hb3' hb4
            have ho1'' := own_below ho1' hb4
            clear hb3' hb4
            go_wp2_with fail
            refine (sametexts_any (by omega) ho1'' ho3).mono ?_
            rintro e w5 ⟨rfl, hb5⟩
            have hb5' := bstep hb4' hb5
            clear hb4' hb5 ho1'' ho3
            go_wp2
            go_ret
            exact ⟨rfl, hb5'⟩

namespace fnFieldsAgain
theorem own : ownKnob Tryd.prog.godebug = none := by kernel_rfl
theorem laidOut : laidOutB Tryd.prog = true := by kernel_rfl
theorem contract (H : Type) (enc : TypeId × Value → H) (W : World) (base : Nat) (args : Array Value) (ds gs : List (DataW H)) (before : List MemPlace)
    (hval : ∀ (j : Nat) t v, Tryd.f5.params[j]? = some t → args[j]? = some v → Value.okWide Tryd.prog W .any base t v)
    (hW : DataW.Whole enc Tryd.prog Tryd.f5.params.toList Rows.fnFieldsAgainSpec.vars false W args.toList ds gs before) (hL : laidMetH Tryd.prog laid3 W) :
    Calls Tryd.prog 5 args W fun e W' => ∃ v, e = .returned v ∧ Rows.fnFieldsAgainSpec.post enc Tryd.prog Tryd.f5 false true false false W args v W' := by
  have hW' := hW
  obtain ⟨p, q, hA0, hV, rfl, hfz, hnd⟩ := hW
  have hA : DataW.TrodAll enc Tryd.prog W 0 (fun _ => true) true Tryd.f5.params.toList args.toList ds p := hA0
  have hAk := hA
  rw [Tryd.params5] at hA hval
  obtain ⟨v0, vs0, d0, ds0, p0, q0, hargs, rfl, hp0, h0, r0⟩ := trodAll_cons hA
  obtain ⟨rfl, rfl, hq⟩ := trodAll_nil r0
  obtain rfl : args = #[v0] := by cases args; simp_all
  obtain ⟨rfl, rfl⟩ := trodVars_none hV
  obtain ⟨n0, hC0⟩ := code_of_trod Tryd.underlying22 Tryd.underlying5 (by kernel_rfl) (hval 0 22 v0 rfl rfl) h0
  clear hA0
  simp only [List.append_nil] at hW'
  have hlt : ∀ x ∈ p, x.block < W.heap.size := fun x hx => hW'.lt x hx
  refine (fieldsagain_walk hC0 (pow3 hL)).mono fun e W' ⟨he, hb⟩ => ?_
  subst he
  exact ⟨_, rfl, post_of_below (pa := p) (pv := []) hW' (fun _ _ _ => (trodAll_cons_mk (shut_bool Tryd.underlying4 _) trodAll_mk0)) (fun sp hsp => trodAll_stays laidOut hb (by rw [Tryd.params5]; intro t ht; have ht' : t = 22 := (by simpa using ht); rcases ht' with rfl <;> exact ⟨by kernel_rfl, of_decide_eq_true (by kernel_rfl)⟩) hAk hlt hsp) (fun _ _ => rfl) (by simp)
    hb (ok_one (by kernel_rfl) rfl (okWide_bool_mk Tryd.underlying4 _))⟩

theorem reads (os : Os) {H : Type} (enc : TypeId × Value → H) : ∃ places, DataW.whole enc Tryd.prog ((laidWorld3 os).forCall (fun _ _ => 0) ⟨#[], #[.slice none 0 0], []⟩).memory Tryd.f5.params.toList Rows.fnFieldsAgainSpec.vars false (#[.slice none 0 0] : Array Value).toList 8 = some ([.nil], [], places) :=
  ⟨[], by kernel_rfl⟩
set_option maxRecDepth 100000 in
theorem lifted (os : Os) (started : os.Started) (H : Type) (enc : TypeId × Value → H) (F : Stop.Interp) :
    ReturnsInHanded {} Tryd.checked os 5 .any ((OpenSpec.ofChange Rows.fnFieldsAgainSpec).preRow enc Tryd.prog Tryd.f5 Rows.fnFieldsAgainRow.domain false Rows.fnFieldsAgainRow.laid) (((OpenSpec.ofChange Rows.fnFieldsAgainSpec).at F).post enc Tryd.prog Tryd.f5 false true false false) := by
  obtain ⟨places, hx⟩ := reads os enc
  refine returnsInHanded_of_row (C := Tryd.checked) (s := OpenSpec.ofChange Rows.fnFieldsAgainSpec) own started (by kernel_rfl) Tryd.func5
    (witness_row_at (enc := enc) (C := Tryd.checked) false (laidWorld3 os) #[.slice none 0 0] rfl (by kernel_rfl) (by kernel_rfl) (by kernel_rfl)
      (OpenSpec.preRow_of_cond 8 hx (by kernel_rfl) (fun k hk => by cases hk) (by kernel_rfl) (laid3_met os _))) ?_
  intro W base args ds gs before hval hW _ _ _ hL _ _
  exact contract H enc W base args ds gs before hval hW hL

theorem said : Rows.FnFieldsAgainSaid :=
  OpenClaim.holds_of_cond 5 Tryd.f5 rfl rfl rfl rfl rfl rfl rfl ⟨rfl, rfl, rfl, rfl, rfl⟩ rfl rfl rfl rfl rfl (by kernel_rfl) Tryd.func5 (by kernel_rfl)
    (of_decide_eq_true (by kernel_rfl)) (by unfold Func.isWrapper; first | (rw [if_pos (by decide +kernel)]; kernel_rfl) | (rw [if_neg (by decide +kernel)]; exact ⟨rfl, rfl⟩))
    (fun os started H enc _ F => by rw [OpenClaim.pre_eq_preRow]; exact lifted os started H enc F)

theorem plain (f : FuncId) (fn : Func) (hf : Tryd.pinned.checked.prog.funcNamed "loop.example/g03309/laws.FnFieldsAgain" = some f) (hfn : Tryd.pinned.checked.prog.funcs[f]? = some fn) :
    true = Tryd.pinned.checked.prog.looks [] ∧ ∀ (j : Nat) t, fn.params[j]? = some t → Tryd.pinned.checked.prog.wantsStandIn t = false := by
  obtain rfl : f = 5 := Option.some.inj ((show Tryd.prog.funcNamed "loop.example/g03309/laws.FnFieldsAgain" = some 5 by kernel_rfl).symm.trans hf) |>.symm
  obtain rfl : fn = Tryd.f5 := (Option.some.inj (Tryd.func5.symm.trans hfn)).symm
  refine ⟨by kernel_rfl, fun j t ht => ?_⟩
  rw [Tryd.params5] at ht
  have hm := Array.mem_of_getElem? ht
  have ht' : t = 22 := (by simpa using hm)
  rcases ht' with rfl <;> (show _ = _; kernel_rfl)

/-- THE CARD -/
theorem card : Rows.FnFieldsAgainCardSaid :=
  Claim7.holds_tied_plain_at .later [] _ _ _ _ said (fun _ h => by cases h) (by kernel_rfl) (fun _ h => by cases h) fnFieldsAgain_row_tie rfl ⟨rfl, rfl⟩ (by kernel_rfl) rfl plain (by kernel_rfl)
end fnFieldsAgain
end Go.Proofs.YtidfeffpfcnnlaaDoor
