/- For every code of bytes the law FnHexText returns true: a string can be decoded from its hexadecimal encoding, and longer strings are rejected. No condition but the tie of the listed variables to the program's text, which the card gives. -/
import Derived.Test.YtidfeffpfcnnlaaDoorLaid
import Derived.Test.YtidfeffpfcnnlaaDoorText
import Derived.Test.YtidfeffpfcnnlaaDoorDec
namespace Go.Proofs.YtidfeffpfcnnlaaDoor
open Go.ChangeShapes Go.WideShapes Go.ChangeAt Go.RowKit

theorem hexOf_at : ∀ (l : List UInt8) (k : Nat) (h : k < l.length), (hexOf l)[2 * k]? = some (figN (l[k].toNat / 16)) ∧ (hexOf l)[2 * k + 1]? = some (figN (l[k].toNat % 16))
  | [], k, h => by simp at h
  | c :: r, 0, h => by simp [hexOf]
  | c :: r, k + 1, h => by
    have ih := hexOf_at r k (by simpa using h)
    have e : hexOf (c :: r) = figN (c.toNat / 16) :: figN (c.toNat % 16) :: hexOf r := by simp [hexOf]
    rw [e, show 2 * (k + 1) = 2 * k + 1 + 1 by omega]
    simpa using ih
theorem hv_fig (x : Nat) (h : x < 16) : hv (figN x) = x := by
  unfold figN
  split
  · unfold hv; rw [if_pos (by omega)]; omega
  · unfold hv; rw [if_neg (by omega), if_pos (by omega)]; omega
theorem fig_bd (x : Nat) (h : x < 16) : 0 ≤ figN x ∧ figN x ≤ 255 := by
  unfold figN; split <;> omega
theorem bt_nums {xs : List Int} {j : Nat} {y : Int} (h : xs[j]? = some y) (h0 : 0 ≤ y) (h1 : y ≤ 255) : bt (strOfNums xs) j = y := by
  unfold bt
  rw [strOfNums_data, List.getD, List.getElem?_map, h]
  show ((UInt8.ofNat y.toNat).toNat : Int) = y
  rw [UInt8.toNat_ofNat']
  omega
theorem bt_hex (s : ByteArray) (k : Nat) (h : k < s.size) : hv (bt (strOfNums (hexOf s.data.toList)) (2 * k)) = ((s[k].toNat / 16 : Nat) : Int) ∧ hv (bt (strOfNums (hexOf s.data.toList)) (2 * k + 1)) = ((s[k].toNat % 16 : Nat) : Int) := by
  have hl := s[k].toNat_lt
  have ha := hexOf_at s.data.toList k (by simpa using h)
  have e : s.data.toList[k]'(by simpa using h) = s[k] := rfl
  rw [e] at ha
  have b1 := fig_bd (s[k].toNat / 16) (by omega)
  have b2 := fig_bd (s[k].toNat % 16) (by omega)
  rw [bt_nums ha.1 b1.1 b1.2, bt_nums ha.2 b2.1 b2.2, hv_fig _ (by omega), hv_fig _ (by omega)]
  exact ⟨rfl, rfl⟩
theorem hexStr_size (s : ByteArray) : (strOfNums (hexOf s.data.toList)).size = 2 * s.size := by
  rw [strOfNums_size, hexOf_length]; simp
theorem dec_enc (s : ByteArray) (h : s.size ≤ 20000) : decR (strOfNums (hexOf s.data.toList)) = (s, true) := by
  have hsz := hexStr_size s
  have hd : (strOfNums (hexOf s.data.toList)).size / 2 = s.size := by omega
  have hok : okM (strOfNums (hexOf s.data.toList)) := fun k hk => by
    rw [hd] at hk
    obtain ⟨h1, h2⟩ := bt_hex s k hk
    rw [h1, h2]; omega
  unfold decR
  rw [if_pos ⟨by omega, by omega, hok⟩, hd]
  have e : decM (strOfNums (hexOf s.data.toList)) s.size = s.data.toList.map fun c => (c.toNat : Int) := by
    unfold decM
    apply List.ext_getElem
    · simp
    · intro k h1 h2
      have hk : k < s.size := by simpa using h1
      obtain ⟨g1, g2⟩ := bt_hex s k hk
      rw [List.getElem_map, List.getElem_map, List.getElem_range, g1, g2]
      have : s.data.toList[k]'(by simpa using hk) = s[k] := rfl
      rw [this]
      omega
  rw [e, strOfNums_strL]
  unfold strL
  congr 1

/-- A string of at most 20001 bytes. -/
def HexDrawn (w : World) (e : Ending) (w' : World) : Prop := ∃ s : ByteArray, s.size ≤ 20001 ∧ e = .returned (.string s) ∧ Below w.heap.size w w'
set_option maxHeartbeats 1000000 in
theorem drawhex_any {w : World} {v : Value} {n : Nat} (hC : Code w w.heap.size v n) :
    Calls Tryd.prog 9 #[v] w (HexDrawn w) := by
  go_enter Tryd.func9, Tryd.ntmps9
  go_wp2_with fail
  refine (new_any hC).mono ?_
  rintro e w1 ⟨c, rfl, hb0, hC1⟩
  go_wp2_with fail
  refine (once_any 60 (by omega) (by omega) hC1).mono ?_
  rintro e w2 ⟨x, rfl, hg1, hC2⟩
  have hb2 := hb0.trans (below_of_only hg1 hC2.1 hb0.size)
  clear hb0 hg1 hC1
  cases x
  · go_wp2_with fail
    refine (below_any 30 (by omega) (by omega) hC2).mono ?_
    rintro e w3 ⟨x, hx0, hx1, rfl, hg1, hC3⟩
    have hb3 := hb2.trans (below_of_only hg1 hC3.1 hb2.size)
    clear hb2 hg1 hC2
    obtain ⟨m, rfl⟩ := Int.eq_ofNat_of_zero_le hx0
    go_wp2_with fail
    refine (text_any m (by omega) hC3).mono ?_
    rintro e w4 ⟨s, hs, rfl, hg2, hC4⟩
    have hb4 := hb3.trans (below_of_only hg2 hC4.1 hb3.size)
    go_wp2
    go_ret
    exact ⟨s, by omega, rfl, hb4⟩
  · go_wp2_with fail
    refine (below_any 2 (by omega) (by omega) hC2).mono ?_
    rintro e w3 ⟨x, hx0, hx1, rfl, hg1, hC3⟩
    have hb3 := hb2.trans (below_of_only hg1 hC3.1 hb2.size)
    clear hb2 hg1 hC2
    obtain ⟨m, rfl⟩ := Int.eq_ofNat_of_zero_le hx0
    have hlg : Calls Tryd.prog 23 #[.int .i64 (20000 + (m : Int)), .int .u8 200] w3 (Longed w3 (20000 + m)) := long_any (20000 + m) (by omega) 200
    have HLG := Lib.hid hlg; clear hlg
    go_wp2_with fail
    refine HLG.out.mono ?_
    rintro e w4 ⟨s, hs, rfl, hb⟩
    have hb4 := bstep hb3 hb
    have hs' : s.size ≤ 20001 := by omega
    clear hs
    go_wp2
    go_ret
    exact ⟨s, hs', rfl, hb4⟩

set_option maxHeartbeats 1000000 in
theorem hextext_walk {w : World} {v : Value} {n : Nat} (hC : Code w w.heap.size v n) (hT : Pow w) :
    Calls Tryd.prog 3 #[v] w fun e w' => e = .returned (.bool true) ∧ Below w.heap.size w w' := by
  have HT := Lib.hid hT; clear hT
  by_cases hbig : 1048576 < n
  · go_enter Tryd.func3, Tryd.ntmps3
    go_wp2_with (go_at_call 8; refine (big_yes hC hbig).mono ?_; rintro e w1 ⟨rfl, rfl⟩)
    go_ret
    exact ⟨rfl, Below.refl _ _⟩
  · go_enter Tryd.func3, Tryd.ntmps3
    go_wp2_with (go_at_call 8; refine (big_no hC hbig).mono ?_; rintro e w1 ⟨rfl, rfl⟩)
    refine (drawhex_any hC).mono ?_
    rintro e w1 ⟨s, hs, rfl, hb1⟩
    by_cases hlen : s.size ≤ 20000
    · have hdec := dec_enc s hlen
      have hsz := hexStr_size s
      have HDEC := Lib.hid hdec; clear hdec
      go_wp2_with fail
      refine (encode_yes s _ hlen).mono ?_
      rintro e w2 ⟨rfl, hb2⟩
      have hb2' := bstep hb1 hb2
      clear hb1 hb2
      go_wp2_with fail
      refine (impdec_any _ _ (by omega)).mono ?_
      rintro e w3 ⟨rfl, hb3⟩
      have hb3' := bstep hb2' hb3
      clear hb2' hb3
      have hdec := HDEC.out
      go_wp2
      go_ret
      exact ⟨rfl, hb3'⟩
    · have h10 : strL (Lib.itoa 10) = { data := #[49, 48] } := by
        rw [show Lib.itoa 10 = [49, 48] from by unfold Lib.itoa; rw [if_neg (by decide)]; exact Lib.decDigits_two (by decide) (by decide)]; rfl
      go_wp2_with fail
      refine (encode_no s _ (by omega) (by omega)).mono ?_
      rintro e w2 ⟨rfl, hb2⟩
      have hb2' := bstep hb1 hb2
      clear hb1 hb2
      go_wp2_with (go_at_call 11; refine (fmt_any 10 (by omega) (by omega) _ (HT.out.below hb2')).mono ?_; rintro e w3 ⟨rfl, hb3⟩)
      go_ret
      exact ⟨rfl, bstep hb2' hb3⟩

namespace fnHexText
theorem own : ownKnob Tryd.prog.godebug = none := by kernel_rfl
theorem laidOut : laidOutB Tryd.prog = true := by kernel_rfl
theorem contract (H : Type) (enc : TypeId × Value → H) (W : World) (base : Nat) (args : Array Value) (ds gs : List (DataW H)) (before : List MemPlace)
    (hval : ∀ (j : Nat) t v, Tryd.f3.params[j]? = some t → args[j]? = some v → Value.okWide Tryd.prog W .any base t v)
    (hW : DataW.Whole enc Tryd.prog Tryd.f3.params.toList Rows.fnHexTextSpec.vars false W args.toList ds gs before) (hL : laidMetH Tryd.prog laid3 W) :
    Calls Tryd.prog 3 args W fun e W' => ∃ v, e = .returned v ∧ Rows.fnHexTextSpec.post enc Tryd.prog Tryd.f3 false true false false W args v W' := by
  have hW' := hW
  obtain ⟨p, q, hA0, hV, rfl, hfz, hnd⟩ := hW
  have hA : DataW.TrodAll enc Tryd.prog W 0 (fun _ => true) true Tryd.f3.params.toList args.toList ds p := hA0
  have hAk := hA
  rw [Tryd.params3] at hA hval
  obtain ⟨v0, vs0, d0, ds0, p0, q0, hargs, rfl, hp0, h0, r0⟩ := trodAll_cons hA
  obtain ⟨rfl, rfl, hq⟩ := trodAll_nil r0
  obtain rfl : args = #[v0] := by cases args; simp_all
  obtain ⟨rfl, rfl⟩ := trodVars_none hV
  obtain ⟨n0, hC0⟩ := code_of_trod Tryd.underlying22 Tryd.underlying5 (by kernel_rfl) (hval 0 22 v0 rfl rfl) h0
  clear hA0
  simp only [List.append_nil] at hW'
  have hlt : ∀ x ∈ p, x.block < W.heap.size := fun x hx => hW'.lt x hx
  refine (hextext_walk hC0 (pow3 hL)).mono fun e W' ⟨he, hb⟩ => ?_
  subst he
  exact ⟨_, rfl, post_of_below (pa := p) (pv := []) hW' (fun _ _ _ => (trodAll_cons_mk (shut_bool Tryd.underlying4 _) trodAll_mk0)) (fun sp hsp => trodAll_stays laidOut hb (by rw [Tryd.params3]; intro t ht; have ht' : t = 22 := (by simpa using ht); rcases ht' with rfl <;> exact ⟨by kernel_rfl, of_decide_eq_true (by kernel_rfl)⟩) hAk hlt hsp) (fun _ _ => rfl) (by simp)
    hb (ok_one (by kernel_rfl) rfl (okWide_bool_mk Tryd.underlying4 _))⟩

theorem reads (os : Os) {H : Type} (enc : TypeId × Value → H) : ∃ places, DataW.whole enc Tryd.prog ((laidWorld3 os).forCall (fun _ _ => 0) ⟨#[], #[.slice none 0 0], []⟩).memory Tryd.f3.params.toList Rows.fnHexTextSpec.vars false (#[.slice none 0 0] : Array Value).toList 8 = some ([.nil], [], places) :=
  ⟨[], by kernel_rfl⟩
set_option maxRecDepth 100000 in
theorem lifted (os : Os) (started : os.Started) (H : Type) (enc : TypeId × Value → H) (F : Stop.Interp) :
    ReturnsInHanded {} Tryd.checked os 3 .any ((OpenSpec.ofChange Rows.fnHexTextSpec).preRow enc Tryd.prog Tryd.f3 Rows.fnHexTextRow.domain false Rows.fnHexTextRow.laid) (((OpenSpec.ofChange Rows.fnHexTextSpec).at F).post enc Tryd.prog Tryd.f3 false true false false) := by
  obtain ⟨places, hx⟩ := reads os enc
  refine returnsInHanded_of_row (C := Tryd.checked) (s := OpenSpec.ofChange Rows.fnHexTextSpec) own started (by kernel_rfl) Tryd.func3
    (witness_row_at (enc := enc) (C := Tryd.checked) false (laidWorld3 os) #[.slice none 0 0] rfl (by kernel_rfl) (by kernel_rfl) (by kernel_rfl)
      (OpenSpec.preRow_of_cond 8 hx (by kernel_rfl) (fun k hk => by cases hk) (by kernel_rfl) (laid3_met os _))) ?_
  intro W base args ds gs before hval hW _ _ _ hL _ _
  exact contract H enc W base args ds gs before hval hW hL

theorem said : Rows.FnHexTextSaid :=
  OpenClaim.holds_of_cond 3 Tryd.f3 rfl rfl rfl rfl rfl rfl rfl ⟨rfl, rfl, rfl, rfl, rfl⟩ rfl rfl rfl rfl rfl (by kernel_rfl) Tryd.func3 (by kernel_rfl)
    (of_decide_eq_true (by kernel_rfl)) (by unfold Func.isWrapper; first | (rw [if_pos (by decide +kernel)]; kernel_rfl) | (rw [if_neg (by decide +kernel)]; exact ⟨rfl, rfl⟩))
    (fun os started H enc _ F => by rw [OpenClaim.pre_eq_preRow]; exact lifted os started H enc F)

theorem plain (f : FuncId) (fn : Func) (hf : Tryd.pinned.checked.prog.funcNamed "loop.example/g03309/laws.FnHexText" = some f) (hfn : Tryd.pinned.checked.prog.funcs[f]? = some fn) :
    true = Tryd.pinned.checked.prog.looks [] ∧ ∀ (j : Nat) t, fn.params[j]? = some t → Tryd.pinned.checked.prog.wantsStandIn t = false := by
  obtain rfl : f = 3 := Option.some.inj ((show Tryd.prog.funcNamed "loop.example/g03309/laws.FnHexText" = some 3 by kernel_rfl).symm.trans hf) |>.symm
  obtain rfl : fn = Tryd.f3 := (Option.some.inj (Tryd.func3.symm.trans hfn)).symm
  refine ⟨by kernel_rfl, fun j t ht => ?_⟩
  rw [Tryd.params3] at ht
  have hm := Array.mem_of_getElem? ht
  have ht' : t = 22 := (by simpa using hm)
  rcases ht' with rfl <;> (show _ = _; kernel_rfl)

/-- THE CARD -/
theorem card : Rows.FnHexTextCardSaid :=
  Claim7.holds_tied_plain_at .later [] _ _ _ _ said (fun _ h => by cases h) (by kernel_rfl) (fun _ h => by cases h) fnHexText_row_tie rfl ⟨rfl, rfl⟩ (by kernel_rfl) rfl plain (by kernel_rfl)
end fnHexText
end Go.Proofs.YtidfeffpfcnnlaaDoor
