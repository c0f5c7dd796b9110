/- For every line the law FnExactSplitFields returns true: SplitFields answers as its model does, and its answer owns its memory. No condition. -/
import Derived.Test.YtidfeffpfcnnlaaSplitSpec
import Derived.Test.YtidfeffpfcnnlaaMarks
namespace Go.Proofs.Ytidfeffpfcnnlaa
open Go.ChangeShapes Go.WideShapes Go.ChangeAt Go.RowKit

theorem splitR_len (s : ByteArray) : (splitR s).1.length ≤ 24 := by
  unfold splitR
  split
  · rename_i h; exact h.2.2
  · simp

theorem bstep {w a b : World} (h : Below w.heap.size w a) (k : Below a.heap.size a b) : Below w.heap.size w b := h.trans (k.mono h.size)
theorem own_below {a b : World} {B : Nat} {e : TypeId} {v : Value} {n : Nat} {xs : List Value} (h : a.ownsRow B e 1 v n xs) (hb : Below a.heap.size a b) : b.ownsRow B e 1 v n xs :=
  h.kept (only_of_below hb none) (by cases h : v.ownBlock <;> simp)
theorem apart_base {a b : World} {B : Nat} {e e' : TypeId} {v v' : Value} {n n' : Nat} {xs xs' : List Value} (h : a.ownsRow B e 1 v n xs) (h' : b.ownsRow a.heap.size e' 1 v' n' xs') : v.ownBlock = none ∨ v.ownBlock ≠ v'.ownBlock := by
  cases h1 : v.ownBlock with
  | none => exact Or.inl rfl
  | some k =>
    refine Or.inr (fun e => ?_)
    have a1 := (h.lt k h1).2
    have a2 := (h'.lt k (by rw [← e])).1
    omega

set_option maxHeartbeats 1000000 in
theorem exactsplit_walk (s : ByteArray) (hm : s.size ≤ maxLen) (w : World) :
    Calls Try.prog 6 #[.string s] w fun e w' => e = .returned (.bool true) ∧ Below w.heap.size w w' := by
  unfold maxLen at hm
  by_cases hbig : 1048576 < s.size
  · go_enter Try.func6, Try.ntmps6
    go_wp2
    go_ret
    exact ⟨rfl, Below.refl _ _⟩
  · have hl := splitR_len s
    go_enter Try.func6, Try.ntmps6
    go_wp2_with fail
    refine (specsplit_any s _ (by omega)).mono ?_
    rintro e w1 ⟨v1, rfl, ho1, hb1⟩
    go_wp2_with fail
    refine (impsplit_any s _ (by omega)).mono ?_
    rintro e w2 ⟨v2, rfl, ho2, hb2⟩
    have ho1a := own_below ho1 hb2
    go_wp2_with fail
    refine (eqrow_any (by omega) ho2 ho1a).mono ?_
    rintro e w3 ⟨rfl, hb3⟩
    have ho2b := own_below ho2 hb3
    have ho1b := own_below ho1a hb3
    go_wp2_with fail
    refine (markrow_any 1 (Nat.le_refl _) (by omega) ho2b).mono ?_
    rintro e w4 ⟨rfl, hg4, ys, hys, hmk⟩
    have ho1c := ho1b.kept hg4 (apart_base ho1 ho2)
    have hb4 : Below w.heap.size w w4 := (bstep (bstep hb1 hb2) hb3).grown hg4 (Nat.le_trans hb1.size (Nat.le_trans hb2.size hb3.size)) (fun k hk => Nat.le_trans hb1.size (ho2.lt k hk).1)
    clear hg4 hb1 hb2 hb3 ho1 ho1a ho1b ho2 ho2b
    go_wp2_with fail
    refine (heldrow_any 1 (Nat.le_refl _) (by omega) hys hmk).mono ?_
    rintro e w5 ⟨rfl, hb5⟩
    have hys5 := own_below hys hb5
    have ho1d := own_below ho1c hb5
    have hb5' := bstep hb4 hb5
    clear hb4 hb5 hys ho1c
    go_wp2_with fail
    refine (impsplit_any s _ (by omega)).mono ?_
    rintro e w6 ⟨v3, rfl, ho3, hb6⟩
    have hys6 := own_below hys5 hb6
    have ho1e := own_below ho1d hb6
    have hb6' := bstep hb5' hb6
    clear hb5' hb6 hys5 ho1d
    go_wp2_with fail
    refine (eqrow_any (by omega) ho3 ho1e).mono ?_
    rintro e w7 ⟨rfl, hb7⟩
    have hys7 := own_below hys6 hb7
    have hb7' := bstep hb6' hb7
    clear hb6' hb7 hys6 ho1e ho3
    go_wp2_with fail
    refine (heldrow_any 1 (Nat.le_refl _) (by omega) hys7 hmk).mono ?_
    rintro e w8 ⟨rfl, hb8⟩
    have hb8' := bstep hb7' hb8
    clear hb7' hb8 hys7 hmk
    go_wp2
    go_ret
    exact ⟨rfl, hb8'⟩

namespace fnExactSplitFields
theorem own : ownKnob Try.prog.godebug = none := by kernel_rfl
theorem laidOut : laidOutB Try.prog = true := by kernel_rfl
set_option maxRecDepth 100000 in
theorem lifted (os : Os) (started : os.Started) (H : Type) (enc : TypeId × Value → H) :
    ReturnsInHanded {} Try.checked os 6 .any (Rows.fnExactSplitFieldsSpec.pre6 enc Try.prog Try.f6 Rows.fnExactSplitFieldsRow.domain false) (Rows.fnExactSplitFieldsSpec.post enc Try.prog Try.f6 false true false false) := by
  refine returnsInHanded_of_change (C := Try.checked) own started (by kernel_rfl) Try.func6
    (ChangeSpec.witness6 (enc := enc) (C := Try.checked) false ⟨#[], #[.string ByteArray.empty], []⟩ 8 (by kernel_rfl) (by kernel_rfl) (by kernel_rfl) (by kernel_rfl)) ?_
  intro W base args ds gs before hval0 hW hcnd _
  have hval : ∀ (j : Nat) t v, Try.f6.params[j]? = some t → args[j]? = some v → Value.okWide Try.prog W .any base t v := hval0
  have hW' := hW
  obtain ⟨p, q, hA0, hV, rfl, hfz, hnd⟩ := hW
  have hA : DataW.TrodAll enc Try.prog W 0 (fun _ => true) true Try.f6.params.toList args.toList ds p := hA0
  have hAk := hA
  rw [Try.params6] at hA hval
  obtain ⟨v0, vs0, d0, ds0, p0, q0, hargs, rfl, hp0, h0, r0⟩ := trodAll_cons hA
  obtain ⟨rfl, rfl, hq⟩ := trodAll_nil r0
  obtain rfl : args = #[v0] := by cases args; simp_all
  obtain ⟨rfl, rfl⟩ := trodVars_none hV
  obtain ⟨s0, rfl, _, _, hs0⟩ := Go.ChangeMaps.open_string Try.underlying9 (hval 0 9 v0 rfl rfl) h0
  clear hA0 hval0
  simp only [List.append_nil] at hW'
  have hlt : ∀ x ∈ p, x.block < W.heap.size := fun x hx => hW'.lt x hx
  refine (exactsplit_walk s0 hs0 W).mono fun e W' ⟨he, hb⟩ => ?_
  subst he
  exact ⟨_, rfl, post_of_below (pa := p) (pv := []) hW' (fun _ _ _ => (trodAll_cons_mk (shut_bool Try.underlying4 _) trodAll_mk0)) (fun sp hsp => trodAll_stays laidOut hb (by rw [Try.params6]; intro t ht; have ht' : t = 9 := (by simpa using ht); rcases ht' with rfl <;> exact ⟨by kernel_rfl, of_decide_eq_true (by kernel_rfl)⟩) hAk hlt hsp) (fun _ _ => rfl) (by simp)
    hb (ok_one (by kernel_rfl) rfl (okWide_bool_mk Try.underlying4 _))⟩

theorem over : Rows.fnExactSplitFieldsRow.holds Try.pinned (OpenSpec.ofChange Rows.fnExactSplitFieldsSpec) :=
  OpenClaim.holds_of_wide 6 Try.f6 rfl rfl rfl rfl rfl rfl rfl ⟨rfl, rfl, rfl, rfl, rfl⟩ rfl rfl rfl rfl rfl (by kernel_rfl) Try.func6 (by kernel_rfl)
    (of_decide_eq_true (by kernel_rfl)) (by unfold Func.isWrapper; first | (rw [if_pos (by decide +kernel)]; kernel_rfl) | (rw [if_neg (by decide +kernel)]; exact ⟨rfl, rfl⟩))
    (fun os started H enc _ => lifted os started H enc)

/-- THE STATEMENT -/
theorem proved : Rows.FnExactSplitFieldsSaid :=
  over
end fnExactSplitFields
end Go.Proofs.Ytidfeffpfcnnlaa
