/- Chapter 18: the model's DrawTwice. No condition. -/
import Derived.Test.YtglehmffmailkaaMotifFacts
import Derived.Test.YtglehmffmailkaaDrawMany
namespace Go.Proofs.Ytglehmffmailkaa
open Go.ChangeShapes Go.WideShapes Go.ChangeAt Go.RowKit

set_option maxHeartbeats 2000000 in
theorem drawtwice_any {w : World} {v : Value} {n : Nat} (hC : Code w w.heap.size v n) :
    Calls Try.prog 12 #[v] w fun e w' => ∃ x vx, (tuneB x = true ∧ x.length ≤ 22) ∧ e = .returned vx ∧ w'.ownsRow w.heap.size 39 2 vx x.length (flat2 x) ∧ Below w.heap.size w w' := by
  go_enter Try.func12, Try.ntmps12
  go_wp2_with fail
  refine (new_any hC).mono ?_
  rintro e w1 ⟨c, rfl, hb1, hC1⟩
  go_wp2_with fail
  refine (l02tuneC_any hC1).mono ?_
  rintro e w2 ⟨t, v2, ht, rfl, ho2, hg2, hC2⟩
  have hb2 := hb1.grown hg2 hb1.size (fun k hk => by injection hk with e; rw [← e]; exact hC1.1)
  have hcl := hC1.1
  have hcx : c < w1.heap.size := hC1.lt
  go_wp2_with fail
  refine (below_any 4 (by omega) (by omega) hC2).mono ?_
  rintro e w3 ⟨d, hd0, hd1, rfl, hg3, hC3⟩
  have hb3 := hb2.grown hg3 hb2.size (fun k hk => by injection hk with e; rw [← e]; exact hcl)
  have ho3 := ho2.kept hg3 (apartC ho2 hcx)
  have wd : IntKind.i64.wrap (16 + d) = 16 + d := IntWalk.i64_in _ (by omega)
  obtain ⟨u, x, hu, hul, hj, hx1, hx2⟩ := twice_of ht (d := 16 + d) (by omega)
  have ht11 := ht.1
  have hLA := later_any (w := w3) (16 + d) (Rd.of_own ho3) (by omega)
  rw [hu] at hLA
  have HLA := Lib.hid hLA
  have HJ := Lib.hid hj
  have HX := Lib.hid hx1
  clear hC1 hC2 hC3 hg2 hg3 ho2 hb1 hb2 hLA hu hj hx1
  go_wp2_with fail
  refine HLA.out.mono ?_
  rintro e w4 ⟨vu, rfl, hou, hb4⟩
  try simp only at hou
  have ho4 := ownS_below ho3 hb4
  have hb5 := bstep hb3 hb4
  clear HLA ho3 hb3 hb4
  have hJA := join_any (w := w4) (Rd.of_own ho4) (Rd.of_own hou)
  rw [HJ.out] at hJA
  have HJA := Lib.hid hJA
  clear hJA HJ
  go_wp2_with fail
  refine HJA.out.mono ?_
  rintro e w5 ⟨vx, rfl, hox, hb6⟩
  try simp only at hox
  have hb7 := bstep hb5 hb6
  have ho7 := ownS_mono hox hb5.size
  clear HJA ho4 hou
  go_wp2
  go_ret
  exact ⟨x, vx, ⟨HX.out, hx2⟩, rfl, ho7, hb7⟩
end Go.Proofs.Ytglehmffmailkaa
