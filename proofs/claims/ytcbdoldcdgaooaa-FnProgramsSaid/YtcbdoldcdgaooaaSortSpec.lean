/- The contract of SortNotes, of chapter 2's model. No condition. -/
import Derived.Test.YtcbdoldcdgaooaaTuneSpec2
namespace Go.Proofs.Ytcbdoldcdgaooaa
open Go.ChangeShapes Go.WideShapes Go.ChangeAt Go.RowKit

/-- How many leading notes are less than x. -/
def rankM (o : List (Int × Int)) (x : Int × Int) : Nat := (o.takeWhile fun p => lessB p x).length
def insM (o : List (Int × Int)) (x : Int × Int) : List (Int × Int) := if o[rankM o x]? = some x then o else o.take (rankM o x) ++ [x] ++ o.drop (rankM o x)
def sortM (l : List (Int × Int)) : List (Int × Int) := if l.length ≤ 40 then l.foldl insM [] else []
theorem rank_le (o : List (Int × Int)) (x : Int × Int) : rankM o x ≤ o.length := by
  unfold rankM; exact (List.takeWhile_sublist _).length_le
theorem rank_of : ∀ (o : List (Int × Int)) (x : Int × Int) (a : Nat), (∀ i p, i < a → o[i]? = some p → lessB p x = true) → a ≤ o.length → (∀ p, o[a]? = some p → lessB p x = false) → rankM o x = a
  | [], x, a, h1, h2, h3 => by simp at h2; subst h2; rfl
  | q :: r, x, 0, h1, h2, h3 => by
    have := h3 q rfl
    unfold rankM; rw [List.takeWhile_cons_of_neg (by simp [this])]; rfl
  | q :: r, x, a + 1, h1, h2, h3 => by
    have hq := h1 0 q (by omega) rfl
    have ih := rank_of r x a (fun i p hi hp => h1 (i + 1) p (by omega) (by simpa using hp)) (by simpa using h2) (fun p hp => h3 p (by simpa using hp))
    unfold rankM at ih ⊢
    rw [List.takeWhile_cons_of_pos (by simpa using hq), List.length_cons, ih]
theorem ins_len (o : List (Int × Int)) (x : Int × Int) : (insM o x).length ≤ o.length + 1 := by
  unfold insM
  split
  · omega
  · have := rank_le o x
    simp only [List.length_append, List.length_take, List.length_drop, List.length_cons, List.length_nil]; omega
theorem fold_len : ∀ (l o : List (Int × Int)), (l.foldl insM o).length ≤ o.length + l.length
  | [], o => by simp
  | x :: l, o => by
    have := fold_len l (insM o x)
    have := ins_len o x
    simp only [List.foldl_cons, List.length_cons]; omega
theorem fold_succ (l : List (Int × Int)) (k : Nat) (x : Int × Int) (h : l[k]? = some x) : (l.take (k + 1)).foldl insM [] = insM ((l.take k).foldl insM []) x := by
  rw [List.take_add_one, h, List.foldl_append]; rfl

theorem ownS_form {w : World} {B e s : Nat} {v : Value} {n : Nat} {xs : List Value} (h : w.ownsRow B e s v n xs) (hv : v ≠ .slice none 0 0) : ∃ g cap, v = .slice (some ⟨g, 0, none⟩) n cap ∧ B ≤ g ∧ n ≤ cap ∧ cap ≤ maxLen := by
  rcases h.2 with ⟨rfl, rfl⟩ | ⟨g, cap, cur, rfl, hb, hg, h1, h2, h3, h4⟩
  · exact absurd rfl hv
  · exact ⟨g, cap, rfl, hb, h1, h2⟩

/-- 'append' onto an own row, as a step of a region that draws its order: nothing to append is borne. -/
theorem step_append_own {P : Program} {w : World} {ops : Array Oper} {o : Oper} {a : Act} {K : Act → World → Prop} {Q : Exit → Act → World → Prop} {E : Prop} (hgd : o.guard = none) (s x : Operand) (t : TypeId)
    (ho : o.op = .call { callee := .builtin .append, args := #[s, x], argTypes := #[t, t] })
    (base : Nat) (e : TypeId) (i : TypeInfo) (z : Value) (size bytes : Nat) (ht : P.underlying t = some (.slice e)) (hi : P.info? e = some i) (hz : i.zero = some z)
    (hsize : i.size = size) (hby : i.bytes = bytes) (hzs : z.cells.size = size) (hsz : 0 < size)
    (v : Value) (n : Nat) (xs : List Value) (hs : a.eval s = v) (hown : w.ownsRow base e size v n xs)
    (ad : Addr) (m c : Nat) (news : List Value) (hx : a.eval x = .slice (some ad) m c) (hl : news.length = m * size) (hnews : ∀ j u, news[j]? = some u → w.cell? (ad.add j) = some u) (h1 : ∀ u ∈ news, u.oneCell' = true)
    (h63 : n + m ≤ maxLen) (hbytes : (n + m) * bytes ≤ 140737488355328) (hbase : base ≤ w.heap.size)
    (h : ∀ v' w', w'.ownsRow base e size v' (n + m) (xs ++ news) → w.grownBy w' v.ownBlock → K (a.put o.dst v') w') :
    if Region.wanted o (yielded ops a.tmps) = true then Oper.wp P o a w K Q else E := by
  have hw : Region.wanted o (yielded ops a.tmps) = true := by simp [Region.wanted, hgd]
  rw [if_pos hw]
  exact wp_append_own w s x t ho base e i z size bytes ht hi hz hsize hby hzs hsz v n xs hs hown ad m c news hx hl hnews h1 h63 hbytes hbase fun v' w' h2 h3 _ => h v' w' h2 h3

theorem add_none (b o j : Nat) : ((⟨b, o, none⟩ : Addr).add j) = ⟨b, o + j, none⟩ := by unfold Addr.add; simp
theorem rd_take {w : World} {g cap : Nat} {o : List (Int × Int)} (h : Rd2 w (.slice (some ⟨g, 0, none⟩) o.length cap) o) (a : Nat) : ∀ j u, (flat2 (o.take a))[j]? = some u → w.cell? ((⟨g, 0, none⟩ : Addr).add j) = some u := by
  intro j u hj
  have hsplit : flat2 o = flat2 (o.take a) ++ flat2 (o.drop a) := by rw [← flat2_append, List.take_append_drop]
  have hlt : j < (flat2 (o.take a)).length := (List.getElem?_eq_some_iff.1 hj).1
  have hlt2 := hlt
  rw [flat2_length, List.length_take] at hlt2
  obtain ⟨b, off, cp, hv, hc⟩ := Rd.pos h (by omega)
  simp only [Value.slice.injEq, Option.some.injEq, Addr.mk.injEq, true_and, and_true] at hv
  obtain ⟨⟨rfl, rfl⟩, rfl⟩ := hv
  rw [add_none, hc j (by omega), hsplit, List.getElem?_append_left hlt, hj]
theorem rd_drop {w : World} {g cap : Nat} {o : List (Int × Int)} (h : Rd2 w (.slice (some ⟨g, 0, none⟩) o.length cap) o) (a : Nat) : ∀ j u, (flat2 (o.drop a))[j]? = some u → w.cell? ((⟨g, a * 2, none⟩ : Addr).add j) = some u := by
  intro j u hj
  have hsplit : flat2 o = flat2 (o.take a) ++ flat2 (o.drop a) := by rw [← flat2_append, List.take_append_drop]
  have hlt : j < (flat2 (o.drop a)).length := (List.getElem?_eq_some_iff.1 hj).1
  rw [flat2_length, List.length_drop] at hlt
  obtain ⟨b, off, cp, hv, hc⟩ := Rd.pos h (by omega)
  simp only [Value.slice.injEq, Option.some.injEq, Addr.mk.injEq, true_and, and_true] at hv
  obtain ⟨⟨rfl, rfl⟩, rfl⟩ := hv
  have hta : (flat2 (o.take a)).length = a * 2 := by rw [flat2_length, List.length_take, Nat.min_eq_left (by omega)]
  have := hc (a * 2 + j) (by omega)
  rw [add_none]
  rw [Nat.zero_add] at this
  rw [this, hsplit, List.getElem?_append_right (by omega), hta, Nat.add_sub_cancel_left, hj]
theorem flat2_one (l : List (Int × Int)) : ∀ u ∈ flat2 l, u.oneCell' = true := by
  induction l with
  | nil => simp [flat2]
  | cons p l ih =>
    intro u hu
    simp only [flat2, List.flatMap_cons, List.mem_append, List.mem_cons, List.not_mem_nil, or_false] at hu ih
    rcases hu with (rfl | rfl) | hu
    · rfl
    · rfl
    · exact ih u hu

theorem step_append_notes {W ws : World} {ops : Array Oper} {op : Oper} {a : Act} {K : Act → World → Prop} {Q : Exit → Act → World → Prop} {E : Prop} (hgd : op.guard = none) (s x : Operand)
    (ho : op.op = .call { callee := .builtin .append, args := #[s, x], argTypes := #[42, 42] })
    (hb : Below W.heap.size W ws) {v : Value} {n : Nat} {xs : List (Int × Int)} (hs : a.eval s = v) (hown : ws.ownsRow W.heap.size 41 2 v n (flat2 xs))
    {ad : Addr} {m c : Nat} (news : List (Int × Int)) (hx : a.eval x = .slice (some ad) m c) (hm : news.length = m) (hnews : ∀ j u, (flat2 news)[j]? = some u → ws.cell? (ad.add j) = some u) (hbd : n + m ≤ 10000)
    (h : ∀ v' w', w'.ownsRow W.heap.size 41 2 v' (n + m) (flat2 (xs ++ news)) → Below W.heap.size W w' → ws.grownBy w' v.ownBlock → K (a.put op.dst v') w') :
    if Region.wanted op (yielded ops a.tmps) = true then Oper.wp Try.prog op a ws K Q else E := by
  obtain ⟨i0, hi, hz0, hz1, hz2⟩ := info_parts infoNote
  refine step_append_own hgd s x 42 ho W.heap.size 41 i0 _ 2 16 Try.underlying42 hi hz0 hz1 hz2 rfl (by decide) v n (flat2 xs) hs hown ad m c (flat2 news) hx (by rw [flat2_length, hm]) hnews (flat2_one _) (by unfold maxLen; omega) (by omega) hb.size ?_
  intro v' w' h1 h2
  rw [← flat2_append] at h1
  exact h v' w' h1 (hb.grown h2 hb.size fun k hk => (hown.lt k hk).1) h2

theorem kept_b {w w' : World} {a : Addr} {v : Value} (hb : Below w.heap.size w w') (h : w.cell? a = some v) : w'.cell? a = some v :=
  (hb.cell (World.block_lt_of_cell? w _ h)).trans h
theorem ownS_mono {w : World} {B B' e s : Nat} {v : Value} {n : Nat} {xs : List Value} (h : w.ownsRow B e s v n xs) (hb : B' ≤ B) : w.ownsRow B' e s v n xs := by
  refine ⟨h.1, ?_⟩
  rcases h.2 with h0 | ⟨g, cap, cur, rfl, h1, h2⟩
  · exact Or.inl h0
  · exact Or.inr ⟨g, cap, cur, rfl, by omega, h2⟩
theorem start_a (W : World) : ((W.alloc (.cells #[] 41)).drew).ownsRow W.heap.size 41 2 (.slice (some ⟨W.heap.size, 0, none⟩) 0 0) 0 (flat2 []) :=
  (World.ownsRow_made W #[] 0 (Nat.le_refl _) (by simp) rfl).drew
theorem below_a (W : World) (o : Obj) : Below W.heap.size W (W.alloc o).drew := ((Below.refl _ _).alloc (Nat.le_refl _) _).drew
theorem size_alloc (W : World) (o : Obj) : (W.alloc o).heap.size = W.heap.size + 1 := by show (W.heap.push o).size = _; simp
theorem below_b (W : World) (o o' : Obj) : Below W.heap.size W ((W.alloc o).alloc o').drew := (((Below.refl _ _).alloc (Nat.le_refl _) _).alloc (by rw [size_alloc]; omega) _).drew
theorem start_b (W : World) (o : Obj) : (((W.alloc (.cells #[] 41)).alloc o).drew).ownsRow W.heap.size 41 2 (.slice (some ⟨W.heap.size, 0, none⟩) 0 0) 0 (flat2 []) := ((World.ownsRow_made W #[] 0 (Nat.le_refl _) (by simp) rfl).alloc o).drew
theorem start_c (W : World) (o : Obj) : (((W.alloc o).alloc (.cells #[] 41)).drew).ownsRow W.heap.size 41 2 (.slice (some ⟨W.heap.size + 1, 0, none⟩) 0 0) 0 (flat2 []) := by
  have h := (World.ownsRow_made (base := W.heap.size) (e := 41) (size := 2) (W.alloc o) #[] 0 (by rw [size_alloc]; omega) (by simp) rfl).drew
  rw [size_alloc] at h; exact h
/-- The block of one note, made in a world behind W. -/
theorem one_row0 {W ws : World} (hb : Below W.heap.size W ws) (x : Int × Int) : (ws.alloc (.cells #[.int .i64 x.1, .int .i64 x.2] 41)).ownsRow W.heap.size 41 2 (.slice (some ⟨ws.heap.size, 0, none⟩) 1 1) 1 (flat2 [x]) :=
  World.ownsRow_lit ws #[.int .i64 x.1, .int .i64 x.2] 1 hb.size (by simp [maxLen]) rfl
theorem xrow_b (W : World) (o : Obj) (x : Int × Int) : (((W.alloc o).alloc (.cells #[.int .i64 x.1, .int .i64 x.2] 41)).drew).ownsRow W.heap.size 41 2 (.slice (some ⟨W.heap.size + 1, 0, none⟩) 1 1) 1 (flat2 [x]) := by
  have h := (one_row0 ((Below.refl W.heap.size W).alloc (Nat.le_refl _) o) x).drew
  rw [size_alloc] at h; exact h
theorem xrow_c (W : World) (o : Obj) (x : Int × Int) : (((W.alloc (.cells #[.int .i64 x.1, .int .i64 x.2] 41)).alloc o).drew).ownsRow W.heap.size 41 2 (.slice (some ⟨W.heap.size, 0, none⟩) 1 1) 1 (flat2 [x]) :=
  ((one_row0 (Below.refl W.heap.size W) x).alloc o).drew

set_option maxRecDepth 100000 in
theorem eq_note (W : World) (a b c d : Int) : (binOp .eql 41 (.agg #[.int .i64 a, .int .i64 b]) (.agg #[.int .i64 c, .int .i64 d])).run Try.prog W = .ok (.bool (a == c && b == d)) W := by
  rw [run_eql_struct, show (10000 : Nat) = 9999 + 1 from rfl, run_equalIn_agg W 9999 _ _ _ (by rfl) (by decide +kernel)]
  have hf : (Try.prog.fieldsOf 41).toList = (Try.prog.fieldsOf 41).toList := rfl
  conv at hf => rhs; whnf
  have h0 : ∀ x y : Value, (part 3 #[x, y] 0).run Try.prog W = .ok x W := fun _ _ => rfl
  have h1 : ∀ x y : Value, (part 3 #[x, y] 1).run Try.prog W = .ok y W := fun _ _ => rfl
  have he : ∀ x y : Int, (Op.equalIn 9999 3 (.int .i64 x) (.int .i64 y)).run Try.prog W = .ok (x == y) W := fun x y => run_equalIn_int W 9998 3 .i64 .i64 x y rfl
  rw [hf]
  simp (config := {decide := true}) only [Op.eqFields, if_true, Sem.run_bind, h0, h1, he, Result.andThen_ok]
  cases hx : a == c <;> cases hy : b == d <;> simp [Sem.run_bind, Sem.run_pure, h1, he, hx, hy, Result.andThen_ok]
theorem eql_yes {p q : Int × Int} (h : q = p) (W : World) : (binOp .eql 41 (.agg #[.int .i64 q.1, .int .i64 q.2]) (.agg #[.int .i64 p.1, .int .i64 p.2])).run Try.prog W = .ok (.bool true) W := by
  rw [eq_note, h]; simp
theorem eql_no {p q : Int × Int} (h : ¬ q = p) (W : World) : (binOp .eql 41 (.agg #[.int .i64 q.1, .int .i64 q.2]) (.agg #[.int .i64 p.1, .int .i64 p.2])).run Try.prog W = .ok (.bool false) W := by
  have : (q.1 == p.1 && q.2 == p.2) = false := by
    rw [← Bool.not_eq_true]; intro hh
    simp only [Bool.and_eq_true, beq_iff_eq] at hh
    exact h (Prod.ext hh.1 hh.2)
  rw [eq_note, this]
set_option maxRecDepth 100000 in
theorem neq_note (W : World) (a b c d : Int) : (binOp .neq 41 (.agg #[.int .i64 a, .int .i64 b]) (.agg #[.int .i64 c, .int .i64 d])).run Try.prog W = .ok (.bool (!(a == c && b == d))) W := by
  rw [run_neq_struct, show (10000 : Nat) = 9999 + 1 from rfl, run_equalIn_agg W 9999 _ _ _ (by rfl) (by decide +kernel)]
  have hf : (Try.prog.fieldsOf 41).toList = (Try.prog.fieldsOf 41).toList := rfl
  conv at hf => rhs; whnf
  have h0 : ∀ x y : Value, (part 3 #[x, y] 0).run Try.prog W = .ok x W := fun _ _ => rfl
  have h1 : ∀ x y : Value, (part 3 #[x, y] 1).run Try.prog W = .ok y W := fun _ _ => rfl
  have he : ∀ x y : Int, (Op.equalIn 9999 3 (.int .i64 x) (.int .i64 y)).run Try.prog W = .ok (x == y) W := fun x y => run_equalIn_int W 9998 3 .i64 .i64 x y rfl
  rw [hf]
  simp (config := {decide := true}) only [Op.eqFields, if_true, Sem.run_bind, h0, h1, he, Result.andThen_ok]
  cases hx : a == c <;> cases hy : b == d <;> simp [Sem.run_bind, Sem.run_pure, h1, he, hx, hy, Result.andThen_ok]
theorem neq_yes {p q : Int × Int} (h : ¬ q = p) (W : World) : (binOp .neq 41 (.agg #[.int .i64 q.1, .int .i64 q.2]) (.agg #[.int .i64 p.1, .int .i64 p.2])).run Try.prog W = .ok (.bool true) W := by
  have : (q.1 == p.1 && q.2 == p.2) = false := by
    rw [← Bool.not_eq_true]; intro hh
    simp only [Bool.and_eq_true, beq_iff_eq] at hh
    exact h (Prod.ext hh.1 hh.2)
  rw [neq_note, this]; rfl
theorem neq_no {p q : Int × Int} (h : q = p) (W : World) : (binOp .neq 41 (.agg #[.int .i64 q.1, .int .i64 q.2]) (.agg #[.int .i64 p.1, .int .i64 p.2])).run Try.prog W = .ok (.bool false) W := by
  rw [neq_note, h]; simp

set_option maxRecDepth 100000 in
set_option maxHeartbeats 4000000 in
theorem sort_any {w : World} {v : Value} {l : List (Int × Int)} (h : Rd2 w v l) :
    Calls Try.prog 126 #[v] w (NewNotes w (sortM l)) := by
  obtain ⟨i0, hi, hz0, hz1, hz2⟩ := info_parts infoNote
  obtain ⟨a1, cap1, rfl⟩ := Rd.slice h
  have hm := h.2.1
  unfold maxLen at hm
  by_cases h40 : l.length ≤ 40
  · have HL := Lib.hid (show sortM l = l.foldl insM [] from if_pos h40)
    have hd40 : decide ((l.length : Int) ≤ 40) = true := decide_eq_true (by omega)
    go_enter Try.func126, Try.ntmps126
    go_wp2_with fail
    go_loopw [3, 4] (fun v3 v4 wr => ∃ (k : Nat) (o : List (Int × Int)), k ≤ l.length ∧ v4 = .int .i64 k ∧ Hid (o = (l.take k).foldl insM []) ∧ o.length ≤ k ∧ wr.ownsRow w.heap.size 41 2 v3 o.length (flat2 o) ∧ Below w.heap.size w wr ∧ v3 ≠ .slice none 0 0) (fun _ v4 _ => l.length - (intOf v4).toNat)
    case atStart => exact ⟨0, [], Nat.zero_le _, rfl, rfl, Nat.zero_le _, World.ownsRow_made w #[] 0 (Nat.le_refl _) (by simp) rfl, (Below.refl _ _).alloc (Nat.le_refl _) _, by simp⟩
    case round =>
      obtain ⟨k, o, hk, rfl, ho, hok, hown, hbr, hne3⟩ := hrel
      by_cases hlt : k < l.length
      · obtain ⟨x, hx⟩ : ∃ x, l[k]? = some x := ⟨_, List.getElem?_eq_getElem hlt⟩
        have HX := Lib.hid hx; clear hx
        obtain ⟨b1, o1, c1, hv1, x1, y1⟩ := Rd2.cells (Rd.below h hbr) HX.out
        simp only [Value.slice.injEq, true_and] at hv1
        obtain ⟨rfl, rfl⟩ := hv1
        clear x1 y1
        obtain ⟨g3, cap3, rfl, hg3, hoc, hcm⟩ := ownS_form hown hne3
        clear hne3
        obtain ⟨wo, rfl⟩ : ∃ wo : World, wo = wr := ⟨_, rfl⟩
        go_wp2_with fail
        go_loopw [5] (fun v5 ws => ∃ a : Nat, a ≤ o.length ∧ v5 = .int .i64 a ∧ Below wo.heap.size wo ws ∧ (∀ i p, i < a → o[i]? = some p → lessB p x = true)) (fun v5 _ => o.length - (intOf v5).toNat)
        case atStart => exact ⟨0, Nat.zero_le _, rfl, Below.refl _ _, fun i p hi => by omega⟩
        case round =>
          obtain ⟨a, ha, rfl, hbs, hall⟩ := hrel
          have HA := Lib.hid hall; clear hall
          obtain ⟨b2, o2, c2, hv2, x2, y2⟩ := Rd2.cells (Rd.below h (bstep hbr hbs)) HX.out
          simp only [Value.slice.injEq, true_and, Option.some.injEq, Addr.mk.injEq, and_true] at hv2
          obtain ⟨⟨rfl, rfl⟩, rfl⟩ := hv2
          by_cases hal : a < o.length
          · obtain ⟨p, hp⟩ : ∃ p, o[a]? = some p := ⟨_, List.getElem?_eq_getElem hal⟩
            have HP := Lib.hid hp; clear hp
            obtain ⟨b3, o3, c3, hv3, x3, y3⟩ := Rd2.cells (Rd.below (Rd.of_own hown) hbs) HP.out
            simp only [Value.slice.injEq, true_and, Option.some.injEq, Addr.mk.injEq, and_true] at hv3
            obtain ⟨⟨rfl, rfl⟩, rfl⟩ := hv3
            simp only [Nat.zero_add] at x3 y3
            by_cases hls : lessB p x = true
            · have HLS := Lib.hid hls; clear hls
              go_wp2_with fail
              go_region_held3 (fun w' => w'.cell? ⟨g3, a * 2, none⟩ = some (.int .i64 p.1) ∧ w'.cell? ⟨g3, a * 2 + 1, none⟩ = some (.int .i64 p.2) ∧ w'.cell? ⟨b1, o1 + k * 2, none⟩ = some (.int .i64 x.1) ∧ w'.cell? ⟨b1, o1 + k * 2 + 1, none⟩ = some (.int .i64 x.2)) (go_keep)
                ((go_at_call 115; refine (less_yes HLS.out _).mono ?_; rintro e w1 ⟨rfl, hb1⟩; have q1 := kept_cell hb1 x3; have q2 := kept_cell hb1 y3; have q3 := kept_cell hb1 x2; have q4 := kept_cell hb1 y2))
              all_goals
                have hb2 := bstep hbs (below_undrew hb1)
                have hn : ∀ i p, i < a + 1 → o[i]? = some p → lessB p x = true := fun i r hi hr => by
                  by_cases hia : i < a
                  · exact HA.out i r hia hr
                  · obtain rfl : i = a := by omega
                    have := HP.out; rw [this] at hr
                    obtain rfl := Option.some.inj hr
                    exact HLS.out
                have HN := Lib.hid hn
                clear hn hb1 q1 q2 q3 q4 x2 y2 x3 y3 hbs
                go_wp2
                go_roundw
                case rel => exact ⟨a + 1, by omega, by go_num, hb2, HN.out⟩
                case measure => simp [intOf]; omega
            · have hls' : lessB p x = false := by simpa using hls
              have HLS := Lib.hid hls'; clear hls hls'
              have hrk := rank_of o x a HA.out ha (fun r hr => by have := HP.out; rw [this] at hr; obtain rfl := Option.some.inj hr; exact HLS.out)
              have HRK := Lib.hid hrk; clear hrk
              go_wp2_with fail
              go_region_held3 (fun w' => w'.cell? ⟨g3, a * 2, none⟩ = some (.int .i64 p.1) ∧ w'.cell? ⟨g3, a * 2 + 1, none⟩ = some (.int .i64 p.2) ∧ w'.cell? ⟨b1, o1 + k * 2, none⟩ = some (.int .i64 x.1) ∧ w'.cell? ⟨b1, o1 + k * 2 + 1, none⟩ = some (.int .i64 x.2)) (go_keep)
                ((go_at_call 115; refine (less_no HLS.out _).mono ?_; rintro e w1 ⟨rfl, hb1⟩; have q1 := kept_cell hb1 x3; have q2 := kept_cell hb1 y3; have q3 := kept_cell hb1 x2; have q4 := kept_cell hb1 y2))
              all_goals
                have hb2 := bstep hbs (below_undrew hb1)
                clear hb1 hbs
                by_cases hpx : p = x
                · subst hpx
                  have hins : insM o p = o := by unfold insM; rw [HRK.out, if_pos HP.out]
                  have hno := fold_succ l k p HX.out
                  rw [← ho.out, hins] at hno
                  have HNO := Lib.hid hno.symm; clear hno hins
                  have hown2 := ownS_below hown hb2
                  have hb3 := bstep hbr hb2
                  have hn1 : ((a : Int) == (o.length : Int)) = false := by simp; omega
                  have hn2 : ¬ a = o.length := by omega
                  clear hown hb2 hbr
                  go_wp2_with fail
                  go_quiet (fail)
                  go_wp2
                  go_roundw
                  case rel => exact ⟨k + 1, o, by omega, by go_num, HNO, by omega, hown2, below_drewN hb3 _, by simp⟩
                  case measure => simp [intOf]; omega
                · have hown2 := ownS_below hown hb2
                  have hb3 := bstep hbr hb2
                  have hn1 : ((a : Int) == (o.length : Int)) = false := by simp; omega
                  have hn2 : ¬ a = o.length := by omega
                  have hpx' : (p.1 == x.1 && p.2 == x.2) = false := by
                    rw [Bool.eq_false_iff]; intro e
                    simp only [Bool.and_eq_true, beq_iff_eq] at e
                    exact hpx (Prod.ext e.1 e.2)
                  have hneq : ∀ W : World, (binOp .neq 41 (.agg #[.int .i64 p.1, .int .i64 p.2]) (.agg #[.int .i64 x.1, .int .i64 x.2])).run Try.prog W = .ok (.bool true) W := fun W => by rw [neq_note, hpx']; rfl
                  clear hown hb2 hbr
                  go_wp2_with fail
                  go_quiet (fail)
                  go_wp2_with fail
                  obtain ⟨W, hW⟩ : ∃ W : World, W = w1.drewN nq := ⟨_, rfl⟩
                  have hown3 : W.ownsRow w.heap.size 41 2 (.slice (some ⟨g3, 0, none⟩) o.length cap3) o.length (flat2 o) := by rw [hW]; exact ownS_below hown2 (below_drewN (Below.refl _ _) _)
                  have hb4 : Below w.heap.size w W := by rw [hW]; exact below_drewN hb3 _
                  have x4 : W.cell? ⟨b1, o1 + k * 2, none⟩ = some (.int .i64 x.1) := by rw [hW]; exact q3
                  have y4 : W.cell? ⟨b1, o1 + k * 2 + 1, none⟩ = some (.int .i64 x.2) := by rw [hW]; exact q4
                  rw [← hW]
                  have hac1 : (a : Int) ≤ (cap3 : Int) := by omega
                  have hac2 : (a : Int) ≤ (o.length : Int) := by omega
                  have hac3 : (o.length : Int) ≤ (cap3 : Int) := by omega
                  have hac4 : a < cap3 := by omega
                  have hac5 : ¬ cap3 = a := by omega
                  have hlt3 : (o.take a).length = a := by rw [List.length_take]; omega
                  have HRO : Rd2 W _ o := Rd.of_own hown3
                  clear hW hb3 hown2 q1 q2 q3 q4 hneq hpx' hn1 hn2 x2 y2 x3 y3
                  go_region_held3 (fun w' => w'.cell? ⟨b1, o1 + k * 2, none⟩ = some (.int .i64 x.1) ∧ w'.cell? ⟨b1, o1 + k * 2 + 1, none⟩ = some (.int .i64 x.2)) (go_keep)
                    ((first
                        | (refine step_append_notes rfl (.tmp 50) (.tmp 53) rfl (below_a W _) (by rfl) (start_a W) (o.take a) (by rfl) hlt3 (fun j u hj => kept_b (below_a W _) (rd_take HRO a j u hj)) (by omega) ?_
                           intro v1 w2 hv1 bv1 hg1
                           have q1 := kept_b bv1 x4
                           have q2 := kept_b bv1 y4)
                        | (refine step_append_notes rfl (.tmp 50) (.tmp 53) rfl (below_b W _ _) (by rfl) (start_c W _) (o.take a) (by rfl) hlt3 (fun j u hj => kept_b (below_b W _ _) (rd_take HRO a j u hj)) (by omega) ?_
                           intro v1 w2 hv1 bv1 hg1
                           have q1 := kept_b bv1 x4
                           have q2 := kept_b bv1 y4
                           have hX := (xrow_c W _ x).kept hg1 (Or.inr (by simp [Value.ownBlock])))
                        | (refine step_append_notes rfl (.tmp 54) (.tmp 59) rfl (bv1.alloc bv1.size _) (by rfl) (hv1.alloc _) [x] (by rfl) (by rfl) (fun j u hj => (one_row0 bv1 x).cells (by rfl) j u hj) (by omega) ?_
                           intro v2 w3 hv2 bv2 hg2
                           have q3 := kept_b bv2 x4
                           have q4 := kept_b bv2 y4)
                        | (refine step_append_notes rfl (.tmp 54) (.tmp 59) rfl bv1 (by rfl) hv1 [x] (by rfl) (by rfl) (fun j u hj => hX.cells (by rfl) j u hj) (by omega) ?_
                           intro v2 w3 hv2 bv2 hg2
                           have q3 := kept_b bv2 x4
                           have q4 := kept_b bv2 y4)
                        | (refine step_append_notes rfl (.tmp 60) (.tmp 63) rfl bv2 (by rfl) hv2 (ad := ⟨g3, a * 2, none⟩) (m := o.length - a) (c := cap3 - a) (o.drop a) (by first | rfl | ((conv => lhs; whnf); rw [if_neg hac5])) (by simp) (fun j u hj => kept_b bv2 (rd_drop HRO a j u hj)) (by omega) ?_
                           intro v3 w4 hv3 bv3 hg3
                           have q5 := kept_b bv3 x4
                           have q6 := kept_b bv3 y4)
                        | (refine step_append_notes rfl (.tmp 50) (.tmp 53) rfl (below_b W _ _) (by rfl) (start_b W _) (o.take a) (by rfl) hlt3 (fun j u hj => kept_b (below_b W _ _) (rd_take HRO a j u hj)) (by omega) ?_
                           intro v1 w2 hv1 bv1 hg1
                           have q1 := kept_b bv1 x4
                           have q2 := kept_b bv1 y4
                           have hX := (xrow_b W _ x).kept hg1 (Or.inr (by simp [Value.ownBlock])))))
                  all_goals
                    have hlen : (o.take a ++ [x] ++ o.drop a).length = a + 1 + (o.length - a) := by simp only [List.length_append, List.length_take, List.length_drop, List.length_cons, List.length_nil]; omega
                    have hv5 : w4.ownsRow w.heap.size 41 2 v3 (o.take a ++ [x] ++ o.drop a).length (flat2 (o.take a ++ [x] ++ o.drop a)) := by
                      have h := ownS_mono hv3 hb4.size
                      rw [hlen]; simpa only [List.nil_append, Nat.zero_add] using h
                    have hnn : v3 ≠ .slice none 0 0 := by
                      obtain ⟨g4, c4, e4, _⟩ := ownS_pos hv5 (by omega)
                      rw [e4]; simp
                    have hins : insM o x = o.take a ++ [x] ++ o.drop a := by
                      unfold insM
                      rw [HRK.out, if_neg (by rw [HP.out]; intro e; exact hpx (Option.some.inj e))]
                    have hno := fold_succ l k x HX.out
                    rw [← ho.out, hins] at hno
                    have HNO := Lib.hid hno.symm
                    have hb5 := bstep hb4 bv3
                    have hlk : (o.take a ++ [x] ++ o.drop a).length ≤ k + 1 := by omega
                    clear hno hins hlen hv3 hv2 hv1 hg1 hg2 hg3 bv1 bv2 bv3 q1 q2 q3 q4 q5 q6 hown3 hb4 x4 y4 HRO hac1 hac2 hac3 hac4 hac5 hlt3
                    go_wp2
                    go_roundw
                    case rel => exact ⟨k + 1, _, by omega, by go_num, HNO, hlk, hv5, hb5, hnn⟩
                    case measure => simp [intOf]; omega
          · have hae : a = o.length := by omega
            have hn1 : ((a : Int) == (o.length : Int)) = true := by simp; omega
            have hn2 : ¬ (a : Int) < (o.length : Int) := by omega
            have hrk := rank_of o x a HA.out ha (fun r hr => by rw [hae, List.getElem?_eq_none (Nat.le_refl _)] at hr; cases hr)
            have HRK := Lib.hid hrk; clear hrk
            have hown2 := ownS_below hown hbs
            have hb3 := bstep hbr hbs
            subst hae
            have hdn : o.drop o.length = [] := List.drop_length
            clear hown hbs hbr
            go_wp2_with fail
            go_quiet (fail)
            obtain ⟨W0, hW0⟩ : ∃ W0 : World, W0 = wr.drewN nq := ⟨_, rfl⟩
            rw [← hW0]
            go_wp2_with fail
            go_quiet (fail)
            go_wp2_with fail
            obtain ⟨W, hW⟩ : ∃ W : World, W = W0.drewN nq := ⟨_, rfl⟩
            rw [← hW]
            have hww : Below wr.heap.size wr W := by rw [hW, hW0]; exact below_drewN (below_drewN (Below.refl _ _) _) _
            have hown3 : W.ownsRow w.heap.size 41 2 (.slice (some ⟨g3, 0, none⟩) o.length cap3) o.length (flat2 o) := ownS_below hown2 hww
            have hb4 : Below w.heap.size w W := bstep hb3 hww
            have x4 : W.cell? ⟨b1, o1 + k * 2, none⟩ = some (.int .i64 x.1) := kept_b hww x2
            have y4 : W.cell? ⟨b1, o1 + k * 2 + 1, none⟩ = some (.int .i64 x.2) := kept_b hww y2
            have hac1 : (o.length : Int) ≤ (cap3 : Int) := by omega
            have hac2 : (o.length : Int) ≤ (o.length : Int) := by omega
            have hac3 : (o.length : Int) ≤ (cap3 : Int) := by omega
            have hlt3 : (o.take o.length).length = o.length := by rw [List.length_take]; omega
            have HRO : Rd2 W _ o := Rd.of_own hown3
            clear hW hW0 hb3 hown2 x2 y2 hn1 hn2 hww
            by_cases hac5 : cap3 = o.length
            · go_region_held3 (fun w' => w'.cell? ⟨b1, o1 + k * 2, none⟩ = some (.int .i64 x.1) ∧ w'.cell? ⟨b1, o1 + k * 2 + 1, none⟩ = some (.int .i64 x.2)) (go_keep)
                ((first
                    | (refine step_append_notes rfl (.tmp 50) (.tmp 53) rfl (below_a W _) (by rfl) (start_a W) (o.take o.length) (by rfl) hlt3 (fun j u hj => kept_b (below_a W _) (rd_take HRO o.length j u hj)) (by omega) ?_
                       intro v1 w2 hv1 bv1 hg1
                       have q1 := kept_b bv1 x4
                       have q2 := kept_b bv1 y4)
                    | (refine step_append_notes rfl (.tmp 50) (.tmp 53) rfl (below_b W _ _) (by rfl) (start_c W _) (o.take o.length) (by rfl) hlt3 (fun j u hj => kept_b (below_b W _ _) (rd_take HRO o.length j u hj)) (by omega) ?_
                       intro v1 w2 hv1 bv1 hg1
                       have q1 := kept_b bv1 x4
                       have q2 := kept_b bv1 y4
                       have hX := (xrow_c W _ x).kept hg1 (Or.inr (by simp [Value.ownBlock])))
                    | (refine step_append_notes rfl (.tmp 54) (.tmp 59) rfl (bv1.alloc bv1.size _) (by rfl) (hv1.alloc _) [x] (by rfl) (by rfl) (fun j u hj => (one_row0 bv1 x).cells (by rfl) j u hj) (by omega) ?_
                       intro v2 w3 hv2 bv2 hg2
                       have q3 := kept_b bv2 x4
                       have q4 := kept_b bv2 y4)
                    | (refine step_append_notes rfl (.tmp 54) (.tmp 59) rfl bv1 (by rfl) hv1 [x] (by rfl) (by rfl) (fun j u hj => hX.cells (by rfl) j u hj) (by omega) ?_
                       intro v2 w3 hv2 bv2 hg2
                       have q3 := kept_b bv2 x4
                       have q4 := kept_b bv2 y4)
                    | (refine step_append_notes rfl (.tmp 60) (.tmp 63) rfl bv2 (by rfl) hv2 (ad := ⟨g3, 0, none⟩) (m := 0) (o.drop o.length) (by first | rfl | ((conv => lhs; whnf); rw [if_pos hac5])) (by simp) (fun j u hj => by rw [hdn] at hj; cases hj) (by omega) ?_
                       intro v3 w4 hv3 bv3 hg3
                       have q5 := kept_b bv3 x4
                       have q6 := kept_b bv3 y4)
                    | (refine step_append_notes rfl (.tmp 50) (.tmp 53) rfl (below_b W _ _) (by rfl) (start_b W _) (o.take o.length) (by rfl) hlt3 (fun j u hj => kept_b (below_b W _ _) (rd_take HRO o.length j u hj)) (by omega) ?_
                       intro v1 w2 hv1 bv1 hg1
                       have q1 := kept_b bv1 x4
                       have q2 := kept_b bv1 y4
                       have hX := (xrow_b W _ x).kept hg1 (Or.inr (by simp [Value.ownBlock])))))
              all_goals
                have hlen : (o.take o.length ++ [x] ++ o.drop o.length).length = o.length + 1 + 0 := by simp only [List.length_append, List.length_take, List.length_drop, List.length_cons, List.length_nil]; omega
                have hv5 : w4.ownsRow w.heap.size 41 2 v3 (o.take o.length ++ [x] ++ o.drop o.length).length (flat2 (o.take o.length ++ [x] ++ o.drop o.length)) := by
                  have h := ownS_mono hv3 hb4.size
                  rw [hlen]; simpa only [List.nil_append, Nat.zero_add] using h
                have hnn : v3 ≠ .slice none 0 0 := by
                  obtain ⟨g4, c4, e4, _⟩ := ownS_pos hv5 (by omega)
                  rw [e4]; simp
                have hins : insM o x = o.take o.length ++ [x] ++ o.drop o.length := by
                  unfold insM
                  rw [HRK.out, if_neg (by rw [List.getElem?_eq_none (Nat.le_refl _)]; simp)]
                have hno := fold_succ l k x HX.out
                rw [← ho.out, hins] at hno
                have HNO := Lib.hid hno.symm
                have hb5 := bstep hb4 bv3
                have hlk : (o.take o.length ++ [x] ++ o.drop o.length).length ≤ k + 1 := by omega
                clear hno hins hlen hv3 hv2 hv1 hg1 hg2 hg3 bv1 bv2 bv3 q1 q2 q3 q4 q5 q6 hown3 hb4 x4 y4 HRO hac1 hac2 hac3 hac5 hlt3
                go_wp2
                go_roundw
                case rel => exact ⟨k + 1, _, by omega, by go_num, HNO, hlk, hv5, hb5, hnn⟩
                case measure => simp [intOf]; omega
            · go_region_held3 (fun w' => w'.cell? ⟨b1, o1 + k * 2, none⟩ = some (.int .i64 x.1) ∧ w'.cell? ⟨b1, o1 + k * 2 + 1, none⟩ = some (.int .i64 x.2)) (go_keep)
                ((first
                    | (refine step_append_notes rfl (.tmp 50) (.tmp 53) rfl (below_a W _) (by rfl) (start_a W) (o.take o.length) (by rfl) hlt3 (fun j u hj => kept_b (below_a W _) (rd_take HRO o.length j u hj)) (by omega) ?_
                       intro v1 w2 hv1 bv1 hg1
                       have q1 := kept_b bv1 x4
                       have q2 := kept_b bv1 y4)
                    | (refine step_append_notes rfl (.tmp 50) (.tmp 53) rfl (below_b W _ _) (by rfl) (start_c W _) (o.take o.length) (by rfl) hlt3 (fun j u hj => kept_b (below_b W _ _) (rd_take HRO o.length j u hj)) (by omega) ?_
                       intro v1 w2 hv1 bv1 hg1
                       have q1 := kept_b bv1 x4
                       have q2 := kept_b bv1 y4
                       have hX := (xrow_c W _ x).kept hg1 (Or.inr (by simp [Value.ownBlock])))
                    | (refine step_append_notes rfl (.tmp 54) (.tmp 59) rfl (bv1.alloc bv1.size _) (by rfl) (hv1.alloc _) [x] (by rfl) (by rfl) (fun j u hj => (one_row0 bv1 x).cells (by rfl) j u hj) (by omega) ?_
                       intro v2 w3 hv2 bv2 hg2
                       have q3 := kept_b bv2 x4
                       have q4 := kept_b bv2 y4)
                    | (refine step_append_notes rfl (.tmp 54) (.tmp 59) rfl bv1 (by rfl) hv1 [x] (by rfl) (by rfl) (fun j u hj => hX.cells (by rfl) j u hj) (by omega) ?_
                       intro v2 w3 hv2 bv2 hg2
                       have q3 := kept_b bv2 x4
                       have q4 := kept_b bv2 y4)
                    | (refine step_append_notes rfl (.tmp 60) (.tmp 63) rfl bv2 (by rfl) hv2 (ad := ⟨g3, o.length * 2, none⟩) (m := 0) (o.drop o.length) (by first | rfl | ((conv => lhs; whnf); rw [if_neg hac5])) (by simp) (fun j u hj => by rw [hdn] at hj; cases hj) (by omega) ?_
                       intro v3 w4 hv3 bv3 hg3
                       have q5 := kept_b bv3 x4
                       have q6 := kept_b bv3 y4)
                    | (refine step_append_notes rfl (.tmp 50) (.tmp 53) rfl (below_b W _ _) (by rfl) (start_b W _) (o.take o.length) (by rfl) hlt3 (fun j u hj => kept_b (below_b W _ _) (rd_take HRO o.length j u hj)) (by omega) ?_
                       intro v1 w2 hv1 bv1 hg1
                       have q1 := kept_b bv1 x4
                       have q2 := kept_b bv1 y4
                       have hX := (xrow_b W _ x).kept hg1 (Or.inr (by simp [Value.ownBlock])))))
              all_goals
                have hlen : (o.take o.length ++ [x] ++ o.drop o.length).length = o.length + 1 + 0 := by simp only [List.length_append, List.length_take, List.length_drop, List.length_cons, List.length_nil]; omega
                have hv5 : w4.ownsRow w.heap.size 41 2 v3 (o.take o.length ++ [x] ++ o.drop o.length).length (flat2 (o.take o.length ++ [x] ++ o.drop o.length)) := by
                  have h := ownS_mono hv3 hb4.size
                  rw [hlen]; simpa only [List.nil_append, Nat.zero_add] using h
                have hnn : v3 ≠ .slice none 0 0 := by
                  obtain ⟨g4, c4, e4, _⟩ := ownS_pos hv5 (by omega)
                  rw [e4]; simp
                have hins : insM o x = o.take o.length ++ [x] ++ o.drop o.length := by
                  unfold insM
                  rw [HRK.out, if_neg (by rw [List.getElem?_eq_none (Nat.le_refl _)]; simp)]
                have hno := fold_succ l k x HX.out
                rw [← ho.out, hins] at hno
                have HNO := Lib.hid hno.symm
                have hb5 := bstep hb4 bv3
                have hlk : (o.take o.length ++ [x] ++ o.drop o.length).length ≤ k + 1 := by omega
                clear hno hins hlen hv3 hv2 hv1 hg1 hg2 hg3 bv1 bv2 bv3 q1 q2 q3 q4 q5 q6 hown3 hb4 x4 y4 HRO hac1 hac2 hac3 hac5 hlt3
                go_wp2
                go_roundw
                case rel => exact ⟨k + 1, _, by omega, by go_num, HNO, hlk, hv5, hb5, hnn⟩
                case measure => simp [intOf]; omega
      · have hke : k = l.length := by omega
        have hend : o = l.foldl insM [] := by rw [ho.out, hke, List.take_length]
        have HE := Lib.hid hend; clear hend
        go_wp2
        go_ret
        exact ⟨_, rfl, by rw [HL.out, ← HE.out]; exact hown, hbr⟩
  · have HL := Lib.hid (show sortM l = [] from if_neg h40)
    go_enter Try.func126, Try.ntmps126
    go_wp2_with fail
    go_loopw [3, 4] (fun v3 v4 wr => v4 = .int .i64 0 ∧ wr.ownsRow w.heap.size 41 2 v3 0 [] ∧ Below w.heap.size w wr) (fun _ _ _ => 0)
    case atStart => exact ⟨rfl, World.ownsRow_made w #[] 0 (Nat.le_refl _) (by simp) rfl, (Below.refl _ _).alloc (Nat.le_refl _) _⟩
    case round =>
      obtain ⟨rfl, hown, hbr⟩ := hrel
      have hpos : 0 < l.length := by omega
      go_wp2
      go_ret
      exact ⟨_, rfl, by rw [HL.out]; exact hown, hbr⟩
/-- A new row of notes and a Bool. -/
def NewNotesB (w : World) (l : List (Int × Int)) (b : Bool) (e : Ending) (w' : World) : Prop :=
  ∃ v, e = .returned (.tuple #[v, .bool b]) ∧ w'.ownsRow w.heap.size 41 2 v l.length (flat2 l) ∧ Below w.heap.size w w'
theorem newB {w w0 w' : World} {l : List (Int × Int)} {b : Bool} {v : Value} (hb : Below w.heap.size w w0) (ho : w'.ownsRow w0.heap.size 41 2 v l.length (flat2 l)) (hb' : Below w0.heap.size w0 w') : NewNotesB w l b (.returned (.tuple #[v, .bool b])) w' :=
  ⟨v, rfl, ownS_mono ho hb.size, bstep hb hb'⟩
theorem sortM_len (l : List (Int × Int)) : (sortM l).length ≤ l.length := by
  unfold sortM; split
  · have := fold_len l []; simpa using this
  · simp
end Go.Proofs.Ytcbdoldcdgaooaa
