/- Lists of pins (track, angle) in the order of angle and track: putting in, turning, looking up. No program. -/
import Derived.Test.YtcbdoldcdgaooaaSortMath
namespace Go.Proofs.Ytcbdoldcdgaooaa
open Go.ChangeShapes Go.WideShapes Go.ChangeAt Go.RowKit

def swp (p : Int × Int) : Int × Int := (p.2, p.1)
theorem swp_inj {p q : Int × Int} (h : swp p = swp q) : p = q := by
  obtain ⟨a, b⟩ := p; obtain ⟨c, d⟩ := q
  simp only [swp, Prod.mk.injEq] at h ⊢
  exact ⟨h.2, h.1⟩
def pless (p q : Int × Int) : Bool := lessB (swp p) (swp q)
theorem pless_iff {p q : Int × Int} : pless p q = true ↔ (p.2 < q.2 ∨ (p.2 = q.2 ∧ p.1 < q.1)) := less_iff
def rankP (l : List (Int × Int)) (x : Int × Int) : Nat := (l.takeWhile fun p => pless p x).length
theorem rankP_map (l : List (Int × Int)) (x : Int × Int) : rankM (l.map swp) (swp x) = rankP l x := by
  unfold rankM rankP; rw [List.takeWhile_map, List.length_map]; rfl
theorem rankP_le (l : List (Int × Int)) (x : Int × Int) : rankP l x ≤ l.length := (List.takeWhile_sublist _).length_le
theorem at_map {l : List (Int × Int)} {i : Nat} {x : Int × Int} : (l.map swp)[i]? = some (swp x) ↔ l[i]? = some x := by
  rw [List.getElem?_map]
  constructor
  · intro h
    obtain ⟨y, hy, he⟩ := Option.map_eq_some_iff.1 h
    rw [hy, swp_inj he]
  · intro h; rw [h]; rfl
theorem rankP_of {l : List (Int × Int)} {x : Int × Int} {a : Nat} (h1 : ∀ i p, i < a → l[i]? = some p → pless p x = true) (h2 : a ≤ l.length) (h3 : ∀ p, l[a]? = some p → pless p x = false) : rankP l x = a := by
  rw [← rankP_map]
  refine rank_of _ _ _ (fun i p hi hp => ?_) (by simpa using h2) (fun p hp => ?_)
  · obtain ⟨q, hq, rfl⟩ := Option.map_eq_some_iff.1 (by rw [List.getElem?_map] at hp; exact hp)
    exact h1 i q hi hq
  · obtain ⟨q, hq, rfl⟩ := Option.map_eq_some_iff.1 (by rw [List.getElem?_map] at hp; exact hp)
    exact h3 q hq
/-- A pin put in at its place; false where it is there. -/
def putP (l : List (Int × Int)) (x : Int × Int) : List (Int × Int) × Bool := if l[rankP l x]? = some x then (l, false) else (l.take (rankP l x) ++ [x] ++ l.drop (rankP l x), true)
theorem putP_in {l : List (Int × Int)} {x : Int × Int} (h : l[rankP l x]? = some x) : putP l x = (l, false) := if_pos h
theorem putP_out {l : List (Int × Int)} {x : Int × Int} (h : ¬ l[rankP l x]? = some x) : putP l x = (l.take (rankP l x) ++ [x] ++ l.drop (rankP l x), true) := if_neg h
theorem putP_map (l : List (Int × Int)) (x : Int × Int) : (putP l x).1.map swp = insM (l.map swp) (swp x) := by
  unfold insM
  rw [rankP_map]
  by_cases h : l[rankP l x]? = some x
  · rw [putP_in h, if_pos (at_map.2 h)]
  · rw [putP_out h, if_neg (fun k => h (at_map.1 k))]
    simp only [List.map_append, List.map_take, List.map_drop, List.map_cons, List.map_nil]
theorem putP_len (l : List (Int × Int)) (x : Int × Int) : (putP l x).1.length = l.length + (if (putP l x).2 = true then 1 else 0) := by
  have hr := rankP_le l x
  by_cases h : l[rankP l x]? = some x
  · rw [putP_in h]; simp
  · rw [putP_out h]; simp only [List.length_append, List.length_take, List.length_drop, List.length_cons, List.length_nil, if_true]; omega
theorem putP_le (l : List (Int × Int)) (x : Int × Int) : (putP l x).1.length ≤ l.length + 1 := by rw [putP_len]; split <;> omega
/-- Strictly rising. -/
def SP (l : List (Int × Int)) : Prop := SS (l.map swp)
theorem sp_nil : SP [] := List.Pairwise.nil
theorem sp_pw {l : List (Int × Int)} : SP l ↔ l.Pairwise fun a b => pless a b = true := List.pairwise_map
theorem mem_swp {l : List (Int × Int)} {x : Int × Int} : swp x ∈ l.map swp ↔ x ∈ l := by
  rw [List.mem_map]
  exact ⟨fun ⟨y, hy, he⟩ => swp_inj he ▸ hy, fun h => ⟨x, h, rfl⟩⟩
theorem sp_unique {l l' : List (Int × Int)} (h : SP l) (h' : SP l') (hm : ∀ x, x ∈ l ↔ x ∈ l') : l = l' := by
  have := ss_unique h h' fun y => by
    rw [show y = swp (swp y) from rfl, mem_swp, mem_swp]; exact hm _
  have e : ∀ l : List (Int × Int), (l.map swp).map swp = l := fun l => by rw [List.map_map]; exact List.map_id' l
  rw [← e l, this, e]
theorem sp_nodup {l : List (Int × Int)} (h : SP l) : l.Nodup := (sp_pw.1 h).imp fun {a b} k e => by subst e; rw [pless_iff] at k; omega
theorem put_sp {l : List (Int × Int)} (x : Int × Int) (h : SP l) : SP (putP l x).1 := by unfold SP; rw [putP_map]; exact ins_ss _ h
theorem put_mem (l : List (Int × Int)) (x y : Int × Int) : y ∈ (putP l x).1 ↔ y = x ∨ y ∈ l := by
  rw [← mem_swp, putP_map, ins_mem, mem_swp]
  exact ⟨fun h => h.imp swp_inj id, fun h => h.imp (congrArg swp) id⟩
theorem put_ok {l : List (Int × Int)} {x : Int × Int} (h : SP l) : (putP l x).2 = true ↔ x ∉ l := by
  by_cases hr : l[rankP l x]? = some x
  · rw [putP_in hr]
    exact ⟨fun k => (by cases k), fun k => absurd (List.mem_of_getElem? hr) k⟩
  · rw [putP_out hr]
    refine ⟨fun _ hx => ?_, fun _ => rfl⟩
    have h1 := ins_in h (mem_swp.2 hx)
    rw [← putP_map, putP_out hr] at h1
    have := congrArg List.length h1
    have hl := rankP_le l x
    simp only [List.length_map, List.length_append, List.length_take, List.length_drop, List.length_cons, List.length_nil] at this
    omega

/-! ### valid cylinders -/
def PinOk (s t : Int) (l : List (Int × Int)) (k : Nat) (p : Int × Int) : Prop := (0 ≤ p.1 ∧ p.1 ≤ t - 1) ∧ (0 ≤ p.2 ∧ p.2 ≤ s - 1) ∧ ∀ i q, k = i + 1 → l[i]? = some q → pless q p = true
def CylP (s t : Int) (l : List (Int × Int)) : Prop := (4 ≤ s ∧ s ≤ 96) ∧ (1 ≤ t ∧ t ≤ 100) ∧ l.length ≤ 100 ∧ ∀ k p, l[k]? = some p → PinOk s t l k p
open Classical in
noncomputable def cylB (s t : Int) (l : List (Int × Int)) : Bool := decide (CylP s t l)
theorem cylB_true {s t : Int} {l : List (Int × Int)} : cylB s t l = true ↔ CylP s t l := by unfold cylB; simp
theorem cylB_false {s t : Int} {l : List (Int × Int)} : cylB s t l = false ↔ ¬ CylP s t l := by unfold cylB; simp
theorem cyl_sp {s t : Int} {l : List (Int × Int)} (h : CylP s t l) : SP l := by
  have key : ∀ d i a b, l[i]? = some a → l[i + 1 + d]? = some b → pless a b = true := by
    intro d
    induction d with
    | zero => intro i a b ha hb; exact (h.2.2.2 (i + 1) b hb).2.2 i a rfl ha
    | succ d ih =>
      intro i a b ha hb
      obtain ⟨c, hc⟩ : ∃ c, l[i + 1 + d]? = some c := ⟨_, List.getElem?_eq_getElem (by have := (List.getElem?_eq_some_iff.1 hb).1; omega)⟩
      exact less_trans (ih i a c ha hc) ((h.2.2.2 (i + 1 + d + 1) b hb).2.2 _ c rfl hc)
  refine sp_pw.2 (List.pairwise_iff_getElem.2 fun i j hi hj hij => ?_)
  exact key (j - i - 1) i _ _ (List.getElem?_eq_getElem hi) (by rw [show i + 1 + (j - i - 1) = j by omega]; exact List.getElem?_eq_getElem hj)
theorem cyl_bd {s t : Int} {l : List (Int × Int)} (h : CylP s t l) {p : Int × Int} (hp : p ∈ l) : (0 ≤ p.1 ∧ p.1 ≤ t - 1) ∧ (0 ≤ p.2 ∧ p.2 ≤ s - 1) := by
  obtain ⟨k, hk⟩ := List.mem_iff_getElem?.1 hp
  have := h.2.2.2 k p hk
  exact ⟨this.1, this.2.1⟩
theorem cyl_of {s t : Int} {l : List (Int × Int)} (hs : 4 ≤ s ∧ s ≤ 96) (ht : 1 ≤ t ∧ t ≤ 100) (hl : l.length ≤ 100) (h : SP l) (hb : ∀ p ∈ l, (0 ≤ p.1 ∧ p.1 ≤ t - 1) ∧ (0 ≤ p.2 ∧ p.2 ≤ s - 1)) : CylP s t l := by
  refine ⟨hs, ht, hl, fun k p hk => ⟨(hb p (List.mem_of_getElem? hk)).1, (hb p (List.mem_of_getElem? hk)).2, fun i q hi hq => ?_⟩⟩
  subst hi
  have h1 := List.pairwise_iff_getElem.1 (sp_pw.1 h) i (i + 1) (List.getElem?_eq_some_iff.1 hq).1 (List.getElem?_eq_some_iff.1 hk).1 (by omega)
  rw [(List.getElem?_eq_some_iff.1 hq).2, (List.getElem?_eq_some_iff.1 hk).2] at h1
  exact h1
theorem cyl_put {s t : Int} {l : List (Int × Int)} {x : Int × Int} (h : CylP s t l) (hl : l.length < 100) (h1 : 0 ≤ x.1 ∧ x.1 ≤ t - 1) (h2 : 0 ≤ x.2 ∧ x.2 ≤ s - 1) : CylP s t (putP l x).1 :=
  cyl_of h.1 h.2.1 (by have := putP_le l x; omega) (put_sp x (cyl_sp h)) fun p hp => by
    rcases (put_mem l x p).1 hp with rfl | hp
    · exact ⟨h1, h2⟩
    · exact cyl_bd h hp
def cutP (l : List (Int × Int)) (k : Nat) : List (Int × Int) := l.take k ++ l.drop (k + 1)
theorem cutP_len {l : List (Int × Int)} {k : Nat} (h : k < l.length) : (cutP l k).length = l.length - 1 := by
  unfold cutP; rw [List.length_append, List.length_take, List.length_drop]; omega
theorem cutP_le (l : List (Int × Int)) (k : Nat) : (cutP l k).length ≤ l.length := by
  unfold cutP; rw [List.length_append, List.length_take, List.length_drop]; omega
theorem cutP_sub (l : List (Int × Int)) (k : Nat) : (cutP l k).Sublist l := by
  have := List.eraseIdx_sublist l k
  rw [List.eraseIdx_eq_take_drop_succ] at this
  exact this
theorem cyl_cut {s t : Int} {l : List (Int × Int)} (h : CylP s t l) (k : Nat) : CylP s t (cutP l k) :=
  cyl_of h.1 h.2.1 (Nat.le_trans (cutP_sub l k).length_le h.2.2.1) (sp_pw.2 ((sp_pw.1 (cyl_sp h)).sublist (cutP_sub l k))) fun _ hp => cyl_bd h ((cutP_sub l k).subset hp)

/-! ### pins put in one after another -/
def foldP (g : Int × Int → Int × Int) (l : List (Int × Int)) : List (Int × Int) := l.foldl (fun o q => (putP o (g q)).1) []
theorem foldP_step {g : Int × Int → Int × Int} {l : List (Int × Int)} {k : Nat} {q : Int × Int} (h : l[k]? = some q) : foldP g (l.take (k + 1)) = (putP (foldP g (l.take k)) (g q)).1 := by
  unfold foldP; rw [List.take_add_one, h, List.foldl_append]; rfl
theorem foldP_snoc (g : Int × Int → Int × Int) (l : List (Int × Int)) (q : Int × Int) : foldP g (l ++ [q]) = (putP (foldP g l) (g q)).1 := by
  unfold foldP; rw [List.foldl_append]; rfl
theorem foldP_sp (g : Int × Int → Int × Int) (l : List (Int × Int)) : SP (foldP g l) := by
  unfold foldP
  have : ∀ (l o : List (Int × Int)), SP o → SP (l.foldl (fun o q => (putP o (g q)).1) o) := by
    intro l; induction l with
    | nil => intro o h; exact h
    | cons a l ih => intro o h; exact ih _ (put_sp _ h)
  exact this l [] sp_nil
theorem foldP_mem (g : Int × Int → Int × Int) (l : List (Int × Int)) (y : Int × Int) : y ∈ foldP g l ↔ ∃ q ∈ l, y = g q := by
  unfold foldP
  have : ∀ (l o : List (Int × Int)), y ∈ l.foldl (fun o q => (putP o (g q)).1) o ↔ (∃ q ∈ l, y = g q) ∨ y ∈ o := by
    intro l; induction l with
    | nil => intro o; simp
    | cons a l ih =>
      intro o
      rw [List.foldl_cons, ih, put_mem]
      constructor
      · rintro (⟨q, hq, e⟩ | e | h)
        · exact Or.inl ⟨q, List.mem_cons_of_mem _ hq, e⟩
        · exact Or.inl ⟨a, by simp, e⟩
        · exact Or.inr h
      · rintro (⟨q, hq, e⟩ | h)
        · rcases List.mem_cons.1 hq with rfl | hq
          · exact Or.inr (Or.inl e)
          · exact Or.inl ⟨q, hq, e⟩
        · exact Or.inr (Or.inr h)
  rw [this]; simp
theorem foldP_le (g : Int × Int → Int × Int) (l : List (Int × Int)) : (foldP g l).length ≤ l.length := by
  unfold foldP
  have : ∀ (l o : List (Int × Int)), (l.foldl (fun o q => (putP o (g q)).1) o).length ≤ o.length + l.length := by
    intro l; induction l with
    | nil => intro o; simp
    | cons a l ih =>
      intro o
      have h1 := ih (putP o (g a)).1
      have h2 := putP_le o (g a)
      rw [List.foldl_cons, List.length_cons]; omega
  have := this l []
  simpa using this
theorem foldP_len {g : Int × Int → Int × Int} {l : List (Int × Int)} (hn : l.Nodup) (hg : ∀ p ∈ l, ∀ q ∈ l, g p = g q → p = q) : (foldP g l).length = l.length := by
  have hm : (l.map g).Nodup := List.pairwise_map.2 (hn.imp_of_mem fun {a b} ha hb hne e => hne (hg a ha b hb e))
  have hp : (foldP g l).Perm (l.map g) := (List.perm_ext_iff_of_nodup (sp_nodup (foldP_sp g l)) hm).2 fun y => by
    rw [foldP_mem, List.mem_map]
    exact ⟨fun ⟨q, hq, e⟩ => ⟨q, hq, e.symm⟩, fun ⟨q, hq, e⟩ => ⟨q, hq, e.symm⟩⟩
  rw [hp.length_eq, List.length_map]

/-! ### turning -/
def rotP (s d : Int) (p : Int × Int) : Int × Int := (p.1, (p.2 + d) % s)
def turnL (s d : Int) (l : List (Int × Int)) : List (Int × Int) := foldP (rotP s d) l
theorem rot_bd {s d : Int} (hs : 4 ≤ s) (p : Int × Int) : 0 ≤ (rotP s d p).2 ∧ (rotP s d p).2 ≤ s - 1 := by
  have h1 := Int.emod_nonneg (p.2 + d) (show s ≠ 0 by omega)
  have h2 := Int.emod_lt_of_pos (p.2 + d) (show 0 < s by omega)
  exact ⟨h1, by show (p.2 + d) % s ≤ s - 1; omega⟩
theorem rot_back {s d : Int} {p : Int × Int} (h : 0 ≤ p.2 ∧ p.2 ≤ s - 1) : rotP s (-d) (rotP s d p) = p := by
  obtain ⟨a, b⟩ := p
  simp only [rotP, Prod.mk.injEq, true_and]
  simp only at h
  rw [Int.emod_add_emod, show b + d + -d = b by omega]
  exact Int.emod_eq_of_lt h.1 (by omega)
theorem rot_full {s k : Int} {p : Int × Int} (h : 0 ≤ p.2 ∧ p.2 ≤ s - 1) : rotP s (k * s) p = p := by
  obtain ⟨a, b⟩ := p
  simp only [rotP, Prod.mk.injEq, true_and]
  simp only at h
  rw [Int.add_mul_emod_self_right]
  exact Int.emod_eq_of_lt h.1 (by omega)
theorem rot_inj {s d : Int} {p q : Int × Int} (hp : 0 ≤ p.2 ∧ p.2 ≤ s - 1) (hq : 0 ≤ q.2 ∧ q.2 ≤ s - 1) (h : rotP s d p = rotP s d q) : p = q := by
  rw [← rot_back (d := d) hp, h, rot_back hq]
theorem turn_len {s t d : Int} {l : List (Int × Int)} (h : CylP s t l) : (turnL s d l).length = l.length :=
  foldP_len (sp_nodup (cyl_sp h)) fun p hp q hq e => rot_inj (cyl_bd h hp).2 (cyl_bd h hq).2 e
theorem turn_cyl {s t : Int} (d : Int) {l : List (Int × Int)} (h : CylP s t l) : CylP s t (turnL s d l) :=
  cyl_of h.1 h.2.1 (by rw [turn_len h]; exact h.2.2.1) (foldP_sp _ _) fun p hp => by
    obtain ⟨q, hq, rfl⟩ := (foldP_mem _ _ _).1 hp
    exact ⟨(cyl_bd h hq).1, rot_bd h.1.1 q⟩
theorem turn_back {s t d : Int} {l : List (Int × Int)} (h : CylP s t l) : turnL s (-d) (turnL s d l) = l := by
  refine sp_unique (foldP_sp _ _) (cyl_sp h) fun x => ?_
  unfold turnL
  rw [foldP_mem]
  constructor
  · rintro ⟨q, hq, rfl⟩
    obtain ⟨p, hp, rfl⟩ := (foldP_mem _ _ _).1 hq
    rw [rot_back (cyl_bd h hp).2]; exact hp
  · intro hx
    exact ⟨rotP s d x, (foldP_mem _ _ _).2 ⟨x, hx, rfl⟩, (rot_back (cyl_bd h hx).2).symm⟩
theorem turn_full {s t : Int} (k : Int) {l : List (Int × Int)} (h : CylP s t l) : turnL s (k * s) l = l := by
  refine sp_unique (foldP_sp _ _) (cyl_sp h) fun x => ?_
  unfold turnL
  rw [foldP_mem]
  constructor
  · rintro ⟨q, hq, rfl⟩; rw [rot_full (cyl_bd h hq).2]; exact hq
  · intro hx; exact ⟨x, hx, (rot_full (cyl_bd h hx).2).symm⟩

/-! ### the pins at an angle -/
def pinsL (l : List (Int × Int)) (a : Int) : List Int := (l.filter fun p => decide (p.2 = a)).map Prod.fst
theorem pinsL_yes {l : List (Int × Int)} {k : Nat} {p : Int × Int} {a : Int} (h : l[k]? = some p) (hp : p.2 = a) : pinsL (l.take (k + 1)) a = pinsL (l.take k) a ++ [p.1] := by
  unfold pinsL; rw [List.take_add_one, h, List.filter_append, List.map_append]; simp [hp]
theorem pinsL_no {l : List (Int × Int)} {k : Nat} {p : Int × Int} {a : Int} (h : l[k]? = some p) (hp : ¬ p.2 = a) : pinsL (l.take (k + 1)) a = pinsL (l.take k) a := by
  unfold pinsL; rw [List.take_add_one, h, List.filter_append, List.map_append]; simp [hp]
theorem pinsL_len (l : List (Int × Int)) (a : Int) : (pinsL l a).length ≤ l.length := by
  unfold pinsL; rw [List.length_map]; exact List.length_filter_le _ _
theorem pinsL_mem {l : List (Int × Int)} {a x : Int} : x ∈ pinsL l a ↔ (x, a) ∈ l := by
  unfold pinsL
  rw [List.mem_map]
  constructor
  · rintro ⟨p, hp, rfl⟩
    obtain ⟨h1, h2⟩ := List.mem_filter.1 hp
    obtain rfl := of_decide_eq_true h2
    exact h1
  · intro h; exact ⟨(x, a), List.mem_filter.2 ⟨h, by simp⟩, rfl⟩
theorem pinsL_asc {l : List (Int × Int)} (h : SP l) (a : Int) : (pinsL l a).Pairwise fun x y => x < y := by
  unfold pinsL
  refine List.pairwise_map.2 (((sp_pw.1 h).filter _).imp_of_mem fun {p q} hp hq k => ?_)
  have h1 := of_decide_eq_true (List.mem_filter.1 hp).2
  have h2 := of_decide_eq_true (List.mem_filter.1 hq).2
  rw [pless_iff] at k; omega
theorem asc_eq {a b : List Int} (ha : a.Pairwise fun x y => x < y) (hb : b.Pairwise fun x y => x < y) (h : ∀ x, x ∈ a ↔ x ∈ b) : a = b := by
  have hp : a.Perm b := (List.perm_ext_iff_of_nodup (ha.imp fun {x y} k => by omega) (hb.imp fun {x y} k => by omega)).2 h
  exact List.Perm.eq_of_pairwise (le := fun x y => x ≤ y) (fun x y _ _ h1 h2 => Int.le_antisymm h1 h2) (ha.imp fun {x y} k => by omega) (hb.imp fun {x y} k => by omega) hp
theorem pins_turn {s t d a : Int} {l : List (Int × Int)} (h : CylP s t l) (ha : 0 ≤ a ∧ a ≤ s - 1) : pinsL (turnL s d l) ((a + d) % s) = pinsL l a := by
  refine asc_eq (pinsL_asc (foldP_sp _ _) _) (pinsL_asc (cyl_sp h) _) fun x => ?_
  rw [pinsL_mem, pinsL_mem]
  unfold turnL
  rw [foldP_mem]
  constructor
  · rintro ⟨q, hq, e⟩
    have : q = (x, a) := rot_inj (d := d) (cyl_bd h hq).2 (q := (x, a)) ha (by rw [← e]; rfl)
    rw [← this]; exact hq
  · intro hx; exact ⟨(x, a), hx, rfl⟩
def angSum (k : Nat) (l : List (Int × Int)) : Nat := (l.filter fun p => decide (0 ≤ p.2 ∧ p.2 < (k : Int))).length
theorem angSum_succ (k : Nat) : ∀ l : List (Int × Int), angSum (k + 1) l = angSum k l + (pinsL l (k : Int)).length
  | [] => rfl
  | x :: r => by
    have ih := angSum_succ k r
    unfold angSum pinsL at ih ⊢
    simp only [List.filter_cons, List.length_map] at ih ⊢
    by_cases h1 : 0 ≤ x.2 ∧ x.2 < (k : Int)
    · have h2 : 0 ≤ x.2 ∧ x.2 < ((k + 1 : Nat) : Int) := by omega
      have h3 : ¬ x.2 = (k : Int) := by omega
      simp only [h1, h2, h3, decide_true, decide_false, if_true, and_self, Bool.false_eq_true, if_false, List.length_cons]; omega
    · by_cases h3 : x.2 = (k : Int)
      · have h2 : 0 ≤ x.2 ∧ x.2 < ((k + 1 : Nat) : Int) := by omega
        rw [if_pos (decide_eq_true h2), if_neg (by simpa using h1), if_pos (decide_eq_true h3), List.length_cons, List.length_cons]; omega
      · have h2 : ¬ (0 ≤ x.2 ∧ x.2 < ((k + 1 : Nat) : Int)) := by omega
        simp only [h1, h2, h3, decide_false, Bool.false_eq_true, if_false]; exact ih
theorem angSum_all {s t : Int} {l : List (Int × Int)} (h : CylP s t l) {k : Nat} (hk : (k : Int) = s) : angSum k l = l.length := by
  unfold angSum
  rw [List.filter_eq_self.2 fun p hp => decide_eq_true (by have := (cyl_bd h hp).2; omega)]
theorem angSum_zero (l : List (Int × Int)) : angSum 0 l = 0 := by
  unfold angSum
  rw [List.filter_eq_nil_iff.2 fun p _ h => by have := of_decide_eq_true h; omega]; rfl
theorem angSum_le (k : Nat) (l : List (Int × Int)) : angSum k l ≤ l.length := List.length_filter_le _ _
end Go.Proofs.Ytcbdoldcdgaooaa
