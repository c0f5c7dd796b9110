/- From a state of the machine the run ends well: what is left to show, said of goroutine 0 beside goroutines that only leave (Ends), and of whoever holds the token (Holds); and the same of a piece of code and of a call. For every program. No condition. -/
import Derived.Test.YtodpkfohihfndaaRunStay
import Derived.Conc.CompanyMem
set_option linter.unusedSimpArgs false
set_option linter.unusedVariables false
namespace Go.Proofs.Ytodpkfohihfndaa
open Go Go.Conc
open Go.ConcN (sumTo upd sumTo_upd upd_ne upd_same)

/-- From this machine the run ends, by goroutine 0's return, in Good. -/
def EndsM (P : Program) (Fin : Value → World → Prop) (m : Machine) (T : Trace) : Prop :=
  ∃ N last o w' t', runNT P (N + 1) m T = (.ended o w', t') ∧ runN P N m = .next last ∧ step P last = .ended o w' ∧ Good P Fin last o w' t'

theorem EndsM.of_run {P : Program} {Fin : Value → World → Prop} {m m' : Machine} {T T' : Trace} {M : Nat} (hr : runNT P M m T = (.next m', T')) (h : EndsM P Fin m' T') : EndsM P Fin m T := by
  obtain ⟨N, last, o, w', t', h1, h2, h3, h4⟩ := h
  refine ⟨M + N, last, o, w', t', ?_, ?_, h3, h4⟩
  · rw [Nat.add_assoc, runNT_add, hr]; exact h1
  · rw [runN_add, ← runNT_fst P M m T, hr]; exact h2

/-- GOROUTINE 0 beside goroutines that only leave: whatever has been done, from here the run ends well. -/
def Ends (P : Program) (Fin : Value → World → Prop) (g : Goroutine) (w : World) : Prop :=
  ∀ (d B : Nat) (gs : Array Goroutine) (sl : Option (Nat × Nat)) (T : Trace) (q : Nat → Nat), gs[0]? = some g → Leavers P T gs q → Past (fun _ => False) B T → EndsM P Fin (crowd gs (w.at d) sl) T

/-- What goroutine 0's own step may list: addresses below B. -/
def DL (B : Nat) (_ _ : World) (es : Array Event) : Prop := ∀ e ∈ es, EvL (fun _ => False) B e
theorem dl_none (B : Nat) (w w' : World) : DL B w w' #[] := fun e he => by simp at he
theorem termsL (B : Nat) : Terms AtRel (DL B) := ⟨atRel_trans, fun w => dl_none B w w⟩
theorem since_at {w w' : World} (h : Since AtRel w w') : ∃ d, w' = w.at d := by
  rcases h with rfl | ⟨d, rfl⟩
  · exact ⟨w'.drawn, rfl⟩
  · exact ⟨d, rfl⟩

section
variable {P : Program} {Fin : Value → World → Prop}

theorem Ends.at {g : Goroutine} {w : World} (h : Ends P Fin g w) (d : Nat) : Ends P Fin g (w.at d) := fun d' B gs sl T q => h d' B gs sl T q

/-- Its own steps, among them those that touch memory. -/
theorem Ends.walk {g : Goroutine} {w : World} (B0 : Nat) (h : ∀ B, B0 ≤ B → ∃ n, Goes P true AtRel (DL B) (fun g' w' => Ends P Fin g' w') n g w) : Ends P Fin g w := by
  intro d B gs sl T q h0 hL hP
  obtain ⟨n, hG⟩ := h (B0 + B) (by omega)
  obtain ⟨N, gs', a', w', sl', t', q', hr, _, h0', hS, hL', hP'⟩ := walk_beside (P := P) (D := DL (B0 + B)) (fun _ _ _ x => x) _ n gs g (w.at d) sl T q (Nat.le_refl _) h0 hL (hP.mono (by omega)) (Goes.rely atRel_trans hG ⟨d, rfl⟩)
  exact EndsM.of_run hr (hS w'.drawn _ gs' sl' t' q' h0' hL' hP')
/-- Its last steps. -/
theorem Ends.last {g : Goroutine} {w : World} (B0 : Nat) (h : ∀ B, B0 ≤ B → ∃ n, Goes P true AtRel (DL B) (AtEnd P (fun _ => False) B Fin) n g w) : Ends P Fin g w := by
  intro d B gs sl T q h0 hL hP
  obtain ⟨n, hG⟩ := h (B0 + B) (by omega)
  exact beside_ends (P := P) (D := DL (B0 + B)) (fun _ _ _ x => x) h0 hL (hP.mono (by omega)) (Goes.rely atRel_trans hG ⟨d, rfl⟩)
/-- At the start. -/
theorem Ends.run {g : Goroutine} {w : World} (h : Ends P Fin g w) : ∃ N last o w' t', runNT P (N + 1) (solo g w) #[] = (.ended o w', t') ∧ runN P N (solo g w) = .next last ∧ step P last = .ended o w' ∧ Good P Fin last o w' t' :=
  h w.drawn 0 #[g] none #[] (fun _ => 0) rfl (leavers_one _ _) past_nil

/-! ### pieces of code -/
def AfterE (P : Program) (Fin : Value → World → Prop) (b : Frame) (k : List Item) (cs : List Frame) : Exit → Act → World → Prop
  | .normal, a, w => Ends P Fin (G (b.at a k) cs) w
  | .exit id, a, w => ∃ k', exitTo id k = some k' ∧ Ends P Fin (G (b.at a k') cs) w
  | .ret, a, w => ∀ todo, Ends P Fin (G { b.at a todo with mode := .returning } cs) w
  | _, _, _ => False

/-- Goroutine 0, in front of this code, its way out satisfying Q: the run ends well if it does behind it. -/
def WpE (P : Program) (Fin : Value → World → Prop) (fn : FuncId) (c : Code) (Q : Exit → Act → World → Prop) (a : Act) (w : World) : Prop :=
  ∀ (k : List Item) (cs : List Frame), (∀ e a' w', Q e a' w' → AfterE P Fin (base fn) k cs e a' w') → Ends P Fin (G ((base fn).at a (.code c :: k)) cs) w
def OpsE (P : Program) (Fin : Value → World → Prop) (fn : FuncId) (ops : Array Oper) (todo : List Nat) (Q : Exit → Act → World → Prop) (a : Act) (w : World) : Prop :=
  ∀ (k : List Item) (cs : List Frame), (∀ e a' w', Q e a' w' → AfterE P Fin (base fn) k cs e a' w') → Ends P Fin (G ((base fn).at a (.inRegion ops todo :: k)) cs) w
/-- A call of f with these arguments, wherever it stands. -/
def CallsE (P : Program) (Fin : Value → World → Prop) (f : FuncId) (args : Array Value) (w : World) (Post : Value → World → Prop) : Prop :=
  ∀ (b : Frame) (a : Act) (k : List Item) (cs : List Frame) (ops : Array Oper) (i : Nat) (rest : List Nat) (o : Oper) (as : Array Operand) (ats : Array TypeId),
    ops[i]? = some o → Region.wanted o (yielded ops a.tmps) = true → b.kind ≠ .early → o.op = .call { callee := .value (.func f), args := as, argTypes := ats } → as.map a.eval = args →
    (∀ v w', Post v w' → Ends P Fin (G (b.at (a.put o.dst v) (.inRegion ops rest :: k)) cs) w') → Ends P Fin (G (b.at a (.inRegion ops (i :: rest) :: k)) cs) w

variable {fn : FuncId} {Q : Exit → Act → World → Prop} {a : Act} {w : World}

theorem goes_ends (B : Nat) {g : Goroutine} {w : World} (h : Ends P Fin g w) : Goes P true AtRel (DL B) (fun g' w' => Ends P Fin g' w') 0 g w := fun w₁ ⟨d, e⟩ => e ▸ h.at d
theorem after_of {B : Nat} {b : Frame} {k : List Item} {cs : List Frame} {e : Exit} {a : Act} {w : World} (h : AfterE P Fin b k cs e a w) : After P true AtRel (DL B) (fun g' w' => Ends P Fin g' w') 0 b k cs e a w := by
  cases e with
  | normal => exact goes_ends B h
  | exit id => obtain ⟨k', hk, hg⟩ := h; exact ⟨k', hk, goes_ends B hg⟩
  | ret => exact fun todo => goes_ends B (h todo)
  | goto l => exact h
  | panic ch => exact h
  | outgrown => exact h
theorem wpE_of_wpC {c : Code} (B0 : Nat) (h : ∀ B, B0 ≤ B → ∃ n, c.wpC P true AtRel (DL B) fn n Q a w) : WpE P Fin fn c Q a w := fun k cs hc =>
  Ends.walk B0 fun B hB => (h B hB).elim fun n hn => ⟨_, hn (base fn) k cs _ 0 rfl (by simp [base]) fun e a' w' q => after_of (hc e a' w' q)⟩
theorem opsE_of_opsC {ops : Array Oper} {todo : List Nat} (B0 : Nat) (h : ∀ B, B0 ≤ B → ∃ n, OpsC P true AtRel (DL B) fn ops todo n Q a w) : OpsE P Fin fn ops todo Q a w := fun k cs hc =>
  Ends.walk B0 fun B hB => (h B hB).elim fun n hn => ⟨_, hn (base fn) k cs _ 0 rfl (by simp [base]) fun e a' w' q => after_of (hc e a' w' q)⟩
theorem AfterE.push {b : Frame} {x : Item} {k : List Item} {cs : List Frame} {e : Exit} {a : Act} {w : World} (hx : x.plain = true) (he : e ≠ .normal) (h : AfterE P Fin b k cs e a w) : AfterE P Fin b (x :: k) cs e a w := by
  cases e with
  | normal => exact absurd rfl he
  | exit id => obtain ⟨k', hk, hg⟩ := h; exact ⟨k', by cases x <;> simp_all [exitTo, Item.plain], hg⟩
  | ret => exact h
  | goto l => exact h
  | panic ch => exact h
  | outgrown => exact h
theorem ends_ctl {g g' : Goroutine} (hg : g.status = .running) (hs : ∀ w, stepG P true g w = .go g' w #[]) {w : World} (h : Ends P Fin g' w) : Ends P Fin g w :=
  Ends.walk 0 fun B _ => ⟨1, Goes.step hg fun w₁ ⟨d, e⟩ => by rw [hs]; exact ⟨dl_none _ _ _, goes_ends B (e ▸ h.at d)⟩⟩
theorem wpE_mono {c : Code} {Q' : Exit → Act → World → Prop} (h : WpE P Fin fn c Q a w) (hq : ∀ e a w, Q e a w → Q' e a w) : WpE P Fin fn c Q' a w := fun k cs hc => h k cs fun e a' w' q => hc e a' w' (hq e a' w' q)
theorem wpE_seq {x y : Code} (h : WpE P Fin fn x (Exit.then (fun a' w' => WpE P Fin fn y Q a' w') Q) a w) : WpE P Fin fn (.seq x y) Q a w := by
  intro k cs hc
  refine ends_ctl rfl (fun w => stepG_seq) (h (.code y :: k) cs fun e a' w' q => ?_)
  cases e with
  | normal => exact q k cs hc
  | exit id => exact (hc _ _ _ q).push rfl (by simp)
  | ret => exact (hc _ _ _ q).push (x := .code y) rfl (by simp)
  | goto l => exact hc _ _ _ q
  | panic ch => exact hc _ _ _ q
  | outgrown => exact hc _ _ _ q
theorem wpE_cond {c : Operand} {x y : Code} {t : Bool} (hc : a.eval c = .bool t) (h : WpE P Fin fn (if t then x else y) Q a w) : WpE P Fin fn (.cond c x y) Q a w := fun k cs hq =>
  ends_ctl rfl (fun w => stepG_cond hc) (h k cs hq)
theorem wpE_block {id : Nat} {c : Code} (h : WpE P Fin fn c (Exit.inBlock id Q) a w) : WpE P Fin fn (.block id c) Q a w := by
  intro k cs hc
  refine ends_ctl rfl (fun w => stepG_block) (h (.inBlock id :: k) cs fun e a' w' q => ?_)
  cases e with
  | normal => exact ends_ctl rfl (fun w => stepG_inBlock) (hc _ _ _ q)
  | exit id' =>
    by_cases hid : id' = id
    · simp only [Exit.inBlock, hid, if_true] at q
      exact ⟨k, by simp [exitTo, hid], hc _ _ _ q⟩
    · simp only [Exit.inBlock, hid, if_false] at q
      obtain ⟨k', hk', hg⟩ := hc _ _ _ q
      have : (id == id') = false := by simp; exact fun h => hid h.symm
      exact ⟨k', by simp [exitTo, this, hk'], hg⟩
  | ret => exact fun todo => hc _ _ _ q todo
  | goto l => exact hc _ _ _ q
  | panic ch => exact hc _ _ _ q
  | outgrown => exact hc _ _ _ q
/-- A loop: an invariant, and a measure that each round lowers. -/
theorem wpE_loop {c : Code} (I : Act → World → Prop) (μ : Act → World → Nat) (h₀ : I a w) (round : ∀ a w, I a w → WpE P Fin fn c (Exit.then (fun a' w' => I a' w' ∧ μ a' w' < μ a w) Q) a w) : WpE P Fin fn (.loop c) Q a w := by
  intro k cs hc
  have key : ∀ m a w, μ a w = m → I a w → Ends P Fin (G ((base fn).at a (.code c :: .inLoop c :: k)) cs) w := by
    intro m
    induction m using Nat.strongRecOn with
    | _ m ih =>
      intro a w hm hI
      refine round a w hI (.inLoop c :: k) cs fun e a' w' q => ?_
      cases e with
      | normal => exact ends_ctl rfl (fun w => stepG_inLoop) (ih _ (by rw [← hm]; exact q.2) a' w' rfl q.1)
      | exit id => exact (hc _ _ _ q).push rfl (by simp)
      | ret => exact (hc _ _ _ q).push (x := .inLoop c) rfl (by simp)
      | goto l => exact hc _ _ _ q
      | panic ch => exact hc _ _ _ q
      | outgrown => exact hc _ _ _ q
  exact ends_ctl rfl (fun w => stepG_loop) (key _ a w rfl h₀)
theorem wpE_exit {id : Nat} (h : Q (.exit id) a w) : WpE P Fin fn (.exit id) Q a w := fun k cs hq => by
  obtain ⟨k', hk', hg⟩ := hq _ _ _ h
  exact ends_ctl rfl (fun w => stepG_exit hk') hg
theorem wpE_skip (h : Q .normal a w) : WpE P Fin fn .skip Q a w := fun k cs hq => ends_ctl rfl (fun w => stepG_skip) (hq _ _ _ h)
theorem wpE_ret (h : Q .ret a w) : WpE P Fin fn .ret Q a w := fun k cs hq => ends_ctl rfl (fun w => stepG_ret') (hq _ _ _ h _)
theorem wpE_region {id : Nat} {ops : Array Oper} (h : OpsE P Fin fn ops (List.range ops.size) Q a w) : WpE P Fin fn (.region id ops false) Q a w := fun k cs hq =>
  ends_ctl rfl (fun w => stepG_region) (h k cs hq)
theorem opsE_nil {ops : Array Oper} (h : Q .normal a w) : OpsE P Fin fn ops [] Q a w := fun k cs hq => ends_ctl rfl (fun w => stepG_region_end) (hq _ _ _ h)
theorem opsE_unwanted {ops : Array Oper} {i : Nat} {rest : List Nat} {o : Oper} (ho : ops[i]? = some o) (hw : Region.wanted o (yielded ops a.tmps) = false) (h : OpsE P Fin fn ops rest Q (a.put o.dst undef) w) : OpsE P Fin fn ops (i :: rest) Q a w := fun k cs hq =>
  ends_ctl rfl (fun w => stepG_unwanted ho hw) (h k cs hq)
/-- One operation that touches no memory. -/
theorem opsE_op {ops : Array Oper} {i : Nat} {rest : List Nat} {o : Oper} {v : Value} (ho : ops[i]? = some o) (hw : Region.wanted o (yielded ops a.tmps) = true)
    (hr : ∀ w, (execOp a.eval o).run P w = .ok (.value v) w) (he : ∀ w, (execOp a.eval o).events P w #[] = #[]) (h : OpsE P Fin fn ops rest Q (a.put o.dst v) w) : OpsE P Fin fn ops (i :: rest) Q a w := fun k cs hq =>
  ends_ctl rfl (fun w => by rw [stepG_value ho hw (by simp [base]) (hr w), listed_none (he w)]) (h k cs hq)
/-- One operation that touches no memory, what it yields being reckoned. -/
theorem opsE_cons_k {ops : Array Oper} {i : Nat} {rest : List Nat} {o : Oper} (ho : ops[i]? = some o) (hw : Region.wanted o (yielded ops a.tmps) = true) (he : ∀ w, (execOp a.eval o).events P w #[] = #[])
    (h : ∀ (d : Nat) (K : Act → World → Prop), (∀ a', OpsE P Fin fn ops rest Q a' w → K a' (w.at d)) → uponK o a K ((execOp a.eval o).run P (w.at d))) : OpsE P Fin fn ops (i :: rest) Q a w := fun k cs hq =>
  Ends.walk 0 fun B _ => ⟨1, Goes.step rfl fun w₁ ⟨d, e⟩ => goes_oper ho hw (by simp [base]) (by
    subst e
    have := h d (fun a' w' => ∃ d', w' = w.at d' ∧ OpsE P Fin fn ops rest Q a' w) (fun a' h' => ⟨d, rfl, h'⟩)
    rw [listed_none (he _)]
    revert this
    cases (execOp a.eval o).run P (w.at d) with
    | ok x w' => cases x <;> first | exact fun ⟨d', e', g⟩ => ⟨dl_none _ _ _, goes_ends B (e' ▸ (g k cs hq).at d')⟩ | exact id
    | halt _ _ => exact id)⟩
/-- One operation that reads memory, or none. -/
theorem opsE_cons_ev {ops : Array Oper} {i : Nat} {rest : List Nat} {o : Oper} (B0 : Nat) (ho : ops[i]? = some o) (hw : Region.wanted o (yielded ops a.tmps) = true)
    (h : ∀ (B : Nat), B0 ≤ B → ∀ (d : Nat) (K : Act → World → Prop), (∀ a', (∀ e ∈ listed P fn a o (w.at d), EvL (fun _ => False) B e) → OpsE P Fin fn ops rest Q a' w → K a' (w.at d)) → uponK o a K ((execOp a.eval o).run P (w.at d))) : OpsE P Fin fn ops (i :: rest) Q a w := fun k cs hq =>
  Ends.walk B0 fun B hB => ⟨1, Goes.step rfl fun w₁ ⟨d, e⟩ => goes_oper ho hw (by simp [base]) (by
    subst e
    have := h B hB d (fun a' w' => (∀ e ∈ listed P fn a o (w.at d), EvL (fun _ => False) B e) ∧ w' = w.at d ∧ OpsE P Fin fn ops rest Q a' w) (fun a' he h' => ⟨he, rfl, h'⟩)
    revert this
    cases (execOp a.eval o).run P (w.at d) with
    | ok x w' => cases x <;> first | exact fun ⟨he, e', g⟩ => ⟨he, goes_ends B (e' ▸ (g k cs hq).at d)⟩ | exact id
    | halt _ _ => exact id)⟩
/-- One operation that makes a block. -/
theorem opsE_new {ops : Array Oper} {i : Nat} {rest : List Nat} {o : Oper} {v : Value} {ob : Obj} (ho : ops[i]? = some o) (hw : Region.wanted o (yielded ops a.tmps) = true)
    (hr : ∀ d, (execOp a.eval o).run P (w.at d) = .ok (.value v) ((w.alloc ob).at d)) (he : ∀ w, (execOp a.eval o).events P w #[] = #[]) (h : OpsE P Fin fn ops rest Q (a.put o.dst v) (w.alloc ob)) : OpsE P Fin fn ops (i :: rest) Q a w := fun k cs hq =>
  Ends.walk 0 fun B _ => ⟨1, Goes.step rfl fun w₁ ⟨d, e⟩ => by
    subst e
    rw [stepG_value ho hw (by simp [base]) (hr d), listed_none (he _)]
    exact ⟨dl_none _ _ _, goes_ends B ((h k cs hq).at d)⟩⟩
/-- A loop, round by round. -/
def WpL (P : Program) (Fin : Value → World → Prop) (fn : FuncId) (c : Code) (Q : Exit → Act → World → Prop) (a : Act) (w : World) : Prop :=
  ∀ (k : List Item) (cs : List Frame), (∀ e a' w', Q e a' w' → AfterE P Fin (base fn) k cs e a' w') → Ends P Fin (G ((base fn).at a (.code c :: .inLoop c :: k)) cs) w
theorem wpE_loopL {c : Code} (h : WpL P Fin fn c Q a w) : WpE P Fin fn (.loop c) Q a w := fun k cs hq => ends_ctl rfl (fun w => stepG_loop) (h k cs hq)
theorem wpL_round {c : Code} (h : WpE P Fin fn c (Exit.then (fun a' w' => WpL P Fin fn c Q a' w') Q) a w) : WpL P Fin fn c Q a w := fun k cs hc =>
  h (.inLoop c :: k) cs fun e a' w' q => by
    cases e with
    | normal => exact ends_ctl rfl (fun w => stepG_inLoop) (q k cs hc)
    | exit id => exact (hc _ _ _ q).push rfl (by simp)
    | ret => exact (hc _ _ _ q).push (x := .inLoop c) rfl (by simp)
    | goto l => exact hc _ _ _ q
    | panic ch => exact hc _ _ _ q
    | outgrown => exact hc _ _ _ q
/-- A cut: what holds behind x is said once. -/
theorem wpE_seq_mid {x y : Code} (M : Act → World → Prop) (hx : WpE P Fin fn x (Exit.then M Q) a w) (hy : ∀ a' w', M a' w' → WpE P Fin fn y Q a' w') : WpE P Fin fn (.seq x y) Q a w :=
  wpE_seq (wpE_mono hx fun e a' w' q => by cases e <;> first | exact hy _ _ q | exact q)
/-- A call. -/
theorem opsE_call {ops : Array Oper} {i : Nat} {rest : List Nat} {o : Oper} {f : FuncId} {args : Array Value} {as : Array Operand} {ats : Array TypeId} {Post : Value → World → Prop} (ho : ops[i]? = some o) (hw : Region.wanted o (yielded ops a.tmps) = true)
    (hop : o.op = .call { callee := .value (.func f), args := as, argTypes := ats }) (hargs : as.map a.eval = args) (hcall : CallsE P Fin f args w Post) (hnext : ∀ v w', Post v w' → OpsE P Fin fn ops rest Q (a.put o.dst v) w') : OpsE P Fin fn ops (i :: rest) Q a w := fun k cs hq =>
  hcall (base fn) a k cs ops i rest o as ats ho hw (by simp [base]) hop hargs fun v w' hp => hnext v w' hp k cs hq
theorem callsE_mono {f : FuncId} {args : Array Value} {w : World} {Post Post' : Value → World → Prop} (h : CallsE P Fin f args w Post) (hp : ∀ v w, Post v w → Post' v w) : CallsE P Fin f args w Post' := fun b a k cs ops i rest o as ats h1 h2 h3 h4 h5 h6 =>
  h b a k cs ops i rest o as ats h1 h2 h3 h4 h5 fun v w' q => h6 v w' (hp v w' q)
/-- A contract in company serves. -/
theorem callsE_of_callsC {f : FuncId} {args : Array Value} {w : World} {Post : Value → World → Prop} (B0 : Nat) (h : ∀ B, B0 ≤ B → ∃ n, CallsC P true AtRel (DL B) f args n w Post) : CallsE P Fin f args w Post := fun b a k cs ops i rest o as ats h1 h2 h3 h4 h5 h6 =>
  Ends.walk B0 fun B hB => (h B hB).elim fun n hn => ⟨_, Goes.call (termsL B) h1 h2 h3 h4 (by rw [h5]; exact hn) fun v w' hp => goes_ends B (h6 v w' hp)⟩
/-- A function whose body is walked so. -/
theorem callsE_of_wpE {f : FuncId} {fn : Func} {c : Code} {args : Array Value} {w : World} {Post : Value → World → Prop} (hf : P.funcs[f]? = some fn) (hname : (fn.name == "runtime.NumGoroutine") = false) (hb : fn.body = some c)
    (h : WpE P Fin f c (bodyPostC P fn Post) { tmps := args ++ Array.replicate (fn.ntmps - args.size) undef, defers := [] } w) : CallsE P Fin f args w Post := by
  intro b a k cs ops i rest o as ats ho hw hk hop hargs hnext
  have hfin : ∀ v, (b.at a (.inRegion ops (i :: rest) :: k)).finish v = b.at (a.put o.dst v) (.inRegion ops rest :: k) := fun v => by rw [Frame.finish_at, ho]; rfl
  have hleave : ∀ (a' : Act) (w' : World) (todo : List Item), (a'.defers = [] ∧ ∃ v, ResultsC P fn a'.tmps v ∧ Post v w') →
      Ends P Fin (G { (base f).at a' todo with mode := .returning } (b.at a (.inRegion ops (i :: rest) :: k) :: cs)) w' := by
    rintro a' w' todo ⟨hd, v, hr, hp⟩
    exact ends_ctl rfl (fun w => by rw [stepG_leave (b := base f) rfl hd hf (hr w).1 (hr w).2, hfin]) (hnext v w' hp)
  have hbody := h [] (b.at a (.inRegion ops (i :: rest) :: k) :: cs) fun e a' w' q => by
    cases e with
    | normal => exact ends_ctl rfl (fun w => stepG_end) (hleave a' w' [] q)
    | ret => exact fun todo => hleave a' w' todo q
    | exit id => exact q.elim
    | goto l => exact q.elim
    | panic ch => exact q.elim
    | outgrown => exact q.elim
  exact Ends.walk 0 fun B _ => ⟨1, Goes.step rfl fun w₁ ⟨d, e⟩ => goes_call ho hw hk hop hf hname hb ⟨dl_none _ _ _, goes_ends B (by rw [hargs, e]; exact hbody.at d)⟩⟩
/-- THE WHOLE RUN, from the entry of a function with one result. -/
theorem ends_entry {f : FuncId} {fn : Func} {c : Code} {args : Array Value} {w : World} (hf : P.funcs[f]? = some fn) (hb : fn.body = some c)
    (h : WpE P Fin f c (bodyPostC P fn Fin) { tmps := args ++ Array.replicate (fn.ntmps - args.size) undef, defers := [] } w)
    (hend : ∀ (a' : Act) (w' : World) (v : Value) (todo : List Item), a'.defers = [] → ResultsC P fn a'.tmps v → stepG P true (G { (base f).at a' todo with mode := .returning } []) w' = .ended (.done v) w' #[])
    (hFin : ∀ v w d, Fin v w → Fin v (w.at d)) : Ends P Fin (G (Frame.enter P f args .normal) []) w := by
  have e : Frame.enter P f args .normal = (base f).at { tmps := args ++ Array.replicate (fn.ntmps - args.size) undef, defers := [] } [.code c] := by
    simp [Frame.enter, Frame.at, hf, hb, base]
  rw [e]
  have hlast : ∀ (a' : Act) (w' : World) (todo : List Item), (a'.defers = [] ∧ ∃ v, ResultsC P fn a'.tmps v ∧ Fin v w') → Ends P Fin (G { (base f).at a' todo with mode := .returning } []) w' := by
    rintro a' w' todo ⟨hd, v, hr, hp⟩
    exact Ends.last 0 fun B _ => ⟨0, fun w₁ ⟨d, hd'⟩ => ⟨rfl, v, #[], hend a' w₁ v todo hd hr, by simp, hd' ▸ hFin v w' d hp⟩⟩
  refine h [] [] fun e a' w' q => ?_
  cases e with
  | normal => exact ends_ctl rfl (fun w => stepG_end) (hlast a' w' [] q)
  | ret => exact fun todo => hlast a' w' todo q
  | exit id => exact q.elim
  | goto l => exact q.elim
  | panic ch => exact q.elim
  | outgrown => exact q.elim
theorem ended_of {f : FuncId} {fn : Func} {a' : Act} {w' : World} {v : Value} {todo : List Item} (hf : P.funcs[f]? = some fn) (hi : P.inits.idxOf? f = none) (hd : a'.defers = []) (hr : ResultsC P fn a'.tmps v) :
    stepG P true (G { (base f).at a' todo with mode := .returning } []) w' = .ended (.done v) w' #[] := by
  obtain ⟨h1, h2⟩ := hr w'
  simp [G, stepG, unwind, doReturn, Frame.at, base, hf, hi, hd, h1, h2, seen, GStep.after]
end
end Go.Proofs.Ytodpkfohihfndaa
