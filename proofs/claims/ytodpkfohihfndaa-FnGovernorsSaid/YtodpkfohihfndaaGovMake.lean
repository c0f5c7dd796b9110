/- The world at the go statement: four boxed numbers, a channel, the variable that holds it; how a channel is made; guarantees turned. No condition. -/
import Derived.Test.YtodpkfohihfndaaGovRun
namespace Go.Proofs.Ytodpkfohihfndaa
open Go Go.Conc Go.RowKit

theorem bytesSp : ∃ i, Try.prog.info? 3 = some i ∧ i.bytes = 8 := by
  have h : (Try.prog.info? 3).map (·.bytes) = some 8 := by kernel_rfl
  obtain ⟨i, hi, hb⟩ := Option.map_eq_some_iff.1 h
  exact ⟨i, hi, hb⟩
theorem mkSp (w : World) : (Instr.makeChan 39 (.int .i64 0)).run Try.prog w = .ok (.chan (some w.heap.size)) (w.alloc (.chan 0 #[] false 0 0 false)) := by
  obtain ⟨i, hi, hb⟩ := bytesSp
  simpa using run_makeChan (P := Try.prog) (w := w) Try.underlying39 hi .i64 0 (by omega) (by rw [hb]; omega)
theorem mkSpE (w : World) (es : Array Event) : (Instr.makeChan 39 (.int .i64 0)).events Try.prog w es = es := by
  obtain ⟨i, hi, hb⟩ := bytesSp
  simpa using events_makeChan (P := Try.prog) (w := w) Try.underlying39 hi .i64 0 (by omega) (by rw [hb]; omega) es
theorem goes_dmono {P : Program} {main : Bool} {R : World → World → Prop} {D D' : World → World → Array Event → Prop} {Stop : Goroutine → World → Prop} (hD : ∀ w w' es, D w w' es → D' w w' es) : ∀ {n : Nat} {g : Goroutine} {w : World}, Goes P main R D Stop n g w → Goes P main R D' Stop n g w
  | 0, _, _, h => h
  | n + 1, g, w, h => by
    rcases h with h | ⟨hs, h⟩
    · exact .inl h
    · refine .inr ⟨hs, fun w₁ h₁ => ?_⟩
      have := h w₁ h₁
      revert this
      cases stepG P main g w₁ <;> simp only [GStep.goes, imp_self]
      exact fun ⟨d, x⟩ => ⟨hD _ _ _ d, goes_dmono hD x⟩
theorem evL_of {Still : Loc → Prop} {B B' : Nat} (hB : B ≤ B') {e : Event} (h : EvHd Still B e) : EvL (fun _ => False) B' e := ⟨fun _ _ z => z.elim, h.2.1, h.2.2.1, MemAct.low_mono hB h.2.2.2⟩
theorem goes_dl {P : Program} {Still : Loc → Prop} {B B' : Nat} (hB : B ≤ B') {Stop : Goroutine → World → Prop} {n : Nat} {g : Goroutine} {w : World} (h : Goes P true AtRel (DQ Still B) Stop n g w) : Goes P true AtRel (DL B') Stop n g w :=
  goes_dmono (fun _ _ _ k e he => evL_of hB (k.2 e he)) h
theorem goes_first {P : Program} {B B' : Nat} (hB : B ≤ B') {Stop : Goroutine → World → Prop} {n : Nat} {g : Goroutine} {w : World} (h : Goes P true AtRel (DFirst B) Stop n g w) : Goes P true AtRel (DL B') Stop n g w :=
  goes_dmono (fun _ _ _ k e he => evL_of hB (k.2.2 e he)) h
/-- The world at the go statement. -/
def w6 (w : World) (N : Nat) (v f b n : Int) : World := (((((w.alloc (.cells #[.int .i64 v] 3)).alloc (.cells #[.int .i64 f] 3)).alloc (.cells #[.int .i64 b] 3)).alloc (.cells #[.int .i64 n] 3)).alloc (.chan 0 #[] false 0 0 false)).alloc (.cells #[.chan (some (N + 4))] 39)
theorem cell_old {w : World} {o : Obj} {a : Addr} {u : Value} (h : w.cell? a = some u) (hl : a.block < w.heap.size) : (w.alloc o).cell? a = some u := by rw [World.cell?_alloc_lt w o a hl]; exact h
theorem frozen_old {w : World} {o : Obj} {a : Addr} (h : w.frozen? a = false) (hl : a.block ≠ w.heap.size) : (w.alloc o).frozen? a = false := by rw [World.frozen?_alloc_old w o a hl]; exact h
theorem cell_new {w : World} {x : Value} {t : TypeId} {k : Nat} (hk : k = w.heap.size) : (w.alloc (.cells #[x] t)).cell? ⟨k, 0, none⟩ = some x := by subst hk; exact World.cell?_alloc_new w #[x] t 0
theorem frozen_new {w : World} {x : Value} {t : TypeId} {k : Nat} (hk : k = w.heap.size) : (w.alloc (.cells #[x] t)).frozen? ⟨k, 0, none⟩ = false := by subst hk; exact World.frozen?_alloc_new w #[x] t 0
theorem ws6 {w : World} {N : Nat} (hN : w.heap.size = N) (v f b n : Int) : WS w N f b n v (w6 w N v f b n) := by
  subst hN
  refine ⟨⟨?_, ?_, ?_⟩, ?_, ?_, ?_, ?_, ?_, ?_, ?_, ?_, ⟨0, ?_⟩⟩
  · exact ((((((Below.refl _ w).alloc (Nat.le_refl _) _).alloc (by simp) _).alloc (by simp; omega) _).alloc (by simp; omega) _).alloc (by simp; omega) _).alloc (by simp; omega) _
  · exact cell_new (by simp)
  · exact frozen_new (by simp)
  · exact cell_old (cell_old (cell_old (cell_old (cell_old (cell_new rfl) (by simp)) (by simp; omega)) (by simp; omega)) (by simp; omega)) (by simp; omega)
  · exact frozen_old (frozen_old (frozen_old (frozen_old (frozen_old (frozen_new rfl) (by simp)) (by simp; omega)) (by simp; omega)) (by simp; omega)) (by simp; omega)
  · exact cell_old (cell_old (cell_old (cell_old (cell_new (by simp)) (by simp)) (by simp)) (by simp)) (by simp)
  · exact frozen_old (frozen_old (frozen_old (frozen_old (frozen_new (by simp)) (by simp)) (by simp)) (by simp)) (by simp)
  · exact cell_old (cell_old (cell_old (cell_new (by simp)) (by simp)) (by simp)) (by simp)
  · exact frozen_old (frozen_old (frozen_old (frozen_new (by simp)) (by simp)) (by simp)) (by simp)
  · exact cell_old (cell_old (cell_new (by simp)) (by simp)) (by simp)
  · exact frozen_old (frozen_old (frozen_new (by simp)) (by simp)) (by simp)
  · unfold w6
    rw [Below.heap_alloc _ _ _ (by simp)]
    have := heap_alloc_new ((((w.alloc (.cells #[.int .i64 v] 3)).alloc (.cells #[.int .i64 f] 3)).alloc (.cells #[.int .i64 b] 3)).alloc (.cells #[.int .i64 n] 3)) (.chan 0 #[] false 0 0 false)
    simpa only [World.size_alloc] using this
theorem ch6 {w : World} {N : Nat} (hN : w.heap.size = N) (v f b n : Int) : (w6 w N v f b n).heap[N + 4]? = some (.chan 0 #[] false 0 0 false) := by
  subst hN
  unfold w6
  rw [Below.heap_alloc _ _ _ (by simp)]
  have := heap_alloc_new ((((w.alloc (.cells #[.int .i64 v] 3)).alloc (.cells #[.int .i64 f] 3)).alloc (.cells #[.int .i64 b] 3)).alloc (.cells #[.int .i64 n] 3)) (.chan 0 #[] false 0 0 false)
  simpa only [World.size_alloc] using this
theorem fold_last : ∀ (L : List Int) (a : Int), L.foldl (fun _ u => u) a = lastI a L
  | [], _ => rfl
  | x :: L, _ => fold_last L x
theorem fold_pair : ∀ (L : List Int) (a c : Int), -1 ≤ c → c + L.length ≤ 1000000 → L.foldl (fun (st : Int × Int) u => (u, IntKind.i64.wrap (st.2 + 1))) (a, c) = (lastI a L, c + L.length)
  | [], a, c, _, _ => by simp [lastI]
  | x :: L, a, c, h0, h1 => by
    have e : IntKind.i64.wrap (c + 1) = c + 1 := IntWalk.i64_in _ (by simp only [List.length_cons] at h1; omega)
    show L.foldl (fun (st : Int × Int) u => (u, IntKind.i64.wrap (st.2 + 1))) (x, IntKind.i64.wrap (c + 1)) = _
    rw [e, fold_pair L x (c + 1) (by omega) (by simp only [List.length_cons] at h1; omega)]
    simp only [lastI, List.length_cons, Prod.mk.injEq, true_and]
    omega
end Go.Proofs.Ytodpkfohihfndaa
