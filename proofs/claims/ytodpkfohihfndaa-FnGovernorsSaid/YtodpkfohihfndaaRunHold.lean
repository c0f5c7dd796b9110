/- Whoever holds the token, and how the run goes on: its own walk; a send to goroutine 0, who sits down again; its close, behind which goroutine 0 goes on beside goroutines that only leave; the go statement of a worker that begins by working. For every program. No condition. -/
import Derived.Test.YtodpkfohihfndaaRunOn
set_option linter.unusedSimpArgs false
set_option linter.unusedVariables false
namespace Go.Proofs.Ytodpkfohihfndaa
open Go Go.Conc
open Go.ConcN (sumTo upd sumTo_upd upd_ne upd_same)

/-- Goroutine h of M, holding the token, stands as g in world w: whatever has been done, the run ends well. -/
def Holds (P : Program) (Fin : Value → World → Prop) (K : World → Prop) (Still : Loc → Prop) (B : Nat) (Inb : Nat → Option Seat) (h M : Nat) (g : Goroutine) (w : World) : Prop :=
  ∀ (d : Nat) (Mem : Nat → Prop) (gs : Array Goroutine) (sl : Option (Nat × Nat)) (T : Trace) (q : Nat → Nat), gs.size = M → gs[h]? = some g → Mem h → Mem 0 → Ring P K Still B Mem Inb h T gs (w.at d) q → EndsM P Fin (crowd gs (w.at d) sl) T

theorem evHd_mono {Still : Loc → Prop} {B B' : Nat} (h : B ≤ B') {e : Event} (k : EvHd Still B e) : EvHd Still B' e := ⟨k.1, k.2.1, k.2.2.1, MemAct.low_mono h k.2.2.2⟩

/-- Goroutine 0 alone has a seat, at channel c. -/
noncomputable def InbZ (c : Nat) (z : Value) (home : Goroutine → Prop) : Nat → Option Seat := upd (fun _ => none) 0 (some (Seat.one c z true home))
theorem inbZ_0 (c : Nat) (z : Value) (home : Goroutine → Prop) : InbZ c z home 0 = some (Seat.one c z true home) := upd_same _ _ _
theorem inbZ_ne {c : Nat} {z : Value} {home : Goroutine → Prop} {i : Nat} (h : i ≠ 0) : InbZ c z home i = none := upd_ne _ _ h
theorem inbZ_some {c : Nat} {z : Value} {home : Goroutine → Prop} {i : Nat} {s : Seat} (h : InbZ c z home i = some s) : i = 0 ∧ s = Seat.one c z true home := by
  by_cases e : i = 0
  · subst e; rw [inbZ_0] at h; exact ⟨rfl, (Option.some.inj h).symm⟩
  · rw [inbZ_ne e] at h; cases h
theorem inbZ_has {c c' : Nat} {z : Value} {home : Goroutine → Prop} {i : Nat} {s : Seat} (h : InbZ c z home i = some s) (hc : s.has c') : c' = c := by
  obtain ⟨_, rfl⟩ := inbZ_some h
  exact Seat.one_has.1 hc
theorem inbZ_upd (c : Nat) (z : Value) (home home' : Goroutine → Prop) : upd (InbZ c z home) 0 (some (Seat.one c z true home')) = InbZ c z home' := by
  funext i
  by_cases e : i = 0
  · subst e; rw [upd_same, inbZ_0]
  · rw [upd_ne _ _ e, inbZ_ne e, inbZ_ne e]

/-- Another stop, which follows from the first. -/
theorem goes_stop {P : Program} {main : Bool} {R : World → World → Prop} {D : World → World → Array Event → Prop} {Stop Stop' : Goroutine → World → Prop} : ∀ {n : Nat} {g : Goroutine} {w : World}, Goes P main R D Stop n g w → (∀ g w, Stop g w → Stop' g w) → Goes P main R D Stop' n g w
  | 0, _, _, h, k => fun w₁ h₁ => k _ _ (h w₁ h₁)
  | n + 1, g, w, h, k => by
    rcases h with h | ⟨hs, h⟩
    · exact .inl fun w₁ h₁ => k _ _ (h w₁ h₁)
    · refine .inr ⟨hs, fun w₁ h₁ => ?_⟩
      have := h w₁ h₁
      revert this
      cases stepG P main g w₁ <;> simp only [GStep.goes, imp_self]
      exact fun ⟨d, x⟩ => ⟨d, goes_stop x k⟩

section
variable {P : Program} {Fin : Value → World → Prop} {K : World → Prop} {Still : Loc → Prop} {B h M : Nat} {c : Nat} {z : Value} {home : Goroutine → Prop} {g : Goroutine} {w : World}

theorem Holds.at {Inb : Nat → Option Seat} (hh : Holds P Fin K Still B Inb h M g w) (d : Nat) : Holds P Fin K Still B Inb h M g (w.at d) := fun d' Mem gs sl T q => hh d' Mem gs sl T q

/-- The holder's own walk. -/
theorem Holds.walk {Inb : Nat → Option Seat} (hKat : ∀ w d, K w → K (w.at d)) {D : World → World → Array Event → Prop} (hD : ∀ w w' es, D w w' es → DH K Still B Inb w w' es) {n : Nat}
    (hG : Goes P (h == 0) AtRel D (fun g' w' => Holds P Fin K Still B Inb h M g' w') n g w) : Holds P Fin K Still B Inb h M g w := by
  intro d Mem gs sl T q hM hg hMh hM0 C
  obtain ⟨N, gs', a', w', sl', T', q', hr, hsz, ha', hS, C'⟩ := hold_walk (sl := sl) hKat hD hg C (Goes.rely atRel_trans hG ⟨d, rfl⟩)
  exact EndsM.of_run hr (hS w'.drawn Mem gs' sl' T' q' (hsz.trans hM) ha' hMh hM0 C')

/-- A worker's own walk. -/
theorem Holds.step {Inb : Nat → Option Seat} (hKat : ∀ w d, K w → K (w.at d)) {D : World → World → Array Event → Prop} {Stop : Goroutine → World → Prop} (hD : ∀ w w' es, D w w' es → DH K Still B Inb w w' es) (h0 : h ≠ 0) {n : Nat}
    (hG : Goes P false AtRel D Stop n g w) (hS : ∀ g' w', Stop g' w' → Holds P Fin K Still B Inb h M g' w') : Holds P Fin K Still B Inb h M g w :=
  Holds.walk hKat hD (n := n) (by rw [show (h == 0) = false by simpa using h0]; exact goes_stop hG hS)

/-- A worker sends v to goroutine 0, which sits down again; the worker goes on. -/
theorem Holds.send (hKat : ∀ w d, K w → K (w.at d)) (hKc : ∀ w cap buf cl a b tm, K w → K (w.setChan c cap buf cl a b tm)) {After : Goroutine → Prop} {v : Value} {home' : Goroutine → Prop} {nj k : Nat} (h0 : h ≠ 0) (hM0 : 0 < M)
    (hgive : AtGive P false Still B c v After g w) (hc : w.heap[c]? = some (.chan 0 #[] false k k false))
    (hnext : ∀ g₂, home g₂ → Sits P true K Still B (Seat.one c z true home') nj (Go.Conc.served g₂ (recvd true v true)))
    (hcont : ∀ g', After g' → ∀ d, Holds P Fin K Still B (InbZ c z home') h M g' ((w.at d).setChan c 0 #[] false (k + 1) (k + 1) false)) : Holds P Fin K Still B (InbZ c z home) h M g w := by
  intro d Mem gs sl T q hM hg hMh hMz C
  obtain ⟨hrun, g₂, z', es, hes, hst, hA⟩ := hgive
  have hh : (h == 0) = false := by simpa using h0
  obtain ⟨N, m', T', hr, gs', d', sl', q', rfl, hsz, hg', C'⟩ := stay0 (w := w.at d) (sl := sl) (j := 0) (kk := 0) (z := z) (s' := Seat.one c z true home') (nj := nj) hKat
    (fun w i s c' cap buf cl a b tm e hc' hk => by rw [inbZ_has e hc']; exact hKc _ _ _ _ _ _ _ hk) (Ne.symm h0) (by omega) (inbZ_0 c z home) rfl hMh hg hrun (by rw [hh]; intro d2; exact hst d2) hes C hc
    (Seat.one_wf _ _ _ _) (fun c' hc' => Seat.one_has.2 (Seat.one_has.1 hc')) (fun g₂ hg₂ => by
      have := hnext g₂ hg₂
      show Sits P (0 == 0) K Still B _ nj (Go.Conc.served g₂ (commResult #[rcase c z] (.recv true) ((0 : Nat) : Int) v true))
      rw [commResult_one]; exact this)
  rw [inbZ_upd] at C'
  exact EndsM.of_run hr (hcont _ hA d' (((w.at d').setChan c 0 #[] false (k + 1) (k + 1) false).drawn) Mem gs' sl' T' q' (hsz.trans hM) hg' hMh hMz C')

/-- A worker closes the channel and only leaves; goroutine 0 goes on, beside goroutines that only leave. -/
theorem Holds.close (hKat : ∀ w d, K w → K (w.at d)) (hKc : ∀ w cap buf cl a b tm, K w → K (w.setChan c cap buf cl a b tm)) {nq k : Nat} (h0 : 0 < h) (hM0 : 0 < M)
    (hshut : AtShut P false c (fun g => QuitsD P nq 0 g) g w) (hc : w.heap[c]? = some (.chan 0 #[] false k k false))
    (hcont : ∀ g₂, home g₂ → ∀ w', K w' → Ends P Fin (Go.Conc.served g₂ (recvd true z false)) w') : Holds P Fin K Still B (InbZ c z home) h M g w := by
  intro d Mem gs sl T q hM hg hMh hMz C
  obtain ⟨hrun, hwake, g', hg'r, hcl, hQ⟩ := hshut
  have hh : (h == 0) = false := by simp; omega
  obtain ⟨N, gs', g₂, d', sl', T', q', hr, hsz, hj, hhome, C'⟩ := give_close (w := w.at d) (sl := sl) (j := 0) (kk := 0) (z := z) hKat
    (fun w i s c' cap buf cl a b tm e hc' hk => by rw [inbZ_has e hc']; exact hKc _ _ _ _ _ _ _ hk) (by omega) (by omega) (inbZ_0 c z home) rfl hMh hg hrun hwake hg'r hc (by rw [hh]; intro d2; exact hcl 0 k hc d2) C
    (Inb' := fun _ => none) (fun x _ hx => (inbZ_ne hx).symm) (.inr rfl) rfl (nh := nq) (fun T' hd => ⟨h0, hd ▸ hQ⟩)
  obtain ⟨L, Pp⟩ := ring_end C' ⟨hMz, .inr rfl⟩ (fun _ _ => rfl)
  have hj' : gs'[0]? = some (Go.Conc.served g₂ (recvd true z false)) := by
    rw [hj]
    show some (Go.Conc.served g₂ (commResult #[rcase c z] (.recv true) ((0 : Nat) : Int) z false)) = _
    rw [commResult_one]
  exact EndsM.of_run hr (hcont g₂ hhome _ C'.keep (((w.at d').setChan c 0 #[] true k k false).drawn) B gs' sl' T' q' hj' L Pp)

/-- Goroutine 0 stands at a go statement, behind which it is on its way to its seat at c; the child works from its birth. -/
theorem Ends.hire {C0 : Nat} {child : Goroutine} {nh : Nat} (hS : ∀ l, Still l → l.isMemory = true) (hKat : ∀ w d, K w → K (w.at d)) (hK : K w) (hcC : c < C0) (hch : w.heap[c]? = some (.chan 0 #[] false 0 0 false))
    (hgo : ∀ B, C0 ≤ B → AtHire P true Still B (fun x => x = child) (fun x => Sits P true K Still B (Seat.one c z true home) nh x) g w)
    (hcont : ∀ B M, C0 ≤ B → 0 < M → Holds P Fin K Still B (InbZ c z home) M (M + 1) child w) : Ends P Fin g w := by
  intro d B0 gs sl T q h0 hL hP
  have hB : C0 ≤ C0 + B0 := by omega
  obtain ⟨hrun, a', ch, es, hes, hst, hchild, hS0⟩ := hgo (C0 + B0) hB
  have hchild' : ch = child := hchild
  subst hchild'
  have hlt : 0 < gs.size := (Array.getElem?_eq_some_iff.1 h0).1
  have R1 : Ring P K Still (C0 + B0) (fun g => g = 0) (fun _ => none) 0 T gs (w.at d) q := ring_begin hS hL (hP.mono (by omega)) (hKat _ _ hK)
  have R2 := R1.reseat rfl (Seat.one c z true home) (Seat.one_wf _ _ _ _) (fun _ _ _ _ e => by cases e) (fun c' hc' => ⟨0, 0, by rw [Seat.one_has.1 hc']; exact hch⟩) (fun c' hc' => by rw [Seat.one_has.1 hc']; omega)
  have hne : gs.size ≠ 0 := by omega
  obtain ⟨N, gs', d', sl', T', q', hr, hsz, hch', R3⟩ := hire_give (w := w.at d) (sl := sl) (Mem := fun g => g = 0) hKat rfl h0 hrun (fun d2 => hst d2) hes R2 (inbZ_ne hne) (Inb' := InbZ c z home) (fun _ _ => rfl) (.inl rfl) (nh := nh)
    (fun T' hd => by rw [inbZ_0]; exact hS0)
  exact EndsM.of_run hr (hcont (C0 + B0) gs.size hB hlt d' _ gs' sl' T' q' hsz hch' (.inr rfl) (.inl ⟨rfl, by rw [inbZ_0]; simp⟩) R3)
end
end Go.Proofs.Ytodpkfohihfndaa
