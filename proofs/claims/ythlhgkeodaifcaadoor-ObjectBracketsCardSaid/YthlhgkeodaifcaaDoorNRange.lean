/-
  A loop over an iterator that keeps a state of its own in blocks that it lays itself: the law for the caller, who needs what is below alone. No program here.
-/
import Derived.RangeFuncNested
import Derived.RangeFuncBound
import Derived.RangeFuncCalls
import Derived.RangeFuncLeaves
import Derived.RangeFuncBox
import Derived.Below
import Derived.Deep.QuietTactic
import Derived.BigQuiet
namespace Go.Proofs.YthlhgkeodaifcaaDoor.U
open Go.RowKit
set_option linter.unusedVariables false

/-- What lies below N lies as it lay, but for the blocks of E. -/
structure But (N : Nat) (E : Nat → Prop) (w w' : World) : Prop where
  os : w'.os = w.os
  tape : w'.tape = w.tape
  output : w'.output = w.output
  size : w.heap.size ≤ w'.heap.size
  block : ∀ k, k < N → ¬ E k → w'.heap[k]? = w.heap[k]?

theorem But.refl (N : Nat) (E : Nat → Prop) (w : World) : But N E w w := ⟨rfl, rfl, rfl, Nat.le_refl _, fun _ _ _ => rfl⟩
theorem But.trans {N : Nat} {E : Nat → Prop} {a b c : World} (h : But N E a b) (k : But N E b c) : But N E a c :=
  ⟨k.os.trans h.os, k.tape.trans h.tape, k.output.trans h.output, Nat.le_trans h.size k.size, fun i hi he => (k.block i hi he).trans (h.block i hi he)⟩
theorem But.mono {N N' : Nat} {E E' : Nat → Prop} {a b : World} (h : But N E a b) (hN : N' ≤ N) (hE : ∀ k, k < N' → E k → E' k) : But N' E' a b :=
  ⟨h.os, h.tape, h.output, h.size, fun k hk he => h.block k (by omega) (fun e => he (hE k hk e))⟩
theorem But.of_below {N : Nat} {E : Nat → Prop} {a b : World} (h : Below N a b) : But N E a b := ⟨h.os, h.tape, h.output, h.size, fun k hk _ => h.block k hk⟩
theorem But.below {N n : Nat} {E : Nat → Prop} {a b : World} (h : But N E a b) (hn : n ≤ N) (hE : ∀ k, k < n → ¬ E k) : Below n a b :=
  ⟨h.os, h.tape, h.output, h.size, fun k hk => h.block k (by omega) (hE k hk)⟩
theorem But.alloc {N : Nat} {E : Nat → Prop} {a b : World} (h : But N E a b) (hN : N ≤ b.heap.size) (o : Obj) : But N E a (b.alloc o) :=
  h.trans (But.of_below ((Below.refl N b).alloc hN o))
theorem But.drew {N : Nat} {E : Nat → Prop} {a b : World} (h : But N E a b) : But N E a b.drew := ⟨h.os, h.tape, h.output, h.size, h.block⟩
theorem But.drewN {N : Nat} {E : Nat → Prop} {a b : World} (h : But N E a b) (n : Nat) : But N E a (b.drewN n) := ⟨h.os, h.tape, h.output, h.size, h.block⟩
theorem But.setCell {N : Nat} {E : Nat → Prop} {a b : World} (h : But N E a b) {p : Addr} (hp : N ≤ p.block ∨ E p.block) (u : Value) : But N E a (b.setCell p u) :=
  h.trans ⟨rfl, rfl, rfl, by simp [World.setCell], fun k hk he => Below.heap_setCell _ _ _ _ (fun e => by subst e; rcases hp with hp | hp; omega; exact he hp)⟩
theorem But.putObj {N : Nat} {E : Nat → Prop} {a b : World} (h : But N E a b) {l : Nat} (hl : l < b.heap.size) (hp : N ≤ l ∨ E l) (o : Obj) : But N E a (b.putObj l o) :=
  h.trans ⟨rfl, rfl, rfl, by simp [World.putObj], fun k hk he => World.putObj_heap_other (fun e => by subst e; rcases hp with hp | hp; omega; exact he hp)⟩
theorem But.grown {N : Nat} {E : Nat → Prop} {a b c : World} {row : Option Nat} (h : But N E a b) (hg : b.grownBy c row) (hN : N ≤ b.heap.size) (hr : ∀ k, row = some k → N ≤ k ∨ E k) : But N E a c :=
  h.trans ⟨hg.os, hg.tape, hg.output, hg.size, fun k hk he => hg.block k (by omega) (fun e => by rcases hr k e.symm with h1 | h1; omega; exact he h1)⟩
theorem But.cell {N : Nat} {E : Nat → Prop} {a b : World} (h : But N E a b) {p : Addr} (hp : p.block < N) (he : ¬ E p.block) : b.cell? p = a.cell? p := World.cell?_of_block (w := a) (h.block p.block hp he)

/-- All that is cells lies as it lay. -/
def KeepC (W W' : World) : Prop := ∀ (k : Nat) (cur : Array Value) (t : TypeId) (z : Nat × Nat), W.heap[k]? = some (.cells cur t z) → W'.heap[k]? = W.heap[k]?
theorem keepC_put {W : World} {l : Nat} {o : Obj} (o' : Obj) (h : W.heap[l]? = some o) (hn : ∀ cur t z, o ≠ .cells cur t z) : KeepC W (W.putObj l o') := by
  intro k cur t z hk
  by_cases e : k = l
  · subst e; rw [h] at hk; cases hk; exact absurd rfl (hn cur t z)
  · exact World.putObj_heap_other e
theorem keepC_below {W W' : World} (h : Below W.heap.size W W') : KeepC W W' := fun k cur t z hk => h.block k (Array.getElem?_eq_some_iff.1 hk).1

/-- THE ITERATOR's WORD: it hands over us, one by one. -/
def Iter {α : Type} (F : Fence) (n : Nat) (P : Program) (gf : Nat) (lb : Array Value) (encs : α → Array Value) (us : List α) (E : Nat → Prop) (w : World) : Prop :=
  ∀ (l : Nat) (J Jx : List α → World → Prop),
    (∀ s W W', J s W → Below w.heap.size W W' → J s W') →
    (∀ pre x W, w.heap.size ≤ W.heap.size → J pre W → pre ++ [x] <+: us → YieldAt F (n - 1) P l (encs x) W fun e W' =>
      (e = .returned (.bool true) ∧ J (pre ++ [x]) W' ∧ But W.heap.size E W W') ∨ (e = .returned (.bool false) ∧ Jx (pre ++ [x]) W')) →
    J [] w →
    CallsIn F n P gf (#[.func (.yield l) #[] #[]] ++ lb) w fun e W' => (∃ v, e = .returned v) ∧ (J us W' ∨ ∃ pre, pre <+: us ∧ Jx pre W')

/-- how a round may be left: N: the heap's size when it began -/
def roundEnd {α : Type} (N : Nat) (E : Nat → Prop) (I : List α → World → Prop) (Ix : Code → List α → World → Prop) (xs : List α) (W : World) : Exit → Act → World → Prop
  | .normal, _, W' => But N E W W' ∧ I xs W'
  | .ret, _, W' => But N E W W' ∧ Ix .ret xs W'
  | .exit id, _, W' => But N E W W' ∧ Ix (.exit id) xs W'
  | .goto t, _, W' => But N E W W' ∧ Ix (.goto t) xs W'
  | .panic _, _, _ => False
  | .outgrown, _, _ => False

theorem recs_kept {D N : Nat} {E : Nat → Prop} (hE : ∀ k, E k → k < D) {W W' : World} (hN : D + 2 ≤ N) (h : But N E W W') :
    W'.heap[D]? = W.heap[D]? ∧ W'.heap[D + 1]? = W.heap[D + 1]? :=
  ⟨h.block D (by omega) (fun e => absurd (hE _ e) (by omega)), h.block (D + 1) (by omega) (fun e => absurd (hE _ e) (by omega))⟩

variable {F : Fence} {n : Nat} {P : Program}

theorem range_free {α : Type} {g : Operand} {ps : Array Tmp} {assign body : Code} {Q : Exit → Act → World → Prop} {a : Act} {w : World}
    (hro : F.round = none) (h1 : 1 ≤ n) {gf : Nat} {lb : Array Value} (hg : a.eval g = .func (.func gf) #[] lb) (hFg : F.fn gf) (eg : ∀ args w, (callFunc gf args).run P w = .ok (.enter gf args) w)
    {encs : α → Array Value} {us : List α} {E : Nat → Prop} (hE : ∀ k, E k → k < w.heap.size) (hps : ∀ x, (encs x).size = ps.size)
    (hit : ∀ o, Iter F (n - 1) P gf lb encs us E ((w.alloc (.deferred (some []))).alloc (.loop o)))
    (I : List α → World → Prop) (Ix : Code → List α → World → Prop)
    (hI : ∀ s W W', I s W → Below w.heap.size W W' → I s W')
    (hIx : ∀ c s W W', Ix c s W → Below w.heap.size W W' → Ix c s W')
    (h0 : I [] w) (Ax : List α → α → Act → World → Prop) (hAx : ∀ pre x a' W W', Ax pre x a' W → But W.heap.size (fun k => w.heap.size ≤ k ∧ k ≤ w.heap.size + 1) W W' → KeepC W W' → Ax pre x a' W')
    (hassign : ∀ (l : Nat) (pre : List α) (x : α) (W : World) (K : Act → World → Prop), w.heap.size + 1 < W.heap.size → I pre W → pre ++ [x] <+: us → (∀ a' W', But W.heap.size E W W' → Ax pre x a' W' → K a' W') →
      assign.wpIn (F.inRound l) (n - 1 - 1) P (Exit.then K (fun _ _ _ => False)) { tmps := (ps.zip (encs x)).foldl (fun t (p, v) => t.setIfInBounds p v) a.tmps, defers := [] } W)
    (hbody : ∀ (l : Nat) (pre : List α) (x : α) (a' : Act) (W : World), w.heap.size + 1 < W.heap.size → Ax pre x a' W → pre ++ [x] <+: us → body.wpIn (F.inRound l) (n - 1 - 1) P (roundEnd W.heap.size E I Ix (pre ++ [x]) W) a' W)
    (hdone : ∀ (W : World), I us W → W.heap[w.heap.size]? = some (.deferred (some [])) → Q .normal { a with defers := { target := .collected w.heap.size, args := #[] } :: a.defers } W)
    (hstop : ∀ (c : Code) (pre : List α) (W : World), pre <+: us → Ix c pre W → W.heap[w.heap.size]? = some (.deferred (some [])) → c.wpIn F n P Q { a with defers := { target := .collected w.heap.size, args := #[] } :: a.defers } W) :
    (Code.rangeFunc g ps assign body).wpIn F n P Q a w := by
  refine wpIn_rangeFunc ?_
  intro fn hfn
  rw [hro]
  obtain ⟨rc, hrc⟩ : ∃ rc : LoopState → Option Code → Loop, rc = fun st pe => { state := st, pending := pe, fn, tmps := a.tmps, params := ps, assign, body, defers := w.heap.size } := ⟨_, rfl⟩
  have hit' := hit (rc .ready none)
  have hsz : ((w.alloc (.deferred (some []))).alloc (.loop (rc .ready none))).heap.size = w.heap.size + 2 := by simp
  obtain ⟨W1, hW1⟩ : ∃ W1, (w.alloc (.deferred (some []))).alloc (.loop (rc .ready none)) = W1 := ⟨_, rfl⟩
  rw [hW1] at hit' hsz
  have r1 : W1.heap[w.heap.size + 1]? = some (.loop (rc .ready none)) := by
    rw [← hW1]; have h := World.alloc_heap_new (w.alloc (.deferred (some []))) (.loop (rc .ready none)); rwa [World.size_alloc] at h
  have d1 : W1.heap[w.heap.size]? = some (.deferred (some [])) := by
    rw [← hW1]; exact (Below.heap_alloc _ _ _ (by simp)).trans (World.alloc_heap_new w _)
  have b1 : But w.heap.size (fun k => w.heap.size ≤ k ∧ k ≤ w.heap.size + 1) w W1 := by
    rw [← hW1]; exact ((But.refl _ _ w).alloc (Nat.le_refl _) _).alloc (by simp) _
  have kc1 : KeepC w W1 := by rw [← hW1]; exact keepC_below (((Below.refl _ w).alloc (Nat.le_refl _) _).alloc (by simp) _)
  have i1 : I [] W1 := hI _ _ _ h0 (b1.below (Nat.le_refl _) (fun k hk e => by omega))
  refine ⟨w.heap.size + 1, [{ target := .collected w.heap.size, args := #[] }], W1, { target := .fn (.func gf) lb, args := #[.func (.yield (w.heap.size + 1)) #[] #[]] }, W1, gf,
    #[.func (.yield (w.heap.size + 1)) #[] #[]] ++ lb, W1, ?_, ?_, ?_, ?_, fun _ => h1, ?_⟩
  · rw [← hW1, hrc]; exact run_enterLoop_outer _ _ _ _ _
  · simp only [resolve, hg]
    simp [go_sem]
  · intro f' hf'; simp [Target.leads] at hf'; subst hf'; exact hFg
  · simp [invoke, go_sem, eg]
  · have turn : ∀ {s : List α} {W W' : World} {o o' : Obj}, W.heap[w.heap.size + 1]? = some o → (∀ cur t z, o ≠ .cells cur t z) → W' = W.putObj (w.heap.size + 1) o' → (But W.heap.size (fun k => w.heap.size ≤ k ∧ k ≤ w.heap.size + 1) W W' ∧ KeepC W W') ∧ Below w.heap.size W W' := by
      intro s W W' o o' hl hn e
      subst e
      have hlt := (Array.getElem?_eq_some_iff.1 hl).1
      have hbu : But W.heap.size (fun k => w.heap.size ≤ k ∧ k ≤ w.heap.size + 1) W (W.putObj (w.heap.size + 1) o') := (But.refl _ _ W).putObj hlt (.inr ⟨by omega, by omega⟩) _
      exact ⟨⟨hbu, keepC_put o' hl hn⟩, hbu.below (by omega) (fun k hk e => by omega)⟩
    refine (hit' (w.heap.size + 1)
      (fun pre W => I pre W ∧ W.heap[w.heap.size]? = some (.deferred (some [])) ∧ W.heap[w.heap.size + 1]? = some (.loop (rc .ready none)))
      (fun pre W => ∃ c, Ix c pre W ∧ W.heap[w.heap.size]? = some (.deferred (some [])) ∧ W.heap[w.heap.size + 1]? = some (.loop (rc .done (some c))))
      (fun s W W' hs hb => by
        rw [hsz] at hb
        exact ⟨hI _ _ _ hs.1 (hb.mono (by omega)), (hb.block _ (by omega)).trans hs.2.1, (hb.block _ (by omega)).trans hs.2.2⟩)
      ?_ ⟨i1, d1, r1⟩).mono ?_
    · rintro pre x W hlt ⟨hi, hd, hl⟩ hpre
      rw [hsz] at hlt
      have hy := run_yield (P := P) (args := encs x) hl (by rw [hrc]; exact hps x)
      rw [hrc] at hy
      refine ⟨fn, _, assign, body, hy, roundIn_of_wpIn hfn (hassign _ pre x W _ hlt hi hpre ?_)⟩
      intro a' Wa hba hax
      obtain ⟨ka1, ka2⟩ := recs_kept hE (by omega) hba
      have hda := ka1.trans hd
      have hla := ka2.trans hl
      have hlta : w.heap.size + 1 < Wa.heap.size := by have := hba.size; have := (Array.getElem?_eq_some_iff.1 hla).1; omega
      refine ⟨_, run_beginRound hla (by rw [hrc]), ?_⟩
      obtain ⟨Wb, hWb⟩ : ∃ Wb, Wa.putObj (w.heap.size + 1) (.loop { rc .ready none with state := .busy }) = Wb := ⟨_, rfl⟩
      rw [hWb]
      have hsb : Wb.heap.size = Wa.heap.size := by rw [← hWb]; simp [World.putObj]
      have hdb : Wb.heap[w.heap.size]? = some (.deferred (some [])) := by rw [← hWb]; exact (World.putObj_heap_other (by omega)).trans hda
      have hlb : Wb.heap[w.heap.size + 1]? = some (.loop { rc .ready none with state := .busy }) := by rw [← hWb]; exact World.putObj_heap_same (by omega)
      have hbb : But Wb.heap.size (fun k => k = w.heap.size + 1 ∨ E k) Wa Wb := by
        rw [← hWb]; exact (But.refl _ _ Wa).putObj (by omega) (.inr (.inl rfl)) _
      refine wpIn_mono (hbody _ pre x a' Wb (by omega) (hAx _ _ _ _ _ hax (turn (s := []) hla (fun _ _ _ e => by cases e) hWb.symm).1.1 (turn (s := []) hla (fun _ _ _ e => by cases e) hWb.symm).1.2) hpre) ?_
      have fin : ∀ (jump : Option Code) (W3 : World), But Wb.heap.size E Wb W3 →
          (Instr.endRound (w.heap.size + 1) jump).run P W3 = .ok (.bool jump.isNone) (W3.putObj (w.heap.size + 1) (.loop (rc (if jump.isNone then .ready else .done) jump))) ∧
          (W3.putObj (w.heap.size + 1) (.loop (rc (if jump.isNone then .ready else .done) jump))).heap[w.heap.size]? = some (.deferred (some [])) ∧
          (W3.putObj (w.heap.size + 1) (.loop (rc (if jump.isNone then .ready else .done) jump))).heap[w.heap.size + 1]? = some (.loop (rc (if jump.isNone then .ready else .done) jump)) ∧
          Below w.heap.size W3 (W3.putObj (w.heap.size + 1) (.loop (rc (if jump.isNone then .ready else .done) jump))) := fun jump W3 h3 => by
        obtain ⟨k1, k2⟩ := recs_kept hE (by omega) h3
        have hd3 := k1.trans hdb
        have hl3 := k2.trans hlb
        have hlt3 := (Array.getElem?_eq_some_iff.1 hl3).1
        have hr := run_endRound (P := P) jump hl3
        rw [hrc] at hr ⊢
        exact ⟨hr, (World.putObj_heap_other (by omega)).trans hd3, World.putObj_heap_same hlt3, (turn (s := []) hl3 (fun _ _ _ e => by cases e) rfl).2⟩
      have word : ∀ (W3 : World), But Wb.heap.size E Wb W3 → But W.heap.size E W (W3.putObj (w.heap.size + 1) (.loop (rc .ready none))) := fun W3 h3 => by
        obtain ⟨k1, k2⟩ := recs_kept hE (by omega) h3
        have hl3 := k2.trans hlb
        have hlt3 := (Array.getElem?_eq_some_iff.1 hl3).1
        have e4 : (W3.putObj (w.heap.size + 1) (.loop (rc .ready none))).heap[w.heap.size + 1]? = some (.loop (rc .ready none)) := World.putObj_heap_same hlt3
        have hwb : W.heap.size ≤ Wb.heap.size := by have := hba.size; omega
        have b4 : But W.heap.size (fun k => k = w.heap.size + 1 ∨ E k) W (W3.putObj (w.heap.size + 1) (.loop (rc .ready none))) :=
          (((hba.mono (Nat.le_refl _) (fun k _ e => .inr e)).trans (hbb.mono hwb (fun k _ e => e))).trans (h3.mono hwb (fun k _ e => .inr e))).putObj hlt3 (.inr (.inl rfl)) _
        refine ⟨b4.os, b4.tape, b4.output, b4.size, fun k hk he => ?_⟩
        by_cases hk1 : k = w.heap.size + 1
        · subst hk1; rw [e4, hl]
        · exact b4.block k (by omega) (fun h => by rcases h with h | h; exact hk1 h; exact he h)
      rintro e a3 W3 hp
      cases e with
      | normal =>
        obtain ⟨hk3, hi3⟩ := hp
        obtain ⟨hr, hd4, hl4, hb4⟩ := fin none W3 hk3
        exact ⟨_, _, hr, .inl ⟨rfl, ⟨hI _ _ _ hi3 hb4, hd4, hl4⟩, word W3 hk3⟩⟩
      | ret =>
        obtain ⟨hk3, hi3⟩ := hp
        obtain ⟨hr, hd4, hl4, hb4⟩ := fin (some .ret) W3 hk3
        exact ⟨_, _, hr, .inr ⟨rfl, .ret, hIx _ _ _ _ hi3 hb4, hd4, hl4⟩⟩
      | exit id =>
        obtain ⟨hk3, hi3⟩ := hp
        obtain ⟨hr, hd4, hl4, hb4⟩ := fin (some (.exit id)) W3 hk3
        exact ⟨_, _, hr, .inr ⟨rfl, .exit id, hIx _ _ _ _ hi3 hb4, hd4, hl4⟩⟩
      | goto t =>
        obtain ⟨hk3, hi3⟩ := hp
        obtain ⟨hr, hd4, hl4, hb4⟩ := fin (some (.goto t)) W3 hk3
        exact ⟨_, _, hr, .inr ⟨rfl, .goto t, hIx _ _ _ _ hi3 hb4, hd4, hl4⟩⟩
      | panic ch => exact hp.elim
      | outgrown => exact hp.elim
    · rintro e W2 ⟨⟨v, rfl⟩, (⟨hi, hd, hl⟩ | ⟨pre, hpre, c, hi, hd, hl⟩)⟩
      · exact ⟨none, _, by have h := run_endLoop (P := P) hl (by rw [hrc]; simp); rw [hrc] at h; exact h, hdone _ (hI _ _ _ hi (turn (s := []) hl (fun _ _ _ e => by cases e) rfl).2) ((World.putObj_heap_other (by omega)).trans hd)⟩
      · exact ⟨some c, _, by have h := run_endLoop (P := P) hl (by rw [hrc]; simp); rw [hrc] at h; exact h, hstop c pre _ hpre (hIx _ _ _ _ hi (turn (s := []) hl (fun _ _ _ e => by cases e) rfl).2) ((World.putObj_heap_other (by omega)).trans hd)⟩

end Go.Proofs.YthlhgkeodaifcaaDoor.U
