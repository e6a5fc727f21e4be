/-
  Rows of changes that were made for the caller: each with lines of its own, one behind the other in memory.
-/
import Derived.Test.YtalhiedbhcklgaaVMem
namespace Go.Proofs.Ytalhiedbhcklgaa.U
open Go.RowKit
set_option linter.unusedVariables false
set_option linter.unusedSimpArgs false
set_option maxRecDepth 100000

theorem FreshL.rdl2 {B : Nat} {w : World} {a : Option Addr} {n c : Nat} {L : List (List Int)} (h : FreshL B w a n c L) (hw : ∀ x ∈ L, ∀ y ∈ x, (Lit.int .i32 y).wf = true) : RdL (fun k => B ≤ k ∧ k < w.heap.size) w a n c L := by
  obtain ⟨vs, h1, h2, h3, h4⟩ := h
  refine ⟨vs, Rc.own h1, InF.own h1 (fun k e => h1.lt k e), h2, fun i x hx => ?_⟩
  obtain ⟨v, e1, e2⟩ := h3 i x hx
  obtain ⟨ra, rc, rfl⟩ := own_slice e2
  exact ⟨ra, rc, e1, own_rd e2 (hw x (List.mem_of_getElem? hx)), InF.own e2 (fun k e => e2.lt k e)⟩

/-- fresh lines, all in [lo, hi) -/
def FreshR (lo hi : Nat) (w : World) (a : Option Addr) (n c : Nat) (L : List (List Int)) : Prop :=
  ∃ vs, w.ownsRow lo 52 1 (.slice a n c) n vs ∧ vs.length = L.length ∧ (∀ (i : Nat) (x : List Int), L[i]? = some x → ∃ v, vs[i]? = some v ∧ w.ownsRow lo 21 1 v x.length (ints x) ∧ ∀ k, v.ownBlock = some k → k < hi) ∧
    (∀ (i j : Nat) (vi vj : Value), i < j → vs[i]? = some vi → vs[j]? = some vj → ∀ k, vi.ownBlock = some k → vj.ownBlock ≠ some k) ∧ (∀ k, (Value.slice a n c).ownBlock = some k → k < hi)
/-- all blocks but those of a type lie as they lay -/
def KeepT (e : TypeId) (w w' : World) : Prop := ∀ (k : Nat) (cur : Array Value) (t : TypeId), w.heap[k]? = some (.cells cur t (0, 0)) → t ≠ e → w'.heap[k]? = w.heap[k]?
theorem own_keep {e t : TypeId} {w w' : World} {B s n : Nat} {v : Value} {xs : List Value} (h : w.ownsRow B t s v n xs) (hk : KeepT e w w') (hne : t ≠ e) : w'.ownsRow B t s v n xs := by
  refine own_block h (fun k ek => ?_)
  obtain ⟨cur, hc⟩ := own_heap h ek
  exact hk k cur t hc hne
theorem keepT_row {e : TypeId} {w w' : World} {B s n : Nat} {v : Value} {xs : List Value} (h : w.ownsRow B e s v n xs) (hf : Fr (fun k => some k = v.ownBlock) w w') : KeepT e w w' := by
  intro k cur t hc hne
  refine hf.block k (heap_lt hc) (fun ek => ?_)
  obtain ⟨c2, h2⟩ := own_heap h ek.symm
  rw [hc] at h2
  simp at h2
  exact hne h2.2
theorem keepT_below {e : TypeId} {w w' : World} (hb : Below w.heap.size w w') : KeepT e w w' := fun k cur t hc _ => hb.block k (heap_lt hc)
theorem KeepT.trans {e : TypeId} {a b c : World} (h : KeepT e a b) (k : KeepT e b c) : KeepT e a c := fun i cur t hc hne => by
  have h1 := h i cur t hc hne
  exact (k i cur t (h1.trans hc) hne).trans h1
section
variable {lo hi hi' n c : Nat} {w w' : World} {a : Option Addr} {L : List (List Int)}
theorem FreshL.freshR (h : FreshL lo w a n c L) : FreshR lo w.heap.size w a n c L := by
  obtain ⟨vs, h1, h2, h3, h4⟩ := h
  exact ⟨vs, h1, h2, fun i x hx => by obtain ⟨v, e1, e2⟩ := h3 i x hx; exact ⟨v, e1, e2, fun k e => (e2.lt k e).2⟩, h4, fun k e => (h1.lt k e).2⟩
theorem FreshR.freshL (h : FreshR lo hi w a n c L) : FreshL lo w a n c L := by
  obtain ⟨vs, h1, h2, h3, h4, h5⟩ := h
  exact ⟨vs, h1, h2, fun i x hx => by obtain ⟨v, e1, e2, e3⟩ := h3 i x hx; exact ⟨v, e1, e2⟩, h4⟩
theorem FreshR.mono (h : FreshR lo hi w a n c L) (hh : hi ≤ hi') : FreshR lo hi' w a n c L := by
  obtain ⟨vs, h1, h2, h3, h4, h5⟩ := h
  exact ⟨vs, h1, h2, fun i x hx => by obtain ⟨v, e1, e2, e3⟩ := h3 i x hx; exact ⟨v, e1, e2, fun k e => Nat.lt_of_lt_of_le (e3 k e) hh⟩, h4, fun k e => Nat.lt_of_lt_of_le (h5 k e) hh⟩
theorem FreshR.keep (h : FreshR lo hi w a n c L) (hk : KeepT 24 w w') : FreshR lo hi w' a n c L := by
  obtain ⟨vs, h1, h2, h3, h4, h5⟩ := h
  exact ⟨vs, own_keep h1 hk (by decide), h2, fun i x hx => by obtain ⟨v, e1, e2, e3⟩ := h3 i x hx; exact ⟨v, e1, own_keep e2 hk (by decide), e3⟩, h4, h5⟩
theorem FreshR.fr {G : Nat → Prop} (h : FreshR lo hi w a n c L) (hf : Fr G w w') (hd : ∀ k, lo ≤ k → k < hi → ¬ G k) : FreshR lo hi w' a n c L := by
  obtain ⟨vs, h1, h2, h3, h4, h5⟩ := h
  exact ⟨vs, own_fr h1 hf (fun k e => hd k (h1.lt k e).1 (h5 k e)), h2, fun i x hx => by obtain ⟨v, e1, e2, e3⟩ := h3 i x hx; exact ⟨v, e1, own_fr e2 hf (fun k e => hd k (e2.lt k e).1 (e3 k e)), e3⟩, h4, h5⟩
end
def FreshC (lo hi : Nat) (w : World) (u : Tri) (c : Ch) : Prop :=
  ∃ oa oc na nc, u = (.int .i64 c.pos, .slice oa c.old.length oc, .slice na c.now.length nc) ∧ FreshR lo hi w oa c.old.length oc c.old ∧ FreshR lo hi w na c.now.length nc c.now
theorem FreshC.one1 {lo hi : Nat} {w : World} {u : Tri} {c : Ch} (h : FreshC lo hi w u c) : ∀ v ∈ triL u, v.oneCell' = true := by
  obtain ⟨oa, oc, na, nc, rfl, h1, h2⟩ := h
  intro v hv
  simp [triL] at hv
  rcases hv with rfl | rfl | rfl <;> rfl
theorem FreshC.mono {lo hi hi' : Nat} {w : World} {u : Tri} {c : Ch} (h : FreshC lo hi w u c) (hh : hi ≤ hi') : FreshC lo hi' w u c := by
  obtain ⟨oa, oc, na, nc, e, h1, h2⟩ := h
  exact ⟨oa, oc, na, nc, e, h1.mono hh, h2.mono hh⟩
theorem FreshC.keep {lo hi : Nat} {w w' : World} {u : Tri} {c : Ch} (h : FreshC lo hi w u c) (hk : KeepT 24 w w') : FreshC lo hi w' u c := by
  obtain ⟨oa, oc, na, nc, e, h1, h2⟩ := h
  exact ⟨oa, oc, na, nc, e, h1.keep hk, h2.keep hk⟩
theorem FreshC.at_ {lo hi : Nat} {w : World} {u : Tri} {c : Ch} (h : FreshC lo hi w u c) (ho : OkC c) : ChAt (fun k => lo ≤ k ∧ k < w.heap.size) w u c := by
  obtain ⟨oa, oc, na, nc, e, h1, h2⟩ := h
  exact ⟨oa, oc, na, nc, e, h1.freshL.rdl2 ho.2.1, h2.freshL.rdl2 ho.2.2.1⟩

/-- changes made for the caller since s -/
def FreshCs (s : Nat) (w : World) (a : Option Addr) (n c : Nat) (cs : List Ch) : Prop :=
  ∃ (us : List Tri) (th : Nat → Nat), w.ownsRow s 24 3 (.slice a n c) n (trip us) ∧ us.length = cs.length ∧ (∀ i, s ≤ th i ∧ th i ≤ th (i + 1) ∧ th i ≤ w.heap.size) ∧
    ∀ (i : Nat) (u : Tri) (x : Ch), us[i]? = some u → cs[i]? = some x → FreshC (th i) (th (i + 1)) w u x
section
variable {s n c : Nat} {w w' : World} {a : Option Addr} {cs : List Ch}
theorem FreshCs.nil (s : Nat) (w : World) (hs : s ≤ w.heap.size) : FreshCs s w none 0 0 [] := ⟨[], fun _ => s, World.ownsRow_nil _ _ _ _, rfl, fun i => ⟨Nat.le_refl _, Nat.le_refl _, hs⟩, fun i u x h => by simp at h⟩
theorem FreshCs.len (h : FreshCs s w a n c cs) : cs.length = n := by
  obtain ⟨us, th, h1, h2, _⟩ := h
  have := h1.1
  rw [trip_len] at this
  omega
theorem FreshCs.keep (h : FreshCs s w a n c cs) (hb : Below w.heap.size w w') : FreshCs s w' a n c cs := by
  obtain ⟨us, th, h1, h2, h3, h4⟩ := h
  exact ⟨us, th, own_fr h1 (Fr.of_below (fun _ => False) hb) (fun _ _ h => h), h2, fun i => ⟨(h3 i).1, (h3 i).2.1, Nat.le_trans (h3 i).2.2 hb.size⟩, fun i u x e1 e2 => (h4 i u x e1 e2).keep (keepT_below hb)⟩
theorem FreshCs.fr {G : Nat → Prop} (h : FreshCs s w a n c cs) (hf : Fr G w w') (hd : ∀ k, s ≤ k → k < w.heap.size → ¬ G k) : FreshCs s w' a n c cs := by
  obtain ⟨us, th, h1, h2, h3, h4⟩ := h
  refine ⟨us, th, own_fr h1 hf (fun k e => hd k (h1.lt k e).1 (h1.lt k e).2), h2, fun i => ⟨(h3 i).1, (h3 i).2.1, Nat.le_trans (h3 i).2.2 hf.size⟩, fun i u x e1 e2 => ?_⟩
  obtain ⟨oa, oc, na, nc, e, r1, r2⟩ := h4 i u x e1 e2
  have d : ∀ k, th i ≤ k → k < th (i + 1) → ¬ G k := fun k h5 h6 => hd k (by have := (h3 i).1; omega) (by have := (h3 (i + 1)).2.2; omega)
  exact ⟨oa, oc, na, nc, e, r1.fr hf d, r2.fr hf d⟩
theorem FreshCs.rd (h : FreshCs s w a n c cs) (ho : ∀ x ∈ cs, OkC x) : RdCs (fun k => s ≤ k ∧ k < w.heap.size) w a n c cs := by
  obtain ⟨us, th, h1, h2, h3, h4⟩ := h
  exact ⟨us, Rc.own h1, InF.own h1 (fun k e => h1.lt k e), h2, fun i u x e1 e2 => ((h4 i u x e1 e2).at_ (ho x (List.mem_of_getElem? e2))).mono (fun k hk => ⟨Nat.le_trans (h3 i).1 hk.1, hk.2⟩)⟩
/-- one change more -/
theorem fresh_ch {w1 : World} {u : Tri} {x : Ch} (h : FreshCs s w a n c cs) (hs : s ≤ w.heap.size) (hb : Below w.heap.size w w1) (hu : FreshC w.heap.size w1.heap.size w1 u x) (hn : n ≤ 1099511627776) :
    ∃ a' c' w', (∀ ty, (Builtin.append_ #[41, 41] ty #[.slice a n c, .slice (some ⟨w1.heap.size, 0, none⟩) 1 1]).run Try.prog (w1.alloc (.cells #[u.1, u.2.1, u.2.2] 24)) = .ok (.slice a' (n + 1) c') w') ∧
      FreshCs s w' a' (n + 1) c' (cs ++ [x]) ∧ Fr (fun k => some k = (Value.slice a n c).ownBlock) w w' := by
  have hl := h.len
  obtain ⟨us, th, h1, h2, h3, h4⟩ := h
  have h11 := own_fr h1 (Fr.of_below (fun _ => False) hb) (fun _ _ h => h)
  obtain ⟨i0, hi0, hz0, hz1, hz2⟩ := info_parts infoC
  obtain ⟨w2, hw2⟩ : ∃ w2, w1.alloc (.cells #[u.1, u.2.1, u.2.2] 24) = w2 := ⟨_, rfl⟩
  have hb2 : Below w1.heap.size w1 w2 := by rw [← hw2]; exact (Below.refl _ _).alloc (Nat.le_refl _) _
  have hg2 : w2.heap[w1.heap.size]? = some (.cells #[u.1, u.2.1, u.2.2] 24 (0, 0)) := by rw [← hw2]; exact heap_alloc_new w1 _
  have hsz2 : w2.heap.size = w1.heap.size + 1 := by rw [← hw2]; simp
  have h12 := own_fr h11 (Fr.of_below (fun _ => False) hb2) (fun _ _ h => h)
  have hsz1 := hb.size
  obtain ⟨v', w', hrun, hown, hfr, hnear⟩ := run_append_own_k (P := Try.prog) w2 s 41 24 i0 _ 3 56 Try.underlying41 hi0 hz0 hz1 hz2 rfl (by decide) (.slice a n c) n (trip us) h12 (some ⟨w1.heap.size, 0, none⟩) 1 1 (triL u) rfl
    (fun _ => ⟨_, rfl, fun j y hy => by rw [add_lit, cell_row hg2, Nat.zero_add]; simpa [triL] using hy⟩) hu.one1 (by unfold maxLen; omega) (by omega) (by omega)
  obtain ⟨a', c', rfl⟩ := own_slice hown
  have hkr := keepT_row h12 hfr
  have k1 : KeepT 24 w1 w' := (keepT_below hb2).trans hkr
  have k0 : KeepT 24 w w' := (keepT_below hb).trans k1
  have hsz' := hfr.size
  refine ⟨a', c', w', by rw [hw2]; exact hrun, ⟨us ++ [u], fun i => if i < n then th i else if i = n then w.heap.size else w1.heap.size, by rw [trip_snoc]; exact hown, by simp [h2], fun i => ?_, ?_⟩, (Fr.of_below _ (hb.trans (hb2.mono hb.size))).trans hfr (fun _ _ h => h)⟩
  · have q := h3 i
    have q2 := h3 (i + 1)
    dsimp only
    by_cases c1 : i < n
    · rw [if_pos c1]
      by_cases c2 : i + 1 < n
      · rw [if_pos c2]; omega
      · rw [if_neg c2, if_pos (by omega)]; omega
    · rw [if_neg c1, if_neg (by omega : ¬ i + 1 < n), if_neg (by omega : ¬ i + 1 = n)]
      by_cases c3 : i = n
      · rw [if_pos c3]; omega
      · rw [if_neg c3]; omega
  · intro i y z e1 e2
    dsimp only
    by_cases hi : i < cs.length
    · rw [List.getElem?_append_left (by omega)] at e1
      rw [List.getElem?_append_left hi] at e2
      have q := (h4 i y z e1 e2).keep k0
      rw [if_pos (by omega)]
      by_cases c2 : i + 1 < n
      · rw [if_pos c2]; exact q
      · rw [if_neg c2, if_pos (by omega)]
        exact q.mono (h3 (i + 1)).2.2
    · have hil := (List.getElem?_eq_some_iff.1 e2).1
      simp only [List.length_append, List.length_cons, List.length_nil] at hil
      have hi0 : i = cs.length := by omega
      subst hi0
      rw [List.getElem?_append_right (by omega), h2] at e1
      rw [List.getElem?_append_right (by omega)] at e2
      simp at e1 e2
      subst e1 e2
      rw [if_neg (by omega), if_pos (by omega), if_neg (by omega), if_neg (by omega)]
      exact hu.keep k1
end

/-- changes that are the caller's, since s -/
def MyCs (s : Nat) (w : World) (a : Option Addr) (n c : Nat) (cs : List Ch) : Prop :=
  ∃ F : Nat → Prop, OwnCs s F w (.slice a n c) cs ∧ ∀ k, F k → s ≤ k ∧ k < w.heap.size ∧ (Value.slice a n c).ownBlock ≠ some k
section
variable {s n c : Nat} {w w' : World} {a : Option Addr} {cs : List Ch}
theorem MyCs.nil (s : Nat) (w : World) : MyCs s w none 0 0 [] := ⟨fun _ => False, OwnCs.nil _ _ _, fun _ h => h.elim⟩
theorem MyCs.len (h : MyCs s w a n c cs) : cs.length = n := by
  obtain ⟨F, h1, _⟩ := h
  obtain ⟨a', c', e⟩ := h1.slice
  injection e with e1 e2 e3
  exact e2.symm
theorem MyCs.below (h : MyCs s w a n c cs) (hb : Below w.heap.size w w') : MyCs s w' a n c cs := by
  obtain ⟨F, h1, h2⟩ := h
  exact ⟨F, h1.below hb, fun k hk => ⟨(h2 k hk).1, Nat.lt_of_lt_of_le (h2 k hk).2.1 hb.size, (h2 k hk).2.2⟩⟩
theorem MyCs.fr {G : Nat → Prop} (h : MyCs s w a n c cs) (hf : Fr G w w') (hd : ∀ k, s ≤ k → k < w.heap.size → ¬ G k) : MyCs s w' a n c cs := by
  obtain ⟨F, h1, h2⟩ := h
  exact ⟨F, h1.fr hf (fun k e => hd k (h1.lt k e).1 (h1.lt k e).2) (fun k hk => hd k (h2 k hk).1 (h2 k hk).2.1), fun k hk => ⟨(h2 k hk).1, Nat.lt_of_lt_of_le (h2 k hk).2.1 hf.size, (h2 k hk).2.2⟩⟩
theorem MyCs.rd (h : MyCs s w a n c cs) : RdCs (fun k => s ≤ k ∧ k < w.heap.size) w a n c cs := by
  obtain ⟨F, h1, h2⟩ := h
  exact h1.rd (fun k e => h1.lt k e) (fun k hk => ⟨(h2 k hk).1, (h2 k hk).2.1⟩)
theorem my_ch {w1 : World} {u : Tri} {x : Ch} (h : MyCs s w a n c cs) (hs : s ≤ w.heap.size) (hb : Below w.heap.size w w1) (hu : ChAt (fun k => w.heap.size ≤ k ∧ k < w1.heap.size) w1 u x) (hn : n ≤ 1099511627776) :
    ∃ a' c' w', (∀ ty, (Builtin.append_ #[41, 41] ty #[.slice a n c, .slice (some ⟨w1.heap.size, 0, none⟩) 1 1]).run Try.prog (w1.alloc (.cells #[u.1, u.2.1, u.2.2] 24)) = .ok (.slice a' (n + 1) c') w') ∧
      MyCs s w' a' (n + 1) c' (cs ++ [x]) ∧ Below s w w' := by
  have hl := h.len
  obtain ⟨F, h1, h2⟩ := h
  have hlt := h1.lt
  have hsz1 := hb.size
  obtain ⟨a', c', w', hrun, hown, hfr, hnear⟩ := app_ch (h1.below hb) hu (by omega) (by omega) (fun k hk => (h2 k hk).2.2) (fun k hk e => by have := (hlt k e).2; omega)
  rw [hl] at hrun hown hnear
  have hsz := hfr.size
  refine ⟨a', c', w', hrun, ⟨_, hown, fun k hk => ?_⟩, (hb.mono hs).trans (hfr.below (by omega) (fun k e => (hlt k e.symm).1))⟩
  have hk2 : s ≤ k ∧ k < w1.heap.size ∧ (Value.slice a n c).ownBlock ≠ some k := by
    rcases hk with hk | hk
    · have := h2 k hk; exact ⟨this.1, by omega, this.2.2⟩
    · exact ⟨by omega, hk.2, fun e => by have := (hlt k e).2; omega⟩
  refine ⟨hk2.1, by omega, fun e => ?_⟩
  rcases hnear with e2 | e2
  · rw [e2] at e; exact hk2.2.2 e
  · rw [e2] at e; injection e with e; omega
theorem my_chs {H : Nat → Prop} {b : Option Addr} {m d : Nat} {ds : List Ch} (h : MyCs s w a n c cs) (hr : RdCs H w b m d ds) (hs : s ≤ w.heap.size) (hn : n + m ≤ 1099511627776) (hH : ∀ k, H k → s ≤ k ∧ k < w.heap.size ∧ (Value.slice a n c).ownBlock ≠ some k) :
    ∃ a' c' w', (∀ ty, (Builtin.append_ #[41, 41] ty #[.slice a n c, .slice b m d]).run Try.prog w = .ok (.slice a' (n + m) c') w') ∧ MyCs s w' a' (n + m) c' (cs ++ ds) ∧ Below s w w' := by
  have hl := h.len
  have hl2 := hr.len
  obtain ⟨F, h1, h2⟩ := h
  have hlt := h1.lt
  obtain ⟨us, q1, q2, q3⟩ := h1
  obtain ⟨ts, r1, r2, r3, r4⟩ := hr
  obtain ⟨i0, hi0, hz0, hz1, hz2⟩ := info_parts infoC
  have one : ∀ y ∈ trip ts, y.oneCell' = true := by
    intro y hy
    unfold trip at hy
    rw [List.mem_flatMap] at hy
    obtain ⟨u, hu, hy⟩ := hy
    obtain ⟨i, hi, rfl⟩ := List.getElem_of_mem hu
    exact (r4 i _ _ (List.getElem?_eq_getElem hi) (List.getElem?_eq_getElem (by omega))).one1 y hy
  rw [hl] at q1
  obtain ⟨v', w', hrun, hown, hfr, hnear⟩ := run_append_own_k (P := Try.prog) w s 41 24 i0 _ 3 56 Try.underlying41 hi0 hz0 hz1 hz2 rfl (by decide) (.slice a n c) n (trip us) q1 b m d (trip ts) (by rw [trip_len]; omega)
    (fun hp => r1.src hp) one (by unfold maxLen; omega) (by omega) hs
  obtain ⟨a', c', rfl⟩ := own_slice hown
  have hsz := hfr.size
  have hFH : ∀ k, F k ∨ H k → s ≤ k ∧ k < w.heap.size ∧ (Value.slice a n c).ownBlock ≠ some k := fun k hk => by
    rcases hk with hk | hk
    · exact h2 k hk
    · exact hH k hk
  refine ⟨a', c', w', hrun, ⟨fun k => F k ∨ H k, ⟨us ++ ts, by rw [trip_append, List.length_append, hl, hl2]; exact hown, by simp [q2, r3], ?_⟩, fun k hk => ?_⟩, hfr.below hs (fun k e => (hlt k e.symm).1)⟩
  · intro i y z e1 e2
    by_cases hi : i < cs.length
    · rw [List.getElem?_append_left (by omega)] at e1
      rw [List.getElem?_append_left hi] at e2
      exact ((q3 i y z e1 e2).frF hfr (fun k hk e => (hFH k (.inl hk)).2.2 e.symm)).mono (fun k hk => .inl hk)
    · rw [List.getElem?_append_right (by omega)] at e1 e2
      rw [q2] at e1
      exact ((r4 _ y z e1 e2).frF hfr (fun k hk e => (hFH k (.inr hk)).2.2 e.symm)).mono (fun k hk => .inr hk)
  · have q := hFH k hk
    refine ⟨q.1, by omega, fun e => ?_⟩
    rcases hnear with e2 | e2
    · rw [e2] at e; exact q.2.2 e
    · rw [e2] at e; injection e with e; omega
end
end Go.Proofs.Ytalhiedbhcklgaa.U
