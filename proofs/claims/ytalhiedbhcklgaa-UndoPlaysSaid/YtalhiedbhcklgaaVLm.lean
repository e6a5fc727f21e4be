/-
  In lead: what lies in memory while the way is gathered.
-/
import Derived.Test.YtalhiedbhcklgaaVIter
import Derived.Test.YtalhiedbhcklgaaVUp
import Derived.Test.YtalhiedbhcklgaaVList
namespace Go.Proofs.Ytalhiedbhcklgaa.U
open Go.RowKit
set_option linter.unusedVariables false
set_option linter.unusedSimpArgs false
set_option maxRecDepth 100000

/-- one change more; and where the row lies then -/
theorem fresh_ch2 {s n c : Nat} {w w1 : World} {a : Option Addr} {cs : List Ch} {u : Tri} {x : Ch} (h : FreshCs s w a n c cs) (hs : s ≤ w.heap.size) (hb : Below w.heap.size w w1) (hu : FreshC w.heap.size w1.heap.size w1 u x) (hn : n ≤ 1099511627776) :
    ∃ a' c' w', (∀ ty, (Builtin.append_ #[41, 41] ty #[.slice a n c, .slice (some ⟨w1.heap.size, 0, none⟩) 1 1]).run Try.prog (w1.alloc (.cells #[u.1, u.2.1, u.2.2] 24)) = .ok (.slice a' (n + 1) c') w') ∧
      FreshCs s w' a' (n + 1) c' (cs ++ [x]) ∧ Fr (fun k => some k = (Value.slice a n c).ownBlock) w w' ∧ ((Value.slice a' (n + 1) c').ownBlock = (Value.slice a n c).ownBlock ∨ (Value.slice a' (n + 1) c').ownBlock = some (w1.heap.size + 1)) := by
  have hl := h.len
  obtain ⟨us, th, h1, h2, h3, h4⟩ := h
  have h11 := own_fr h1 (Fr.of_below (fun _ => False) hb) (fun _ _ h => h)
  obtain ⟨i0, hi0, hz0, hz1, hz2⟩ := info_parts infoC
  obtain ⟨w2, hw2⟩ : ∃ w2, w1.alloc (.cells #[u.1, u.2.1, u.2.2] 24) = w2 := ⟨_, rfl⟩
  have hb2 : Below w1.heap.size w1 w2 := by rw [← hw2]; exact (Below.refl _ _).alloc (Nat.le_refl _) _
  have hg2 : w2.heap[w1.heap.size]? = some (.cells #[u.1, u.2.1, u.2.2] 24 (0, 0)) := by rw [← hw2]; exact heap_alloc_new w1 _
  have hsz2 : w2.heap.size = w1.heap.size + 1 := by rw [← hw2]; simp
  have h12 := own_fr h11 (Fr.of_below (fun _ => False) hb2) (fun _ _ h => h)
  have hsz1 := hb.size
  obtain ⟨v', w', hrun, hown, hfr, hnear⟩ := run_append_own_k (P := Try.prog) w2 s 41 24 i0 _ 3 56 Try.underlying41 hi0 hz0 hz1 hz2 rfl (by decide) (.slice a n c) n (trip us) h12 (some ⟨w1.heap.size, 0, none⟩) 1 1 (triL u) rfl
    (fun _ => ⟨_, rfl, fun j y hy => by rw [add_lit, cell_row hg2, Nat.zero_add]; simpa [triL] using hy⟩) hu.one1 (by unfold maxLen; omega) (by omega) (by omega)
  obtain ⟨a', c', rfl⟩ := own_slice hown
  have hkr := keepT_row h12 hfr
  have k1 : KeepT 24 w1 w' := (keepT_below hb2).trans hkr
  have k0 : KeepT 24 w w' := (keepT_below hb).trans k1
  have hsz' := hfr.size
  refine ⟨a', c', w', by rw [hw2]; exact hrun, ⟨us ++ [u], fun i => if i < n then th i else if i = n then w.heap.size else w1.heap.size, by rw [trip_snoc]; exact hown, by simp [h2], fun i => ?_, ?_⟩, (Fr.of_below _ (hb.trans (hb2.mono hb.size))).trans hfr (fun _ _ h => h), by rw [← hsz2]; exact hnear⟩
  · have q := h3 i
    have q2 := h3 (i + 1)
    dsimp only
    by_cases c1 : i < n
    · rw [if_pos c1]
      by_cases c2 : i + 1 < n
      · rw [if_pos c2]; omega
      · rw [if_neg c2, if_pos (by omega)]; omega
    · rw [if_neg c1, if_neg (by omega : ¬ i + 1 < n), if_neg (by omega : ¬ i + 1 = n)]
      by_cases c3 : i = n
      · rw [if_pos c3]; omega
      · rw [if_neg c3]; omega
  · intro i y z e1 e2
    dsimp only
    by_cases hi : i < cs.length
    · rw [List.getElem?_append_left (by omega)] at e1
      rw [List.getElem?_append_left hi] at e2
      have q := (h4 i y z e1 e2).keep k0
      rw [if_pos (by omega)]
      by_cases c2 : i + 1 < n
      · rw [if_pos c2]; exact q
      · rw [if_neg c2, if_pos (by omega)]
        exact q.mono (h3 (i + 1)).2.2
    · have hil := (List.getElem?_eq_some_iff.1 e2).1
      simp only [List.length_append, List.length_cons, List.length_nil] at hil
      have hi0 : i = cs.length := by omega
      subst hi0
      rw [List.getElem?_append_right (by omega), h2] at e1
      rw [List.getElem?_append_right (by omega)] at e2
      simp at e1 e2
      subst e1 e2
      rw [if_neg (by omega), if_pos (by omega), if_neg (by omega), if_neg (by omega)]
      exact hu.keep k1
theorem own_keepC {e : TypeId} {w w' : World} {B s n : Nat} {v : Value} {xs : List Value} (h : w.ownsRow B e s v n xs) (hk : KeepC w w') : w'.ownsRow B e s v n xs :=
  own_block h (fun k ek => by obtain ⟨cur, hc⟩ := own_heap h ek; exact hk k cur e _ hc)
theorem FreshR.keepC {lo hi n c : Nat} {w w' : World} {a : Option Addr} {L : List (List Int)} (h : FreshR lo hi w a n c L) (hk : KeepC w w') : FreshR lo hi w' a n c L := by
  obtain ⟨vs, h1, h2, h3, h4, h5⟩ := h
  exact ⟨vs, own_keepC h1 hk, h2, fun i x hx => by obtain ⟨v, e1, e2, e3⟩ := h3 i x hx; exact ⟨v, e1, own_keepC e2 hk, e3⟩, h4, h5⟩
theorem FreshCs.keepC {s n c : Nat} {w w' : World} {a : Option Addr} {cs : List Ch} (h : FreshCs s w a n c cs) (hk : KeepC w w') (hs : w.heap.size ≤ w'.heap.size) : FreshCs s w' a n c cs := by
  obtain ⟨us, th, h1, h2, h3, h4⟩ := h
  refine ⟨us, th, own_keepC h1 hk, h2, fun i => ⟨(h3 i).1, (h3 i).2.1, Nat.le_trans (h3 i).2.2 hs⟩, fun i u x e1 e2 => ?_⟩
  obtain ⟨oa, oc, na, nc, e, r1, r2⟩ := h4 i u x e1 e2
  exact ⟨oa, oc, na, nc, e, r1.keepC hk, r2.keepC hk⟩
theorem KeepC.cells {w w' : World} (hk : KeepC w w') {k : Nat} {cur : Array Value} {t : TypeId} {z : Nat × Nat} (h : w.heap[k]? = some (.cells cur t z)) : w'.heap[k]? = some (.cells cur t z) := (hk k cur t z h).trans h
/-- rows of changes keep where only blocks of other types are turned -/
theorem FreshCs.other {s n c g : Nat} {w w' : World} {a : Option Addr} {cs : List Ch} {cur : Array Value} {t : TypeId} (h : FreshCs s w a n c cs) (hf : Fr (fun k => k = g) w w') (hg : w.heap[g]? = some (.cells cur t (0, 0))) (h1 : 24 ≠ t) (h2 : 52 ≠ t) (h3 : 21 ≠ t) : FreshCs s w' a n c cs := by
  obtain ⟨us, th, q1, q2, q3, q4⟩ := h
  have kr : ∀ {e : TypeId} {B s n : Nat} {v : Value} {xs : List Value}, e ≠ t → w.ownsRow B e s v n xs → w'.ownsRow B e s v n xs := fun hne ho => own_fr ho hf (fun k e => row_block_apart ho hg hne e)
  have kR : ∀ {lo hi n c : Nat} {a : Option Addr} {L : List (List Int)}, FreshR lo hi w a n c L → FreshR lo hi w' a n c L := by
    rintro lo hi n c a L ⟨vs, p1, p2, p3, p4, p5⟩
    exact ⟨vs, kr h2 p1, p2, fun i x hx => by obtain ⟨v, e1, e2, e3⟩ := p3 i x hx; exact ⟨v, e1, kr h3 e2, e3⟩, p4, p5⟩
  refine ⟨us, th, kr h1 q1, q2, fun i => ⟨(q3 i).1, (q3 i).2.1, Nat.le_trans (q3 i).2.2 hf.size⟩, fun i u x e1 e2 => ?_⟩
  obtain ⟨oa, oc, na, nc, e, r1, r2⟩ := q4 i u x e1 e2
  exact ⟨oa, oc, na, nc, e, kR r1, kR r2⟩

/-- the headers of groups, as the tree has them -/
def Heads (F : Nat → Prop) (w : World) (t : Tr) (hs : List Hdr) (dn : List Nat) : Prop :=
  hs.length = dn.length ∧ ∀ (i : Nat) (hd : Hdr) (d : Nat), hs[i]? = some hd → dn[i]? = some d → hd.2.1 = (t.chs d).length ∧ RdCs F w hd.1 (t.chs d).length hd.2.2 (t.chs d) ∧ d ≠ 0 ∧ d ≤ t.nodes.length

structure LM (F : Nat → Prop) (w : World) (bt : Nat) (t : Tr) (b2 b6 f g : Nat) (da : Option Addr) (m dc : Nat) (ds : List Nat) (a b : Nat) (ws : List Ch) (ra : Option Addr) (rc : Nat) (hs : List Hdr) (dn : List Nat) (W : World) : Prop where
  bel : Below w.heap.size w W
  c2 : W.heap[b2]? = some (.cells #[.pointer (some ⟨bt, 0, none⟩)] 37 (0, 0))
  c6 : W.heap[b6]? = some (.cells #[.slice ra ws.length rc] 41 (0, 0))
  row : FreshCs w.heap.size W ra ws.length rc ws
  cf : W.heap[f]? = some (.cells #[.int .i64 (a : Nat)] 3 (0, 0))
  cg : W.heap[g]? = some (.cells #[.int .i64 (b : Nat)] 3 (0, 0))
  fg : f ≠ g
  down : W.ownsRow w.heap.size 41 1 (.slice da m dc) m (hs.map hdrV)
  heads : Heads F w t hs dn
  apart : (Value.slice da m dc).ownBlock ≠ some b6
  nodup : ds.Nodup
  marks : ∀ D ∈ ds, w.heap.size ≤ D ∧ W.heap[D]? = some (.deferred (some []))
  low : w.heap.size ≤ b2 ∧ w.heap.size ≤ b6 ∧ w.heap.size ≤ f ∧ w.heap.size ≤ g

section
variable {P F : Nat → Prop} {w : World} {bt : Nat} {t : Tr} {b2 b6 f g : Nat} {da : Option Addr} {m dc : Nat} {ds : List Nat} {a b : Nat} {ws : List Ch} {ra : Option Addr} {rc : Nat} {hs : List Hdr} {dn : List Nat} {W W' : World}
theorem LM.mlen (h : LM F w bt t b2 b6 f g da m dc ds a b ws ra rc hs dn W) : hs.length = m ∧ dn.length = m := by
  have := h.down.1
  rw [List.length_map] at this
  have := h.heads.1
  omega
theorem LM.keepC (h : LM F w bt t b2 b6 f g da m dc ds a b ws ra rc hs dn W) (hb : Below w.heap.size w W') (hk : KeepC W W') (hs' : W.heap.size ≤ W'.heap.size) (hm : ∀ D ∈ ds, W'.heap[D]? = W.heap[D]?) : LM F w bt t b2 b6 f g da m dc ds a b ws ra rc hs dn W' where
  bel := hb
  c2 := hk.cells h.c2
  c6 := hk.cells h.c6
  row := h.row.keepC hk hs'
  cf := hk.cells h.cf
  cg := hk.cells h.cg
  fg := h.fg
  down := own_keepC h.down hk
  heads := h.heads
  apart := h.apart
  nodup := h.nodup
  marks := fun D hD => ⟨(h.marks D hD).1, (hm D hD).trans (h.marks D hD).2⟩
  low := h.low
theorem LM.below (h : LM F w bt t b2 b6 f g da m dc ds a b ws ra rc hs dn W) (hb : Below W.heap.size W W') : LM F w bt t b2 b6 f g da m dc ds a b ws ra rc hs dn W' :=
  h.keepC (h.bel.trans (hb.mono h.bel.size)) (keepC_below hb) hb.size (fun D hD => hb.block D (Array.getElem?_eq_some_iff.1 (h.marks D hD).2).1)
/-- one of the two numbers goes up -/
theorem LM.upF (h : LM F w bt t b2 b6 f g da m dc ds a b ws ra rc hs dn W) {x : Nat} (hf : Fr (fun k => k = f) W W') (hx : W'.heap[f]? = some (.cells #[.int .i64 (x : Nat)] 3 (0, 0))) : LM F w bt t b2 b6 f g da m dc ds x b ws ra rc hs dn W' where
  bel := h.bel.trans (hf.below h.bel.size (fun k e => by rw [e]; exact h.low.2.2.1))
  c2 := (hf.block b2 (heap_lt h.c2) (fun e => by have := h.c2; rw [e, h.cf] at this; simp at this)).trans h.c2
  c6 := (hf.block b6 (heap_lt h.c6) (fun e => by have := h.c6; rw [e, h.cf] at this; simp at this)).trans h.c6
  row := h.row.other hf h.cf (by decide) (by decide) (by decide)
  cf := hx
  cg := (hf.block g (heap_lt h.cg) (fun e => h.fg e.symm)).trans h.cg
  fg := h.fg
  down := own_fr h.down hf (fun k e => row_block_apart h.down h.cf (by decide) e)
  heads := h.heads
  apart := h.apart
  nodup := h.nodup
  marks := fun D hD => ⟨(h.marks D hD).1, (hf.block D (heap_lt (h.marks D hD).2) (fun e => by have := (h.marks D hD).2; rw [e, h.cf] at this; simp at this)).trans (h.marks D hD).2⟩
  low := h.low
theorem LM.upG (h : LM F w bt t b2 b6 f g da m dc ds a b ws ra rc hs dn W) {x : Nat} (hf : Fr (fun k => k = g) W W') (hx : W'.heap[g]? = some (.cells #[.int .i64 (x : Nat)] 3 (0, 0))) : LM F w bt t b2 b6 f g da m dc ds a x ws ra rc hs dn W' where
  bel := h.bel.trans (hf.below h.bel.size (fun k e => by rw [e]; exact h.low.2.2.2))
  c2 := (hf.block b2 (heap_lt h.c2) (fun e => by have := h.c2; rw [e, h.cg] at this; simp at this)).trans h.c2
  c6 := (hf.block b6 (heap_lt h.c6) (fun e => by have := h.c6; rw [e, h.cg] at this; simp at this)).trans h.c6
  row := h.row.other hf h.cg (by decide) (by decide) (by decide)
  cf := (hf.block f (heap_lt h.cf) (fun e => h.fg e)).trans h.cf
  cg := hx
  fg := h.fg
  down := own_fr h.down hf (fun k e => row_block_apart h.down h.cg (by decide) e)
  heads := h.heads
  apart := h.apart
  nodup := h.nodup
  marks := fun D hD => ⟨(h.marks D hD).1, (hf.block D (heap_lt (h.marks D hD).2) (fun e => by have := (h.marks D hD).2; rw [e, h.cg] at this; simp at this)).trans (h.marks D hD).2⟩
  low := h.low
/-- two new boxes for the next round -/
theorem LM.boxes (h : LM F w bt t b2 b6 f g da m dc ds a b ws ra rc hs dn W) : LM F w bt t b2 b6 W.heap.size (W.heap.size + 1) da m dc ds a b ws ra rc hs dn ((W.alloc (.cells #[.int .i64 (a : Nat)] 3)).alloc (.cells #[.int .i64 (b : Nat)] 3)) := by
  have hb : Below W.heap.size W ((W.alloc (.cells #[.int .i64 (a : Nat)] 3)).alloc (.cells #[.int .i64 (b : Nat)] 3)) := ((Below.refl _ _).alloc (Nat.le_refl _) _).alloc (by simp) _
  have k := h.below hb
  have hs := h.bel.size
  exact { k with
    cf := by rw [Below.heap_alloc _ _ _ (by simp), heap_alloc_new]
    cg := by have := heap_alloc_new (W.alloc (.cells #[.int .i64 (a : Nat)] 3)) (.cells #[.int .i64 (b : Nat)] 3); simpa using this
    fg := by omega
    low := ⟨h.low.1, h.low.2.1, hs, by omega⟩ }
theorem infoG : (Try.prog.info? 41).map (fun i => (i.zero, i.size, i.bytes)) = some (some (.slice none 0 0), 1, 24) := by kernel_rfl
/-- a group more on the way down -/
theorem LM.push (h : LM F w bt t b2 b6 f g da m dc ds a b ws ra rc hs dn W) {ga : Option Addr} {gc d : Nat} (hd : RdCs F w ga (t.chs d).length gc (t.chs d)) (h0 : d ≠ 0) (hdN : d ≤ t.nodes.length) (hm : m ≤ 1048576) :
    ∃ a' c' W', (∀ ty, (Builtin.append_ #[86, 86] ty #[.slice da m dc, .slice (some ⟨W.heap.size, 0, none⟩) 1 1]).run Try.prog (W.alloc (.cells #[.slice ga (t.chs d).length gc] 41)) = .ok (.slice a' (m + 1) c') W') ∧
      LM F w bt t b2 b6 f g a' (m + 1) c' ds a b ws ra rc (hs ++ [(ga, (t.chs d).length, gc)]) (dn ++ [d]) W' := by
  obtain ⟨i0, hi0, hz0, hz1, hz2⟩ := info_parts infoG
  obtain ⟨W2, hW2⟩ : ∃ W2, W.alloc (.cells #[.slice ga (t.chs d).length gc] 41) = W2 := ⟨_, rfl⟩
  have hb2 : Below W.heap.size W W2 := by rw [← hW2]; exact (Below.refl _ _).alloc (Nat.le_refl _) _
  have hg2 : W2.heap[W.heap.size]? = some (.cells #[.slice ga (t.chs d).length gc] 41 (0, 0)) := by rw [← hW2]; exact heap_alloc_new W _
  have hs2 : W2.heap.size = W.heap.size + 1 := by rw [← hW2]; simp
  have k := h.below hb2
  obtain ⟨v', W3, hrun, hown, hfr, hnear⟩ := run_append_own_k (P := Try.prog) W2 w.heap.size 86 41 i0 _ 1 24 Try.underlying86 hi0 hz0 hz1 hz2 rfl (by decide) (.slice da m dc) m (hs.map hdrV) k.down (some ⟨W.heap.size, 0, none⟩) 1 1 [.slice ga (t.chs d).length gc] rfl
    (fun _ => ⟨_, rfl, fun j y hy => by rw [add_lit, cell_row hg2, Nat.zero_add]; simpa using hy⟩) (by intro u hu; simp only [List.mem_singleton] at hu; subst hu; rfl) (by unfold maxLen; omega) (by omega) (by have := k.bel.size; omega)
  obtain ⟨a', c', rfl⟩ := own_slice hown
  have hsz := hfr.size
  have hlen := h.mlen
  have other : ∀ {x : Nat} {cur : Array Value} {ty : TypeId}, W2.heap[x]? = some (.cells cur ty (0, 0)) → 41 ≠ ty → W3.heap[x]? = some (.cells cur ty (0, 0)) := fun hx hne => (hfr.block _ (heap_lt hx) (fun e => row_block_apart k.down hx hne e.symm rfl)).trans hx
  refine ⟨a', c', W3, by rw [hW2]; exact hrun, ?_⟩
  exact {
    bel := k.bel.trans (hfr.below (by have := k.bel.size; omega) (fun x e => (k.down.lt x e.symm).1))
    c2 := other k.c2 (by decide)
    c6 := (hfr.block b6 (heap_lt k.c6) (fun e => k.apart e.symm)).trans k.c6
    row := by
      cases hob : (Value.slice da m dc).ownBlock with
      | none => exact k.row.keep ⟨hfr.os, hfr.tape, hfr.output, hfr.size, fun x hx => hfr.block x hx (fun e => by rw [hob] at e; cases e)⟩
      | some q =>
        obtain ⟨cur, hcur⟩ := own_heap k.down hob
        exact k.row.other (hfr.mono (fun x _ e => by rw [hob] at e; injection e)) hcur (by decide) (by decide) (by decide)
    cf := other k.cf (by decide)
    cg := other k.cg (by decide)
    fg := k.fg
    down := by rw [List.map_append]; exact hown
    heads := by
      refine ⟨by simp [h.heads.1], fun i hh dd e1 e2 => ?_⟩
      by_cases hi : i < hs.length
      · rw [List.getElem?_append_left hi] at e1
        rw [List.getElem?_append_left (by omega)] at e2
        exact h.heads.2 i hh dd e1 e2
      · have hil := (List.getElem?_eq_some_iff.1 e1).1
        simp only [List.length_append, List.length_cons, List.length_nil] at hil
        have hi0 : i = hs.length := by omega
        subst hi0
        rw [List.getElem?_append_right (by omega), Nat.sub_self] at e1
        rw [List.getElem?_append_right (by omega), h.heads.1, Nat.sub_self] at e2
        simp at e1 e2
        subst e1 e2
        exact ⟨rfl, hd, h0, hdN⟩
    apart := by
      rcases hnear with e | e
      · rw [e]; exact k.apart
      · rw [e]; intro e2; injection e2 with e2; have := heap_lt k.c6; omega
    nodup := k.nodup
    marks := fun D hD => ⟨(k.marks D hD).1, (hfr.block D (heap_lt (k.marks D hD).2) (fun e => by
      obtain ⟨cur, hcur⟩ := own_heap k.down e.symm
      rw [(k.marks D hD).2] at hcur
      cases hcur)).trans (k.marks D hD).2⟩
    low := k.low }
/-- a change more on the way -/
theorem LM.app {w1 : World} {x : Ch} {e : Ending} (h : LM F w bt t b2 b6 f g da m dc ds a b ws ra rc hs dn W) (hn : ws.length ≤ 1099511627776) (hp : CopP W x e w1) :
    ∃ oa oc na nc, e = .returned (.agg #[.int .i64 x.pos, .slice oa x.old.length oc, .slice na x.now.length nc]) ∧ Below W.heap.size W w1 ∧ ∃ a' c' w2, (∀ ty, (Builtin.append_ #[41, 41] ty #[.slice ra ws.length rc, .slice (some ⟨w1.heap.size, 0, none⟩) 1 1]).run Try.prog (w1.alloc (.cells #[.int .i64 x.pos, .slice oa x.old.length oc, .slice na x.now.length nc] 24)) = .ok (.slice a' (ws.length + 1) c') w2) ∧
      w2.heap[b6]? = some (.cells #[.slice ra ws.length rc] 41 (0, 0)) ∧ (∀ (y : Nat) (cur : Array Value) (ty : TypeId) (z : Nat × Nat), W.heap[y]? = some (.cells cur ty z) → ty ≠ 24 → w2.heap[y]? = W.heap[y]?) ∧
      Fr (fun k => some k = (Value.slice ra ws.length rc).ownBlock) W w2 ∧ ((Value.slice a' (ws.length + 1) c').ownBlock = (Value.slice ra ws.length rc).ownBlock ∨ ∀ k, (Value.slice a' (ws.length + 1) c').ownBlock = some k → W.heap.size ≤ k) ∧
      LM F w bt t b2 b6 f g da m dc ds a b (ws ++ [x]) a' c' hs dn (w2.setCell ⟨b6, 0, none⟩ (.slice a' (ws.length + 1) c')) := by
  have hsb := h.bel.size
  obtain ⟨oa, oc, na, nc, rfl, f1, f2, hb⟩ := hp
  obtain ⟨a', c', w2, hrun, hF, hfr, hnr⟩ := fresh_ch2 (u := (.int .i64 x.pos, .slice oa x.old.length oc, .slice na x.now.length nc)) (x := x) h.row hsb hb ⟨oa, oc, na, nc, rfl, f1, f2⟩ hn
  have hrow := h.row
  obtain ⟨us, th, hown, _⟩ := hrow
  have hsz := hfr.size
  have other : ∀ {y : Nat} {cur : Array Value} {ty : TypeId} {z : Nat × Nat}, W.heap[y]? = some (.cells cur ty z) → ty ≠ 24 → w2.heap[y]? = W.heap[y]? := fun {y cur ty z} hy hne => hfr.block y (Array.getElem?_eq_some_iff.1 hy).1 (fun e => by
    obtain ⟨c9, h9⟩ := own_heap hown e.symm
    rw [hy] at h9
    simp at h9
    exact hne h9.2.1)
  have k6 := (other h.c6 (by decide)).trans h.c6
  obtain ⟨w3, hw3⟩ : ∃ w3, w2.setCell ⟨b6, 0, none⟩ (.slice a' (ws.length + 1) c') = w3 := ⟨_, rfl⟩
  have hf3 : Fr (fun k => k = b6) w2 w3 := by rw [← hw3]; exact (Fr.refl (fun k => k = b6) w2).setCell ⟨b6, 0, none⟩ _ (fun _ => rfl)
  have hs3 : w3.heap.size = w2.heap.size := by rw [← hw3]; simp
  have o3 : ∀ {y : Nat} {cur : Array Value} {ty : TypeId}, W.heap[y]? = some (.cells cur ty (0, 0)) → ty ≠ 24 → y ≠ b6 → w3.heap[y]? = some (.cells cur ty (0, 0)) := fun hy hne hb6 => (hf3.block _ (by have := heap_lt hy; omega) hb6).trans ((other hy hne).trans hy)
  have hnear : (Value.slice a' (ws.length + 1) c').ownBlock = (Value.slice ra ws.length rc).ownBlock ∨ ∀ k, (Value.slice a' (ws.length + 1) c').ownBlock = some k → W.heap.size ≤ k := by
    rcases hnr with q | q
    · exact .inl q
    · exact .inr (fun k ek => by rw [q] at ek; injection ek with ek; have := hb.size; omega)
  refine ⟨oa, oc, na, nc, rfl, hb, a', c', w2, hrun, k6, fun y cur ty z hy hne => other hy hne, hfr, hnear, ?_⟩
  rw [hw3]
  have hlen1 : (ws ++ [x]).length = ws.length + 1 := by simp
  exact {
    bel := (h.bel.trans (hfr.below hsb (fun k e => (hown.lt k e.symm).1))).trans (hf3.below (by omega) (fun k e => by rw [e]; exact h.low.2.1))
    c2 := o3 h.c2 (by decide) (fun e => by have := h.c2; rw [e, h.c6] at this; simp at this)
    c6 := by
      rw [hlen1]
      have := heap_set k6 0 (.slice a' (ws.length + 1) c')
      rw [hw3] at this
      simpa using this
    row := by
      rw [hlen1]
      exact hF.other hf3 k6 (by decide) (by decide) (by decide)
    cf := o3 h.cf (by decide) (fun e => by have := h.cf; rw [e, h.c6] at this; simp at this)
    cg := o3 h.cg (by decide) (fun e => by have := h.cg; rw [e, h.c6] at this; simp at this)
    fg := h.fg
    down := by
      refine own_fr (own_block h.down (fun k e => ?_)) hf3 (fun k e e2 => h.apart (by rw [← e2]; exact e))
      obtain ⟨cur, hcur⟩ := own_heap h.down e
      exact other hcur (by decide)
    heads := h.heads
    apart := h.apart
    nodup := h.nodup
    marks := fun D hD => by
      have hm := (h.marks D hD).2
      refine ⟨(h.marks D hD).1, (hf3.block D (by have := heap_lt hm; omega) (fun e => by have := h.c6; rw [← e, hm] at this; cases this)).trans ((hfr.block D (heap_lt hm) (fun e => ?_)).trans hm)⟩
      obtain ⟨c9, h9⟩ := own_heap hown e.symm
      rw [hm] at h9
      cases h9
    low := h.low }
end
end Go.Proofs.Ytalhiedbhcklgaa.U
