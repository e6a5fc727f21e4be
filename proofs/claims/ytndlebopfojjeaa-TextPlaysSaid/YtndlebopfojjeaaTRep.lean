/-
  The contract of lengths.replace.
-/
import Derived.Test.YtndlebopfojjeaaTBlk
import Derived.Test.YtndlebopfojjeaaTCat
import Derived.Test.YtndlebopfojjeaaTLine
import Derived.Deep.RegionWith
namespace Go.Proofs.Ytndlebopfojjeaa.U
open Go.RowKit
set_option linter.unusedVariables false
set_option linter.unusedSimpArgs false
set_option maxRecDepth 100000

theorem find_take {bs : List (List Nat)} {i f h : Nat} (hi : i ≤ bs.flatten.length) (hf : findB bs i = (f, h)) : bs.flatten.take i = (bs.take f).flatten ++ (bs.getD f []).take h := by
  obtain ⟨h1, h2, h3, h4⟩ := findB_spec bs i hi
  rw [hf] at h1 h2 h3 h4
  simp only at h1 h2 h3 h4
  by_cases e : f < bs.length
  · have hb : bs[f]? = some bs[f] := List.getElem?_eq_getElem e
    rw [List.getD_eq_getElem?_getD, hb, Option.getD_some] at h3 ⊢
    have := h3 e
    rw [flat_cut bs f, flat_at hb, ← h2, List.take_append, List.take_of_length_le (by omega), show (bs.take f).flatten.length + h - (bs.take f).flatten.length = h from by omega, List.take_append_of_le_length (by omega)]
  · have e2 : f = bs.length := by omega
    have := h4 e2
    subst e2
    rw [this, List.take_zero, List.append_nil]
    rw [List.take_length] at h2 ⊢
    exact List.take_of_length_le (by omega)
theorem find_drop {bs : List (List Nat)} {i f h : Nat} (hi : i ≤ bs.flatten.length) (hf : findB bs i = (f, h)) : bs.flatten.drop i = (bs.getD f []).drop h ++ (bs.drop (f + 1)).flatten := by
  obtain ⟨h1, h2, h3, h4⟩ := findB_spec bs i hi
  rw [hf] at h1 h2 h3 h4
  simp only at h1 h2 h3 h4
  by_cases e : f < bs.length
  · have hb : bs[f]? = some bs[f] := List.getElem?_eq_getElem e
    rw [List.getD_eq_getElem?_getD, hb, Option.getD_some] at h3 ⊢
    have := h3 e
    rw [flat_cut bs f, flat_at hb, ← h2, List.drop_append, List.drop_eq_nil_of_le (by omega), List.nil_append, show (bs.take f).flatten.length + h - (bs.take f).flatten.length = h from by omega, List.drop_append_of_le_length (by omega)]
  · have e2 : f = bs.length := by omega
    subst e2
    rw [List.take_length] at h2
    have := h4 rfl
    have e1 : bs.flatten.drop i = [] := List.drop_eq_nil_of_le (by omega)
    have e2 : bs.drop (bs.length + 1) = [] := List.drop_eq_nil_of_le (by omega)
    have e3 : bs.getD bs.length [] = [] := by rw [List.getD_eq_getElem?_getD, List.getElem?_eq_none (by omega)]; rfl
    rw [e1, e2, e3]
    simp
theorem find_lt {bs : List (List Nat)} {i j f h t l : Nat} (hij : i < j) (hj : j ≤ bs.flatten.length) (hf : findB bs i = (f, h)) (ht : findB bs j = (t, l)) : f < t ∨ (f = t ∧ 0 < l) := by
  obtain ⟨f1, f2, f3, f4⟩ := findB_spec bs i (by omega)
  obtain ⟨t1, t2, t3, t4⟩ := findB_spec bs j hj
  rw [hf] at f1 f2 f3 f4
  rw [ht] at t1 t2 t3 t4
  simp only at f1 f2 f3 f4 t1 t2 t3 t4
  rcases Nat.lt_trichotomy f t with h | h | h
  · exact .inl h
  · subst h
    exact .inr ⟨rfl, by omega⟩
  · exfalso
    have htl : t < bs.length := by omega
    have hb : bs[t]? = some bs[t] := List.getElem?_eq_getElem htl
    have := t3 htl
    rw [List.getD_eq_getElem?_getD, hb, Option.getD_some] at this
    have e1 := congrArg List.length (flat_succ hb)
    rw [List.length_append] at e1
    have e2 : (bs.take f).flatten.length = (bs.take (t + 1)).flatten.length + ((bs.take f).drop (t + 1)).flatten.length := by
      rw [← List.length_append, ← List.flatten_append]
      congr 2
      rw [show bs.take (t + 1) = (bs.take f).take (t + 1) from by rw [List.take_take, Nat.min_eq_left (by omega)], List.take_append_drop]
    omega

/-- numbers that are put between others: HD, they, and TL are all -/
def WS (w1 : World) (G : Nat → Prop) (TG HD TL : List Nat) (wr : World) (wa : Option Addr) (wn wc : Nat) : Prop :=
  ∃ ws, RdN wr wa wn wc ws ∧ InF G wa wn ∧ 0 < wn ∧ HD ++ (ws ++ TL) = TG ∧ Below w1.heap.size w1 wr
theorem WS.len {w1 G TG HD TL wr wa wn wc} (h : WS w1 G TG HD TL wr wa wn wc) : wn ≤ TG.length ∧ 0 < wn := by
  obtain ⟨ws, h1, h2, h3, h4, h5⟩ := h
  rw [← h4]
  have := h1.len
  simp only [List.length_append]
  omega

/-- slices.Concat of two rows of numbers, laid side by side -/
theorem cat_call (wr : World) (a1 a2 : Option Addr) (n1 c1 n2 c2 : Nat) (xs ys : List Nat) (h1 : RdN wr a1 n1 c1 xs) (h2 : RdN wr a2 n2 c2 ys) (hb : n1 + n2 ≤ 1099511627776) :
    Calls Try.prog 62 #[.slice (some ⟨wr.heap.size, 0, none⟩) 2 2] (wr.alloc (.cells #[.slice a1 n1 c1, .slice a2 n2 c2] 81)) fun e w' => ∃ a c, e = .returned (.slice a (n1 + n2) c) ∧
      RdN w' a (n1 + n2) c (xs ++ ys) ∧ InF (fun k => wr.heap.size ≤ k) a (n1 + n2) ∧ Below wr.heap.size wr w' := by
  have hb0 : Below wr.heap.size wr (wr.alloc (.cells #[.slice a1 n1 c1, .slice a2 n2 c2] 81)) := (Below.refl _ _).alloc (Nat.le_refl _) _
  have hg := heap_alloc_new wr (.cells #[.slice a1 n1 c1, .slice a2 n2 c2] 81)
  refine (concatN wr.heap.size a1 a2 n1 c1 n2 c2 (nats xs) (nats ys) _ (cell_row hg 0) (cell_row hg 1) (Rc.below h1 hb0) (Rc.below h2 hb0) (nats_one _) (nats_one _) hb).mono ?_
  rintro e w' ⟨a, c, rfl, ho, hbb⟩
  refine ⟨a, c, rfl, ?_, ?_, hb0.trans (hbb.mono hb0.size)⟩
  · have := Rc.own ho
    unfold RdN
    unfold nats at this ⊢
    rw [List.map_append]
    exact this
  · exact InF.own ho (fun k e => by have := (ho.lt k e).1; simp at this; omega)

/-- what stands behind is taken in -/
theorem WS.behind {w1 : World} {G : Nat → Prop} {TG HD TL xs : List Nat} {wr : World} {wa ra : Option Addr} {wn wc rn rc : Nat} (h : WS w1 G TG HD (xs ++ TL) wr wa wn wc) (hG : ∀ k, w1.heap.size ≤ k → G k) (hrd : RdN wr ra rn rc xs) (hb : TG.length ≤ 1048576) :
    Calls Try.prog 62 #[.slice (some ⟨wr.heap.size, 0, none⟩) 2 2] (wr.alloc (.cells #[.slice wa wn wc, .slice ra rn rc] 81)) fun e w' => ∃ a c, e = .returned (.slice a (wn + rn) c) ∧
      Hid (WS w1 G TG HD TL w' a (wn + rn) c) := by
  obtain ⟨ws, h1, h2, h3, h4, h5⟩ := h
  have hl := congrArg List.length h4
  have := h1.len
  have := hrd.len
  simp only [List.length_append] at hl
  refine (cat_call wr wa ra wn wc rn rc ws xs h1 hrd (by omega)).mono ?_
  rintro e w' ⟨a, c, rfl, e1, e2, e3⟩
  refine ⟨a, c, rfl, ws ++ xs, e1, e2.mono (fun k hk => hG k (by have := h5.size; omega)), by omega, ?_, h5.trans (e3.mono h5.size)⟩
  rw [← h4]; simp
/-- what stands ahead is taken in -/
theorem WS.ahead {w1 : World} {G : Nat → Prop} {TG HD TL xs : List Nat} {wr : World} {wa ra : Option Addr} {wn wc rn rc : Nat} (h : WS w1 G TG (HD ++ xs) TL wr wa wn wc) (hG : ∀ k, w1.heap.size ≤ k → G k) (hrd : RdN wr ra rn rc xs) (hb : TG.length ≤ 1048576) :
    Calls Try.prog 62 #[.slice (some ⟨wr.heap.size, 0, none⟩) 2 2] (wr.alloc (.cells #[.slice ra rn rc, .slice wa wn wc] 81)) fun e w' => ∃ a c, e = .returned (.slice a (rn + wn) c) ∧
      Hid (WS w1 G TG HD TL w' a (rn + wn) c) := by
  obtain ⟨ws, h1, h2, h3, h4, h5⟩ := h
  have hl := congrArg List.length h4
  have := h1.len
  have := hrd.len
  simp only [List.length_append] at hl
  refine (cat_call wr ra wa rn rc wn wc xs ws hrd h1 (by omega)).mono ?_
  rintro e w' ⟨a, c, rfl, e1, e2, e3⟩
  refine ⟨a, c, rfl, xs ++ ws, e1, e2.mono (fun k hk => hG k (by have := h5.size; omega)), by omega, ?_, h5.trans (e3.mono h5.size)⟩
  rw [← h4]; simp

/-- the blocks where lists may lie -/
def FL (F : Nat → Prop) (bt : Nat) (v : Value) (k : Nat) : Prop := F k ∧ k ≠ bt ∧ v.ownBlock ≠ some k
/-- a text's lengths in memory -/
structure TxL (w : World) (F : Nat → Prop) (bt : Nat) (tv : Value) (ps : Blks) (count : Nat) : Prop where
  ex : ∃ (a : Option Addr) (c : Nat), w.heap[bt]? = some (.cells #[tv, .slice a ps.length c, .int .i64 (count : Nat)] 71 (0, 0)) ∧ w.ownsRow 0 92 2 (.slice a ps.length c) ps.length (flatB ps) ∧ (∀ k, (Value.slice a ps.length c).ownBlock = some k → F k) ∧ (ps = [] → a = none ∧ c = 0) ∧ BlkOk (FL F bt (.slice a ps.length c)) w ps
  inF : F bt
  cnt : (lists ps).flatten.length = count
  small : sizeN (lists ps).flatten ≤ 1099511627776
  lt : ∀ k, F k → k < w.heap.size
theorem TxL.fr {w w' : World} {F G : Nat → Prop} {bt tv ps count} (h : TxL w F bt tv ps count) (hf : Fr G w w') (hd : ∀ k, F k → ¬ G k) : TxL w' F bt tv ps count where
  ex := by
    obtain ⟨a, c, h1, h2, h3, h4, h5⟩ := h.ex
    exact ⟨a, c, (hf.block bt (heap_lt h1) (hd _ h.inF)).trans h1, own_fr h2 hf (fun k e => hd k (h3 k e)), h3, h4, h5.frF hf (fun k hk => hd k hk.1)⟩
  inF := h.inF
  cnt := h.cnt
  small := h.small
  lt := fun k hk => Nat.lt_of_lt_of_le (h.lt k hk) hf.size
theorem TxL.below {w w' : World} {F : Nat → Prop} {bt tv ps count} (h : TxL w F bt tv ps count) (hb : Below w.heap.size w w') : TxL w' F bt tv ps count := h.fr (Fr.of_below (fun _ => False) hb) (fun _ _ h => h)
theorem TxL.mono {w : World} {F G : Nat → Prop} {bt tv ps count} (h : TxL w F bt tv ps count) (hg : ∀ k, F k → G k) (hl : ∀ k, G k → k < w.heap.size) : TxL w G bt tv ps count where
  ex := by
    obtain ⟨a, c, h1, h2, h3, h4, h5⟩ := h.ex
    exact ⟨a, c, h1, h2, fun k e => hg k (h3 k e), h4, h5.mono (fun k hk => ⟨hg k hk.1, hk.2⟩)⟩
  inF := hg _ h.inF
  cnt := h.cnt
  small := h.small
  lt := hl
/-- the pieces of it that a walk needs -/
theorem TxL.lb {w : World} {F : Nat → Prop} {bt tv ps count} (h : TxL w F bt tv ps count) : ∃ (a : Option Addr) (c : Nat), LB w F bt a ps.length c ps count := by
  obtain ⟨a, c, h1, h2, h3, h4, h5⟩ := h.ex
  exact ⟨a, c, heap_lt h1, cell_row h1 1, Rc.own h2, h5.mono (fun k hk => hk.1), h.cnt, h.small⟩
theorem BlkOk.lt {F : Nat → Prop} {w : World} {ps : Blks} (h : BlkOk F w ps) : BlkOk (fun k => F k ∧ k < w.heap.size) w ps := fun p hp => by
  obtain ⟨h1, h2, h3⟩ := h p hp
  refine ⟨h1, fun hn ad e => ⟨h2 hn ad e, ?_⟩, h3⟩
  obtain ⟨b, off, ha, hb, _⟩ := h1.at_ hn
  rw [ha] at e
  cases e
  exact hb
def RepPost (w : World) (F N : Nat → Prop) (bt : Nat) (tv : Value) (TG : List Nat) (e : Ending) (w' : World) : Prop :=
  e = .returned (.tuple #[]) ∧ ∃ ps', TxL w' (fun k => (F k ∨ N k) ∧ k < w'.heap.size) bt tv ps' TG.length ∧ (lists ps').flatten = TG ∧ Fr F w w'

/-- what replace leaves -/
theorem rep_end {w w1 wr W2 W3 : World} {F N : Nat → Prop} {bt f t : Nat} {tv : Value} {ps qs : Blks} {TG : List Nat} {a : Option Addr} {c : Nat} {e : Ending}
    (h1 : w1.heap[bt]? = some (.cells #[tv, .slice a ps.length c, .int .i64 (TG.length : Nat)] 71 (0, 0))) (h3 : ∀ k, (Value.slice a ps.length c).ownBlock = some k → F k) (h5 : BlkOk (FL F bt (.slice a ps.length c)) w1 ps)
    (hbt : F bt) (hab : ∀ k, (Value.slice a ps.length c).ownBlock = some k → k ≠ bt) (hNF : ∀ k, N k → ¬ F k) (hNw : ∀ k, w.heap.size ≤ k → N k) (hf1 : Fr (· = bt) w w1) (hr : Below w1.heap.size w1 wr) (h2 : Below wr.heap.size wr W2) (hq : BlkOk N W2 qs) (hq0 : qs ≠ []) (hTG : (lists (ps.take f)).flatten ++ ((lists qs).flatten ++ (lists (ps.drop t)).flatten) = TG) (hsz : sizeN TG ≤ 1099511627776)
    (hp : ReplPost W2 a ps.length c (ps.take f ++ (qs ++ ps.drop t)).length (ps.take f ++ (qs ++ ps.drop t)) e W3) :
    ∃ a' c', e = .returned (.slice a' (ps.take f ++ (qs ++ ps.drop t)).length c') ∧ W3.cell? ⟨bt, 1, none⟩ = some (.slice a ps.length c) ∧ W3.frozen? ⟨bt, 1, none⟩ = false ∧ bt < W3.heap.size ∧
      RepPost w F N bt tv TG (.returned (.tuple #[])) (W3.setCell ⟨bt, 1, none⟩ (.slice a' (ps.take f ++ (qs ++ ps.drop t)).length c')) := by
  obtain ⟨v', rfl, ho, hf, hN⟩ := hp
  obtain ⟨a', c', rfl⟩ := own_slice ho
  have hb12 : Below w1.heap.size w1 W2 := hr.trans (h2.mono hr.size)
  have hW2 : W2.heap[bt]? = some (.cells #[tv, .slice a ps.length c, .int .i64 (TG.length : Nat)] 71 (0, 0)) := (hb12.block bt (heap_lt h1)).trans h1
  have hne : ∀ k, (Value.slice a ps.length c).ownBlock = some k → ¬ N k := fun k e hn => hNF k hn (h3 k e)
  have hbtl : bt < W2.heap.size := heap_lt hW2
  have hnb : ¬ own1 (.slice a ps.length c) bt := fun e => hab bt e.symm rfl
  have hW3 : W3.heap[bt]? = some (.cells #[tv, .slice a ps.length c, .int .i64 (TG.length : Nat)] 71 (0, 0)) := (hf.block bt hbtl hnb).trans hW2
  have hs3 := hf.size
  have hs2 := h2.size
  have hsr := hr.size
  have hs1 := hf1.size
  have hbB : ¬ N bt := fun hn => hNF bt hn hbt
  have hBW2 : ∀ k, W2.heap.size ≤ k → N k := fun k hk => hNw k (by omega)
  generalize hrs : ps.take f ++ (qs ++ ps.drop t) = rs at ho hN ⊢
  have hrs0 : rs ≠ [] := by
    rw [← hrs]
    simp only [ne_eq, List.append_eq_nil_iff, not_and]
    exact fun _ h => absurd h hq0
  have hlists : (lists rs).flatten = TG := by
    rw [← hTG, ← hrs]
    simp [lists]
  refine ⟨a', c', rfl, cell_row hW3 1, frozen_row hW3 1, heap_lt hW3, rfl, rs, ?_, hlists, ?_⟩
  · have hsz4 : (W3.setCell ⟨bt, 1, none⟩ (.slice a' rs.length c')).heap.size = W3.heap.size := by simp
    have hown : ∀ k, (Value.slice a' rs.length c').ownBlock = some k → (F k ∨ N k) ∧ k ≠ bt := fun k e => by
      rcases hN with h | h
      · have e2 : (Value.slice a ps.length c).ownBlock = some k := h.symm.trans e
        exact ⟨.inl (h3 k e2), hab k e2⟩
      · have := h k e
        exact ⟨.inr (hBW2 k this), by omega⟩
    refine { ex := ⟨a', c', heap_set hW3 1 _, ?_, ?_, fun e => absurd e hrs0, ?_⟩, inF := ⟨.inl hbt, by rw [hsz4]; omega⟩, cnt := by rw [hlists], small := by rw [hlists]; exact hsz, lt := fun k hk => hk.2 }
    · exact own_block ho (fun k e => Below.heap_setCell _ _ _ _ (by exact (hown k e).2))
    · exact fun k e => ⟨(hown k e).1, by rw [hsz4]; exact (ho.lt k e).2⟩
    · have hfS : Fr (fun k => k = bt) W3 (W3.setCell ⟨bt, 1, none⟩ (.slice a' rs.length c')) := (Fr.refl _ _).setCell _ _ (fun _ => rfl)
      have A : BlkOk (fun k => FL F bt (.slice a ps.length c) k ∧ k < w1.heap.size) (W3.setCell ⟨bt, 1, none⟩ (.slice a' rs.length c')) ps :=
        ((h5.lt.below hb12).frF hf (fun k hk e => hk.1.2.2 e.symm)).frF hfS (fun k hk e => hk.1.2.1 e)
      have A2 : BlkOk (fun k => N k ∧ k < W2.heap.size) (W3.setCell ⟨bt, 1, none⟩ (.slice a' rs.length c')) qs :=
        (hq.lt.frF hf (fun k hk e => hne k e.symm hk.1)).frF hfS (fun k hk e => hbB (by rw [← e]; exact hk.1))
      have A' : BlkOk (FL (fun k => (F k ∨ N k) ∧ k < (W3.setCell ⟨bt, 1, none⟩ (.slice a' rs.length c')).heap.size) bt (.slice a' rs.length c')) (W3.setCell ⟨bt, 1, none⟩ (.slice a' rs.length c')) ps :=
        A.mono (fun k hk => ⟨⟨.inl hk.1.1, by rw [hsz4]; omega⟩, hk.1.2.1, fun e => by
          rcases hN with h | h
          · exact hk.1.2.2 (h.symm.trans e)
          · have := h k e; omega⟩)
      have A2' : BlkOk (FL (fun k => (F k ∨ N k) ∧ k < (W3.setCell ⟨bt, 1, none⟩ (.slice a' rs.length c')).heap.size) bt (.slice a' rs.length c')) (W3.setCell ⟨bt, 1, none⟩ (.slice a' rs.length c')) qs :=
        A2.mono (fun k hk => ⟨⟨.inr hk.1, by rw [hsz4]; omega⟩, fun e => hbB (by rw [← e]; exact hk.1), fun e => by
          rcases hN with h | h
          · exact hne k (h.symm.trans e) hk.1
          · have := h k e; omega⟩)
      rw [← hrs] at A' A2' ⊢
      exact (A'.take f).append (A2'.append (A'.drop t))
  · have g1 : Fr F w w1 := hf1.mono (fun k _ e => by subst e; exact hbt)
    have g2 : Fr F w W2 := g1.trans (Fr.of_below (fun _ => False) hb12) (fun _ _ h => h.elim)
    have g3 : Fr F w W3 := g2.trans hf (fun k _ e => h3 k e.symm)
    exact g3.setCell _ _ (fun _ => hbt)
end Go.Proofs.Ytndlebopfojjeaa.U
