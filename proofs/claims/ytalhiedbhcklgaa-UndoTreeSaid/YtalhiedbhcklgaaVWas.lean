/-
  What the laws of undo hold beside a tree: a row of lines that were, and the lines that are now.
-/
import Derived.Test.YtalhiedbhcklgaaVLdo
import Derived.Test.YtalhiedbhcklgaaVTo
import Derived.Test.YtalhiedbhcklgaaVSwp
import Derived.Test.YtalhiedbhcklgaaVAwake
namespace Go.Proofs.Ytalhiedbhcklgaa.U
open Go.RowKit
set_option linter.unusedVariables false
set_option linter.unusedSimpArgs false
set_option maxRecDepth 100000

theorem infoLL : (Try.prog.info? 22).map (fun i => (i.zero, i.size, i.bytes)) = some (some (.slice none 0 0), 1, 24) := by kernel_rfl
/-- a row of lines, its block the row's alone, the lines in blocks of H -/
def WasC (B : Nat) (H : Nat → Prop) (w : World) (a : Option Addr) (n c : Nat) (Ls : List (List (List Int))) : Prop :=
  ∃ vs, w.ownsRow B 22 1 (.slice a n c) n vs ∧ vs.length = Ls.length ∧ ∀ (i : Nat) (L : List (List Int)), Ls[i]? = some L → ∃ b m d, vs[i]? = some (.slice b m d) ∧ RdL H w b m d L
section
variable {B n c : Nat} {H G : Nat → Prop} {w w' : World} {a : Option Addr} {Ls : List (List (List Int))}
theorem WasC.len (h : WasC B H w a n c Ls) : Ls.length = n := by
  obtain ⟨vs, h1, h2, _⟩ := h
  have := h1.1
  omega
theorem WasC.fr (h : WasC B H w a n c Ls) (hf : Fr G w w') (hv : ∀ k, (Value.slice a n c).ownBlock = some k → ¬ G k) (hd : ∀ k, H k → ¬ G k) : WasC B H w' a n c Ls := by
  obtain ⟨vs, h1, h2, h3⟩ := h
  exact ⟨vs, own_fr h1 hf hv, h2, fun i L hL => by obtain ⟨b, m, d, e1, e2⟩ := h3 i L hL; exact ⟨b, m, d, e1, e2.frF hf hd⟩⟩
theorem WasC.mono (h : WasC B H w a n c Ls) (hg : ∀ k, H k → G k) : WasC B G w a n c Ls := by
  obtain ⟨vs, h1, h2, h3⟩ := h
  exact ⟨vs, h1, h2, fun i L hL => by obtain ⟨b, m, d, e1, e2⟩ := h3 i L hL; exact ⟨b, m, d, e1, e2.mono hg⟩⟩
theorem WasC.lt (h : WasC B H w a n c Ls) : ∀ k, (Value.slice a n c).ownBlock = some k → B ≤ k ∧ k < w.heap.size := by obtain ⟨vs, h1, _⟩ := h; exact h1.lt
end

/-- a change that waits in a block of its own -/
def PendC (H : Nat → Prop) (w : World) : Option (Nat × Ch) → Prop
  | none => True
  | some (g, c) => H g ∧ ∃ oa oc na nc, w.heap[g]? = some (.cells #[.int .i64 c.pos, .slice oa c.old.length oc, .slice na c.now.length nc] 24 (0, 0)) ∧ RdL H w oa c.old.length oc c.old ∧ RdL H w na c.now.length nc c.now
theorem PendC.fr {H G : Nat → Prop} {w w' : World} {pd : Option (Nat × Ch)} (h : PendC H w pd) (hf : Fr G w w') (hd : ∀ k, H k → ¬ G k) : PendC H w' pd := by
  cases pd with
  | none => trivial
  | some q =>
    obtain ⟨h1, oa, oc, na, nc, h2, h3, h4⟩ := h
    exact ⟨h1, oa, oc, na, nc, (hf.block _ (heap_lt h2) (hd _ h1)).trans h2, h3.frF hf hd, h4.frF hf hd⟩
theorem PendC.mono {H G : Nat → Prop} {w : World} {pd : Option (Nat × Ch)} (h : PendC H w pd) (hg : ∀ k, H k → G k) : PendC G w pd := by
  cases pd with
  | none => trivial
  | some q =>
    obtain ⟨h1, oa, oc, na, nc, h2, h3, h4⟩ := h
    exact ⟨hg _ h1, oa, oc, na, nc, h2, h3.mono hg, h4.mono hg⟩

/-- a tree, the lines that were, the lines that are now, a change that waits; all of it made since B -/
structure StB (B : Nat) (w wr : World) (bt : Nat) (T : Tr) (ra : Option Addr) (rn rc : Nat) (Ls : List (List (List Int))) (na : Option Addr) (nn nc : Nat) (N : List (List Int)) (pd : Option (Nat × Ch)) : Prop where
  ex : ∃ (P F H : Nat → Prop), TreeC P F wr bt T ∧ (∀ k, P k → B ≤ k) ∧ (∀ k, H k → B ≤ k ∧ k < wr.heap.size ∧ ¬ P k) ∧ WasC B H wr ra rn rc Ls ∧ (∀ k, (Value.slice ra rn rc).ownBlock = some k → ¬ P k ∧ ¬ H k) ∧ RdL H wr na nn nc N ∧ PendC H wr pd
  bel : Below B w wr
  le : B ≤ wr.heap.size
section
variable {B bt rn rc nn nc : Nat} {w wr w' : World} {T : Tr} {ra na : Option Addr} {Ls : List (List (List Int))} {N : List (List Int)} {pd : Option (Nat × Ch)}
/-- new memory, with other lines that are now, another change that waits -/
theorem StB.turn {na' : Option Addr} {nn' nc' : Nat} {N' : List (List Int)} {pd' : Option (Nat × Ch)} (h : StB B w wr bt T ra rn rc Ls na nn nc N pd) (hb : Below wr.heap.size wr w')
    (hn : ∀ H, RdL H w' na nn nc N → PendC H w' pd → RdL (fun k => H k ∨ (wr.heap.size ≤ k ∧ k < w'.heap.size)) w' na' nn' nc' N' ∧ PendC (fun k => H k ∨ (wr.heap.size ≤ k ∧ k < w'.heap.size)) w' pd') : StB B w w' bt T ra rn rc Ls na' nn' nc' N' pd' := by
  obtain ⟨P, F, H, h1, h2, h3, h4, h5, h6, h7⟩ := h.ex
  have hf : Fr (fun _ => False) wr w' := Fr.of_below _ hb
  have hle := h.le
  have hs := hb.size
  obtain ⟨n1, n2⟩ := hn H (h6.below hb) (h7.fr hf (fun _ _ h => h))
  refine ⟨⟨P, F, fun k => H k ∨ (wr.heap.size ≤ k ∧ k < w'.heap.size), h1.below hb, h2, fun k hk => ?_, (h4.fr hf (fun _ _ h => h) (fun _ _ h => h)).mono (fun k hk => .inl hk), fun k e => ⟨(h5 k e).1, fun hk => ?_⟩, n1, n2⟩, h.bel.trans (hb.mono h.le), Nat.le_trans h.le hb.size⟩
  · rcases hk with hk | hk
    · exact ⟨(h3 k hk).1, Nat.lt_of_lt_of_le (h3 k hk).2.1 hb.size, (h3 k hk).2.2⟩
    · exact ⟨by omega, hk.2, fun hp => by have := h1.lt k hp; omega⟩
  · rcases hk with hk | hk
    · exact (h5 k e).2 hk
    · have := (h4.lt k e).2; omega
theorem StB.below (h : StB B w wr bt T ra rn rc Ls na nn nc N pd) (hb : Below wr.heap.size wr w') : StB B w w' bt T ra rn rc Ls na nn nc N pd :=
  h.turn hb (fun H h1 h2 => ⟨h1.mono (fun k hk => .inl hk), h2.mono (fun k hk => .inl hk)⟩)
theorem StB.drop (h : StB B w wr bt T ra rn rc Ls na nn nc N pd) : StB B w wr bt T ra rn rc Ls na nn nc N none :=
  h.turn (Below.refl _ _) (fun H h1 h2 => ⟨h1.mono (fun k hk => .inl hk), trivial⟩)
/-- what a call on the tree leaves -/
theorem StB.tree (h : StB B w wr bt T ra rn rc Ls na nn nc N pd) : ∃ (P F : Nat → Prop), TreeC P F wr bt T ∧ ∀ T' w', TreeA P wr bt T' w' → StB B w w' bt T' ra rn rc Ls na nn nc N pd := by
  obtain ⟨P, F, H, h1, h2, h3, h4, h5, h6, h7⟩ := h.ex
  refine ⟨P, F, h1, fun T' w' ht => ?_⟩
  obtain ⟨P', F', q1, q2, q3⟩ := ht
  have hs := q2.size
  have hP : ∀ k, k < wr.heap.size → ¬ P k → ¬ P' k := fun k hk hn hp => by
    rcases q3 k hp with h | h
    · exact hn h
    · omega
  refine ⟨⟨P', F', H, q1, fun k hk => ?_, fun k hk => ⟨(h3 k hk).1, Nat.lt_of_lt_of_le (h3 k hk).2.1 hs, hP k (h3 k hk).2.1 (h3 k hk).2.2⟩, h4.fr q2 (fun k e => (h5 k e).1) (fun k hk => (h3 k hk).2.2), fun k e => ⟨hP k (h4.lt k e).2 (h5 k e).1, (h5 k e).2⟩, h6.frF q2 (fun k hk => (h3 k hk).2.2), h7.fr q2 (fun k hk => (h3 k hk).2.2)⟩, h.bel.trans (q2.below h.le h2), Nat.le_trans h.le hs⟩
  rcases q3 k hk with h' | h'
  · exact h2 k h'
  · exact Nat.le_trans h.le h'
/-- the law's do, of the lines that are now -/
theorem StB.do_ {G : Nat → Prop} {b : Option Addr} {m d : Nat} {cs : List Ch} {R : List (List Int)} (h : StB B w wr bt T ra rn rc Ls na nn nc N pd) (k : RdCs G wr b m d cs) (hd : DoM N cs R) (hm : m ≤ 1099511627776) :
    Calls Try.prog 37 #[.slice na nn nc, .slice b m d] wr fun e w' => ∃ a' n' c', e = .returned (.tuple #[.slice a' n' c', .bool true]) ∧ Hid (StB B w w' bt T ra rn rc Ls a' n' c' R pd) := by
  obtain ⟨P, F, H, h1, h2, h3, h4, h5, h6, h7⟩ := h.ex
  have hf0 := h
  have hf : ∀ w', Below wr.heap.size wr w' → Fr (fun _ => False) wr w' := fun w' hb => Fr.of_below _ hb
  refine (lawdo_any H G na b nn nc m d N R cs wr h6 k hd hm).mono ?_
  rintro e w' ⟨a', n', c', rfl, q1, q2⟩
  refine ⟨a', n', c', rfl, ?_⟩
  have hf := hf w' q2
  have hle := h.le
  refine ⟨⟨P, F, fun k => H k ∨ (wr.heap.size ≤ k ∧ k < w'.heap.size), h1.below q2, h2, fun k hk => ?_, (h4.fr hf (fun _ _ h => h) (fun _ _ h => h)).mono (fun k hk => .inl hk), fun k e => ⟨(h5 k e).1, fun hk => ?_⟩, q1, (h7.fr hf (fun _ _ h => h)).mono (fun k hk => .inl hk)⟩, h.bel.trans (q2.mono h.le), Nat.le_trans h.le q2.size⟩
  · rcases hk with hk | hk
    · exact ⟨(h3 k hk).1, Nat.lt_of_lt_of_le (h3 k hk).2.1 q2.size, (h3 k hk).2.2⟩
    · exact ⟨by omega, hk.2, fun hp => by have := h1.lt k hp; omega⟩
  · rcases hk with hk | hk
    · exact (h5 k e).2 hk
    · have := (h4.lt k e).2; omega
/-- the lines that are now are put behind those that were -/
theorem StB.push (h : StB B w wr bt T ra rn rc Ls na nn nc N pd) (hn : rn ≤ 1048576) :
    ∃ a' c' w', (∀ ty, (Builtin.append_ #[55, 55] ty #[.slice ra rn rc, .slice (some ⟨wr.heap.size, 0, none⟩) 1 1]).run Try.prog (wr.alloc (.cells #[.slice na nn nc] 22)) = .ok (.slice a' (rn + 1) c') w') ∧ StB B w w' bt T a' (rn + 1) c' (Ls ++ [N]) na nn nc N pd := by
  obtain ⟨P, F, H, h1, h2, h3, h4, h5, h6, h7⟩ := h.ex
  have hle := h.le
  have hlen := h4.len
  have hlt := h4.lt
  obtain ⟨vs, o1, o2, o3⟩ := h4
  obtain ⟨i0, hi0, hz0, hz1, hz2⟩ := info_parts infoLL
  obtain ⟨w2, hw2⟩ : ∃ w2, wr.alloc (.cells #[.slice na nn nc] 22) = w2 := ⟨_, rfl⟩
  have hb2 : Below wr.heap.size wr w2 := by rw [← hw2]; exact (Below.refl _ _).alloc (Nat.le_refl _) _
  have hg2 : w2.heap[wr.heap.size]? = some (.cells #[.slice na nn nc] 22 (0, 0)) := by rw [← hw2]; exact heap_alloc_new wr _
  have hsz2 : w2.heap.size = wr.heap.size + 1 := by rw [← hw2]; simp
  have h12 := own_fr o1 (Fr.of_below (fun _ => False) hb2) (fun _ _ h => h)
  obtain ⟨v', w', hrun, hown, hfr, hnear⟩ := run_append_own_k (P := Try.prog) w2 B 55 22 i0 _ 1 24 Try.underlying55 hi0 hz0 hz1 hz2 rfl (by decide) (.slice ra rn rc) rn vs h12 (some ⟨wr.heap.size, 0, none⟩) 1 1 [.slice na nn nc] rfl
    (fun _ => ⟨_, rfl, fun j y hy => by rw [add_lit, cell_row hg2, Nat.zero_add]; simpa using hy⟩) (by intro v hv; simp at hv; subst hv; rfl) (by unfold maxLen; omega) (by omega) (by omega)
  obtain ⟨a', c', rfl⟩ := own_slice hown
  have hF2 : Fr (fun k => some k = (Value.slice ra rn rc).ownBlock) wr w' := (Fr.of_below (fun k => some k = (Value.slice ra rn rc).ownBlock) hb2).trans hfr (fun _ _ h => h)
  have hs' := hF2.size
  have hHd : ∀ k, H k → ¬ some k = (Value.slice ra rn rc).ownBlock := fun k hk e => (h5 k e.symm).2 hk
  refine ⟨a', c', w', by rw [hw2]; exact hrun, ⟨P, F, H, h1.fr hF2 (fun k hk e => (h5 k e.symm).1 hk), h2, fun k hk => ⟨(h3 k hk).1, Nat.lt_of_lt_of_le (h3 k hk).2.1 hs', (h3 k hk).2.2⟩, ⟨vs ++ [.slice na nn nc], hown, by simp [o2], ?_⟩, fun k e => ?_, h6.frF hF2 hHd, h7.fr hF2 hHd⟩, h.bel.trans (hF2.below hle (fun k e => (hlt k e.symm).1)), Nat.le_trans hle hs'⟩
  · intro i L hL
    by_cases hi : i < Ls.length
    · rw [List.getElem?_append_left hi] at hL
      obtain ⟨b, m, d, e1, e2⟩ := o3 i L hL
      exact ⟨b, m, d, by rw [List.getElem?_append_left (by omega)]; exact e1, e2.frF hF2 hHd⟩
    · have hil := (List.getElem?_eq_some_iff.1 hL).1
      simp only [List.length_append, List.length_cons, List.length_nil] at hil
      obtain rfl : i = Ls.length := by omega
      rw [List.getElem?_append_right (by omega)] at hL
      simp at hL
      subst hL
      exact ⟨na, nn, nc, by rw [List.getElem?_append_right (by omega), o2]; simp, h6.frF hF2 hHd⟩
  · rcases hnear with e2 | e2
    · rw [e2] at e; exact h5 k e
    · rw [e2] at e
      injection e with e
      have hk : wr.heap.size ≤ k := by omega
      exact ⟨fun hp => by have := h1.lt k hp; omega, fun hk2 => by have := (h3 k hk2).2.1; omega⟩
/-- the i-th lines that were, read in a later world -/
theorem StB.was {W : World} {i : Nat} {L : List (List Int)} (h : StB B w wr bt T ra rn rc Ls na nn nc N pd) (hb : Below wr.heap.size wr W) (hL : Ls[i]? = some L) :
    ∃ g b m d, ra = some ⟨g, 0, none⟩ ∧ W.cell? ⟨g, i, none⟩ = some (.slice b m d) ∧ g < wr.heap.size ∧ ∃ H, RdL H W b m d L := by
  obtain ⟨P, F, H, h1, h2, h3, h4, h5, h6, h7⟩ := h.ex
  have hlen := h4.len
  obtain ⟨vs, o1, o2, o3⟩ := h4
  have hi := (List.getElem?_eq_some_iff.1 hL).1
  obtain ⟨b, m, d, e1, e2⟩ := o3 i L hL
  obtain ⟨g, rfl⟩ := own_some o1 (by omega)
  obtain ⟨c1, _, c3⟩ := own_cell o1 e1
  exact ⟨g, b, m, d, rfl, (hb.cell (p := ⟨g, i, none⟩) c3).trans c1, c3, H, e2.below hb⟩
theorem StB.lines (h : StB B w wr bt T ra rn rc Ls na nn nc N pd) : ∃ H, RdL H wr na nn nc N := by obtain ⟨P, F, H, h1, h2, h3, h4, h5, h6, h7⟩ := h.ex; exact ⟨H, h6⟩
theorem StB.wlen (h : StB B w wr bt T ra rn rc Ls na nn nc N pd) : Ls.length = rn := by obtain ⟨P, F, H, h1, h2, h3, h4, h5, h6, h7⟩ := h.ex; exact h4.len
theorem StB.cap (h : StB B w wr bt T ra rn rc Ls na nn nc N pd) : rn ≤ rc ∧ rc ≤ maxLen := by
  obtain ⟨P, F, H, h1, h2, h3, ⟨vs, h4, _⟩, h5, h6, h7⟩ := h.ex
  have := Rc.own h4
  exact ⟨this.2.1, this.2.2.1⟩
/-- the beginning -/
theorem StB.start {P F H : Nat → Prop} {wb : World} {g : Nat} {L : List (List Int)} {la : Option Addr} {ln lc : Nat} (hT : TreeC P F wb bt T) (hP : ∀ k, P k → B ≤ k) (hb : Below B w wb) (hg : wb.heap[g]? = some (.cells #[.slice la ln lc] 22 (0, 0))) (hB : B ≤ g) (hgP : ¬ P g) (hgH : ¬ H g)
    (hH : ∀ k, H k → B ≤ k ∧ k < wb.heap.size ∧ ¬ P k) (hl : RdL H wb la ln lc L) (hn : RdL H wb na nn nc N) : StB B w wb bt T (some ⟨g, 0, none⟩) 1 1 [L] na nn nc N none := by
  have hown := own_of (B := B) (n := 1) (cap := 1) (size := 1) hg hB (Nat.le_refl _) (by unfold maxLen; omega) rfl
  have hob : ∀ k, (Value.slice (some ⟨g, 0, none⟩) 1 1).ownBlock = some k → g = k := fun k e => by simpa [Value.ownBlock] using e
  refine ⟨⟨P, F, H, hT, hP, hH, ⟨_, hown, rfl, fun i L' hL => ?_⟩, fun k e => by rw [← hob k e]; exact ⟨hgP, hgH⟩, hn, trivial⟩, hb, by have := heap_lt hg; omega⟩
  cases i with
  | zero =>
    simp at hL
    subst hL
    exact ⟨la, ln, lc, rfl, hl⟩
  | succ i => simp at hL
/-- the law's fits: the change waits -/
theorem StB.fits_ {G : Nat → Prop} {sa : Option Addr} {sn sc : Nat} {M : List (List Int)} {p q : Int} {e : Bool} (h : StB B w wr bt T ra rn rc Ls na nn nc N pd) (hM : RdL G wr sa sn sc M) (hs : siz N ≤ 1048576) (hs2 : siz M ≤ 1048576) (hok : OkC (fitC N p q M)) :
    Calls Try.prog 36 #[.slice na nn nc, .agg #[.int .i64 p, .int .i64 q, .slice sa sn sc, .bool e]] wr fun e w1 => ∃ oa oc ca cc, e = .returned (.agg #[.int .i64 (fitC N p q M).pos, .slice oa (fitC N p q M).old.length oc, .slice ca (fitC N p q M).now.length cc]) ∧
      Hid (StB B w (w1.alloc (.cells #[.int .i64 (fitC N p q M).pos, .slice oa (fitC N p q M).old.length oc, .slice ca (fitC N p q M).now.length cc] 24)) bt T ra rn rc Ls na nn nc N (some (w1.heap.size, fitC N p q M))) := by
  obtain ⟨H, hl⟩ := h.lines
  refine (fits_law H G na sa nn nc sn sc N M p q e wr hl hM hs hs2).mono ?_
  rintro e' w1 hp
  obtain ⟨oa, oc, ca, cc, rfl, r1, r2, hb⟩ := cop_rd (oa := none) hok hp
  have hsz := hb.size
  obtain ⟨w2, hw2⟩ : ∃ w2, w1.alloc (.cells #[.int .i64 (fitC N p q M).pos, .slice oa (fitC N p q M).old.length oc, .slice ca (fitC N p q M).now.length cc] 24) = w2 := ⟨_, rfl⟩
  have hb2 : Below w1.heap.size w1 w2 := by rw [← hw2]; exact (Below.refl _ _).alloc (Nat.le_refl _) _
  have hg2 : w2.heap[w1.heap.size]? = some (.cells #[.int .i64 (fitC N p q M).pos, .slice oa (fitC N p q M).old.length oc, .slice ca (fitC N p q M).now.length cc] 24 (0, 0)) := by rw [← hw2]; exact heap_alloc_new w1 _
  have hlt := heap_lt hg2
  refine ⟨oa, oc, ca, cc, rfl, ?_⟩
  rw [hw2]
  refine h.turn (hb.trans (hb2.mono hsz)) (fun H h1 h2 => ⟨h1.mono (fun k hk => .inl hk), .inr ⟨hsz, hlt⟩, oa, oc, ca, cc, hg2, (r1.below hb2).mono (fun k hk => .inr ⟨hk.1, by omega⟩), (r2.below hb2).mono (fun k hk => .inr ⟨hk.1, by omega⟩)⟩)
theorem StB.pend {g : Nat} {c : Ch} (h : StB B w wr bt T ra rn rc Ls na nn nc N (some (g, c))) : ∃ oa oc ca cc, wr.cell? ⟨g, 0, none⟩ = some (.int .i64 c.pos) ∧ wr.cell? ⟨g, 1, none⟩ = some (.slice oa c.old.length oc) ∧ wr.cell? ⟨g, 2, none⟩ = some (.slice ca c.now.length cc) ∧ g < wr.heap.size := by
  obtain ⟨P, F, H, h1, h2, h3, h4, h5, h6, h7, oa, oc, ca, cc, h8, h9, h10⟩ := h.ex
  exact ⟨oa, oc, ca, cc, cell_row h8 0, cell_row h8 1, cell_row h8 2, heap_lt h8⟩
/-- the change that waits is noted -/
theorem StB.add_ {g : Nat} {c : Ch} (h : StB B w wr bt T ra rn rc Ls na nn nc N (some (g, c))) (hok : OkC c) (hlim : T.group.length < 1048576) :
    ∃ oa oc ca cc, wr.cell? ⟨g, 0, none⟩ = some (.int .i64 c.pos) ∧ wr.cell? ⟨g, 1, none⟩ = some (.slice oa c.old.length oc) ∧ wr.cell? ⟨g, 2, none⟩ = some (.slice ca c.now.length cc) ∧ g < wr.heap.size ∧
    Hid (Calls Try.prog 21 #[.pointer (some ⟨bt, 0, none⟩), .agg #[.int .i64 c.pos, .slice oa c.old.length oc, .slice ca c.now.length cc]] wr fun e w' => e = .returned (.tuple #[]) ∧ Hid (StB B w w' bt (T.add c) ra rn rc Ls na nn nc N (some (g, c)))) := by
  obtain ⟨P, F, H, h1, h2, h3, h4, h5, h6, h7, oa, oc, ca, cc, h8, h9, h10⟩ := h.ex
  have hk : ∀ T' w', TreeA P wr bt T' w' → StB B w w' bt T' ra rn rc Ls na nn nc N (some (g, c)) := by
    intro T' w' ht
    obtain ⟨P', F', q1, q2, q3⟩ := ht
    have hs := q2.size
    have hP : ∀ k, k < wr.heap.size → ¬ P k → ¬ P' k := fun k hk hn hp => by
      rcases q3 k hp with h | h
      · exact hn h
      · omega
    have hp7 : PendC H wr (some (g, c)) := ⟨h7, oa, oc, ca, cc, h8, h9, h10⟩
    refine ⟨⟨P', F', H, q1, fun k hk => ?_, fun k hk => ⟨(h3 k hk).1, Nat.lt_of_lt_of_le (h3 k hk).2.1 hs, hP k (h3 k hk).2.1 (h3 k hk).2.2⟩, h4.fr q2 (fun k e => (h5 k e).1) (fun k hk => (h3 k hk).2.2), fun k e => ⟨hP k (h4.lt k e).2 (h5 k e).1, (h5 k e).2⟩, h6.frF q2 (fun k hk => (h3 k hk).2.2), hp7.fr q2 (fun k hk => (h3 k hk).2.2)⟩, h.bel.trans (q2.below h.le h2), Nat.le_trans h.le hs⟩
    rcases q3 k hk with h' | h'
    · exact h2 k h'
    · exact Nat.le_trans h.le h'
  refine ⟨oa, oc, ca, cc, cell_row h8 0, cell_row h8 1, cell_row h8 2, heap_lt h8, (add_any h1 oa ca oc cc c h9 h10 (fun k hk => (h3 k hk).2.2) hok hlim).mono ?_⟩
  rintro e w' ⟨rfl, hA⟩
  exact ⟨rfl, hk _ _ hA⟩
/-- the change that waits is done -/
theorem StB.doc_ {g : Nat} {c : Ch} {R : List (List Int)} (h : StB B w wr bt T ra rn rc Ls na nn nc N (some (g, c))) (hd : DoM N [c] R) :
    ∃ oa oc ca cc, wr.cell? ⟨g, 0, none⟩ = some (.int .i64 c.pos) ∧ wr.cell? ⟨g, 1, none⟩ = some (.slice oa c.old.length oc) ∧ wr.cell? ⟨g, 2, none⟩ = some (.slice ca c.now.length cc) ∧ g < wr.heap.size ∧
    Hid (Calls Try.prog 37 #[.slice na nn nc, .slice (some ⟨wr.heap.size, 0, none⟩) 1 1] (wr.alloc (.cells #[.int .i64 c.pos, .slice oa c.old.length oc, .slice ca c.now.length cc] 24)) fun e w' => ∃ a' n' c', e = .returned (.tuple #[.slice a' n' c', .bool true]) ∧ Hid (StB B w w' bt T ra rn rc Ls a' n' c' R none)) := by
  obtain ⟨P, F, H, h1, h2, h3, h4, h5, h6, h7, oa, oc, ca, cc, h8, h9, h10⟩ := h.ex
  obtain ⟨w2, hw2⟩ : ∃ w2, wr.alloc (.cells #[.int .i64 c.pos, .slice oa c.old.length oc, .slice ca c.now.length cc] 24) = w2 := ⟨_, rfl⟩
  have hb2 : Below wr.heap.size wr w2 := by rw [← hw2]; exact (Below.refl _ _).alloc (Nat.le_refl _) _
  have hg2 : w2.heap[wr.heap.size]? = some (.cells #[.int .i64 c.pos, .slice oa c.old.length oc, .slice ca c.now.length cc] 24 (0, 0)) := by rw [← hw2]; exact heap_alloc_new wr _
  refine ⟨oa, oc, ca, cc, cell_row h8 0, cell_row h8 1, cell_row h8 2, heap_lt h8, ?_⟩
  rw [hw2]
  have hrd : RdCs (fun k => H k ∨ k = wr.heap.size) w2 (some ⟨wr.heap.size, 0, none⟩) 1 1 [c] := by
    refine rdcs_lit [(.int .i64 c.pos, .slice oa c.old.length oc, .slice ca c.now.length cc)] [c] hg2 rfl ?_ (by simp)
    intro i u x e1 e2
    cases i with
    | zero =>
      simp at e1 e2
      subst e1 e2
      exact ⟨oa, oc, ca, cc, rfl, h9.below hb2, h10.below hb2⟩
    | succ i => simp at e1
  refine ((h.below hb2).do_ hrd hd (by omega)).mono ?_
  rintro e w' ⟨a', n', c', rfl, hst⟩
  exact ⟨a', n', c', rfl, hst.out.drop⟩
/-- a move, and the changes that it told, done -/
def MovedB (B : Nat) (w : World) (bt : Nat) (T' : Tr) (ra : Option Addr) (rn rc : Nat) (Ls : List (List (List Int))) (na : Option Addr) (nn nc : Nat) (N R : List (List Int)) (e : Ending) (w' : World) : Prop :=
  ∃ a m c, e = .returned (.tuple #[.slice a m c, .int .i64 0]) ∧ Hid (StB B w w' bt T' ra rn rc Ls na nn nc N none) ∧ Hid (Calls Try.prog 37 #[.slice na nn nc, .slice a m c] w' fun e w' => ∃ a' n' c', e = .returned (.tuple #[.slice a' n' c', .bool true]) ∧ Hid (StB B w w' bt T' ra rn rc Ls a' n' c' R none))
theorem StB.moved {P : Nat → Prop} {T' : Tr} {cs : List Ch} {R : List (List Int)} {e : Ending} (hk : ∀ T' w', TreeA P wr bt T' w' → StB B w w' bt T' ra rn rc Ls na nn nc N pd) (hm : MovP P wr bt T' cs e w') (hd : DoM N cs R) (hn : cs.length ≤ 1099511627776) : MovedB B w bt T' ra rn rc Ls na nn nc N R e w' := by
  obtain ⟨a, c, P', F', B', rfl, f1, f2, f3, f4, f5, f6⟩ := hm
  have hst := (hk T' w' ⟨P', F', f3, f5, f6⟩).drop
  exact ⟨a, cs.length, c, rfl, hst, hst.do_ (f1.rd hd.all) hd hn⟩
theorem StB.undo_ {T' : Tr} {cs : List Ch} {R : List (List Int)} (h : StB B w wr bt T ra rn rc Ls na nn nc N pd) (hu : T.undo = (T', some cs)) (hd : DoM N cs R) (hn : cs.length ≤ 1099511627776) :
    Calls Try.prog 27 #[.pointer (some ⟨bt, 0, none⟩)] wr (MovedB B w bt T' ra rn rc Ls na nn nc N R) := by
  obtain ⟨P, F, h1, hk⟩ := h.tree
  refine (undo_any h1).mono fun e w' hm => ?_
  rw [hu] at hm
  exact StB.moved hk hm hd hn
theorem StB.redo_ {T' : Tr} {cs : List Ch} {R : List (List Int)} (h : StB B w wr bt T ra rn rc Ls na nn nc N pd) (hu : T.redo = (T', some cs)) (hd : DoM N cs R) (hn : cs.length ≤ 1099511627776) :
    Calls Try.prog 29 #[.pointer (some ⟨bt, 0, none⟩)] wr (MovedB B w bt T' ra rn rc Ls na nn nc N R) := by
  obtain ⟨P, F, h1, hk⟩ := h.tree
  refine (redo_any h1).mono fun e w' hm => ?_
  rw [hu] at hm
  exact StB.moved hk hm hd hn
theorem StB.to_ {T' : Tr} {v : Int} {cs : List Ch} {R : List (List Int)} (h : StB B w wr bt T ra rn rc Ls na nn nc N pd) (hu : T.goTo v = (T', some cs)) (hd : DoM N cs R) (hn : cs.length ≤ 1099511627776) :
    Calls Try.prog 31 #[.pointer (some ⟨bt, 0, none⟩), .int .i64 v] wr (MovedB B w bt T' ra rn rc Ls na nn nc N R) := by
  obtain ⟨P, F, h1, hk⟩ := h.tree
  refine (to_any h1 v).mono fun e w' hm => ?_
  rw [hu] at hm
  exact StB.moved hk hm hd hn
def StuckB (B : Nat) (w : World) (bt : Nat) (T' : Tr) (ra : Option Addr) (rn rc : Nat) (Ls : List (List (List Int))) (na : Option Addr) (nn nc : Nat) (N : List (List Int)) (er : Int) (e : Ending) (w' : World) : Prop :=
  e = .returned (.tuple #[.slice none 0 0, .int .i64 er]) ∧ Hid (StB B w w' bt T' ra rn rc Ls na nn nc N none)
theorem StB.undo0 {T' : Tr} (h : StB B w wr bt T ra rn rc Ls na nn nc N pd) (hu : T.undo = (T', none)) : Calls Try.prog 27 #[.pointer (some ⟨bt, 0, none⟩)] wr (StuckB B w bt T' ra rn rc Ls na nn nc N 31) := by
  obtain ⟨P, F, h1, hk⟩ := h.tree
  refine (undo_any h1).mono fun e w' hm => ?_
  rw [hu] at hm
  exact ⟨hm.1, (hk _ _ hm.2).drop⟩
theorem StB.redo0 {T' : Tr} (h : StB B w wr bt T ra rn rc Ls na nn nc N pd) (hu : T.redo = (T', none)) : Calls Try.prog 29 #[.pointer (some ⟨bt, 0, none⟩)] wr (StuckB B w bt T' ra rn rc Ls na nn nc N 31) := by
  obtain ⟨P, F, h1, hk⟩ := h.tree
  refine (redo_any h1).mono fun e w' hm => ?_
  rw [hu] at hm
  exact ⟨hm.1, (hk _ _ hm.2).drop⟩
theorem StB.to0 {T' : Tr} {v : Int} (h : StB B w wr bt T ra rn rc Ls na nn nc N pd) (hu : T.goTo v = (T', none)) : Calls Try.prog 31 #[.pointer (some ⟨bt, 0, none⟩), .int .i64 v] wr (StuckB B w bt T' ra rn rc Ls na nn nc N 4) := by
  obtain ⟨P, F, h1, hk⟩ := h.tree
  refine (to_any h1 v).mono fun e w' hm => ?_
  rw [hu] at hm
  exact ⟨hm.1, (hk _ _ hm.2).drop⟩
theorem StB.end_ (h : StB B w wr bt T ra rn rc Ls na nn nc N pd) : Calls Try.prog 25 #[.pointer (some ⟨bt, 0, none⟩)] wr fun e w' => e = .returned (.tuple #[]) ∧ Hid (StB B w w' bt T.end_ ra rn rc Ls na nn nc N none) := by
  obtain ⟨P, F, h1, hk⟩ := h.tree
  refine (end_any h1).1.mono ?_
  rintro e w' ⟨rfl, hA⟩
  exact ⟨rfl, (hk _ _ hA).drop⟩
theorem StB.begin_ (h : StB B w wr bt T ra rn rc Ls na nn nc N pd) : Calls Try.prog 23 #[.pointer (some ⟨bt, 0, none⟩)] wr fun e w' => e = .returned (.tuple #[]) ∧ Hid (StB B w w' bt T.begin_ ra rn rc Ls na nn nc N pd) := by
  obtain ⟨P, F, h1, hk⟩ := h.tree
  refine (begin_any h1).mono ?_
  rintro e w' ⟨rfl, -, hT, hf⟩
  exact ⟨rfl, hk _ _ ⟨P, F, hT, hf, fun k hk => .inl hk⟩⟩
theorem StB.len_ (h : StB B w wr bt T ra rn rc Ls na nn nc N pd) : Calls Try.prog 34 #[.pointer (some ⟨bt, 0, none⟩)] wr fun e w' => e = .returned (.int .i64 (T.nodes.length : Nat)) ∧ wr = w' := by
  obtain ⟨P, F, h1, hk⟩ := h.tree
  exact lenT_any h1
theorem StB.at_ (h : StB B w wr bt T ra rn rc Ls na nn nc N pd) : Calls Try.prog 35 #[.pointer (some ⟨bt, 0, none⟩)] wr fun e w' => e = .returned (.int .i64 (T.here : Nat)) ∧ wr = w' := by
  obtain ⟨P, F, h1, hk⟩ := h.tree
  exact at_any h1
theorem StB.ok (h : StB B w wr bt T ra rn rc Ls na nn nc N pd) : T.Ok := by
  obtain ⟨P, F, h1, hk⟩ := h.tree
  exact h1.ok
theorem StB.lim (h : StB B w wr bt T ra rn rc Ls na nn nc N pd) : T.Lim := by
  obtain ⟨P, F, h1, hk⟩ := h.tree
  exact h1.lim
theorem StB.undo_len (h : StB B w wr bt T ra rn rc Ls na nn nc N pd) {i : Nat} (h0 : i ≠ 0) (hi : i ≤ T.nodes.length) : (T.chs i).length ≤ 1099511627776 ∧ (backC (T.chs i)).length ≤ 1099511627776 := by
  have h1 := (Tr.chs_ok h.lim h0 hi).1
  have h2 : (backC (T.chs i)).length = (T.chs i).length := by simp [backC]
  omega
theorem StB.way_len (h : StB B w wr bt T ra rn rc Ls na nn nc N pd) {a b : Nat} (ha : a ≤ T.nodes.length) (hb : b ≤ T.nodes.length) : (T.way a b).length ≤ 1099511627776 := by
  have h1 := Tr.way_len h.ok h.lim (a + b) a b (Nat.le_refl _) ha hb
  have := h.ok.1
  omega
/-- are the lines that are now those that were? -/
theorem StB.same_ {i : Nat} {L : List (List Int)} (h : StB B w wr bt T ra rn rc Ls na nn nc N pd) (hL : Ls[i]? = some L) :
    ∃ g b m d, ra = some ⟨g, 0, none⟩ ∧ wr.cell? ⟨g, i, none⟩ = some (.slice b m d) ∧ g < wr.heap.size ∧ Hid (Calls Try.prog 15 #[.slice na nn nc, .slice b m d] wr fun e w' => e = .returned (.bool (decide (N = L))) ∧ Hid (StB B w w' bt T ra rn rc Ls na nn nc N pd)) := by
  obtain ⟨H, hl⟩ := h.lines
  obtain ⟨g, b, m, d, e1, e2, e3, H2, e4⟩ := h.was (Below.refl _ _) hL
  refine ⟨g, b, m, d, e1, e2, e3, (rsame_any H H2 na b nn m nc d N L wr hl e4).mono ?_⟩
  rintro e w' ⟨rfl, hb⟩
  exact ⟨rfl, h.below hb⟩
theorem StB.ra_ (h : StB B w wr bt T ra rn rc Ls na nn nc N pd) (hn : 0 < rn) : ∃ g, ra = some ⟨g, 0, none⟩ := by
  obtain ⟨P, F, H, h1, h2, h3, ⟨vs, h4, _⟩, h5, h6, h7⟩ := h.ex
  exact own_some h4 hn
theorem StB.sameT {g i : Nat} (h : StB B w wr bt T (some ⟨g, 0, none⟩) rn rc Ls na nn nc N pd) (hL : Ls[i]? = some N) :
    ∃ b m d, wr.cell? ⟨g, i, none⟩ = some (.slice b m d) ∧ g < wr.heap.size ∧ Hid (Calls Try.prog 15 #[.slice na nn nc, .slice b m d] wr fun e w' => e = .returned (.bool true) ∧ Hid (StB B w w' bt T (some ⟨g, 0, none⟩) rn rc Ls na nn nc N pd)) := by
  obtain ⟨g', b, m, d, e, h1, h2, h3⟩ := h.same_ hL
  injection e with e
  injection e with e
  subst e
  refine ⟨b, m, d, h1, h2, ?_⟩
  have := h3.out
  rw [decide_eq_true rfl] at this
  exact this
end
end Go.Proofs.Ytalhiedbhcklgaa.U
