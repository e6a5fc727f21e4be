/-
  What the tree and the lines that were have to do with one another, call by call.
-/
import Derived.Test.YtalhiedbhcklgaaVBnd
import Derived.Test.YtalhiedbhcklgaaVTo
namespace Go.Proofs.Ytalhiedbhcklgaa.U
set_option linter.unusedVariables false
set_option linter.unusedSimpArgs false

/-- the lines that were are what they are at the nodes -/
structure Hst (T : Tr) (Ls : List (List (List Int))) : Prop where
  ok : T.Ok
  len : T.nodes.length + 1 = Ls.length
  sem : T.SemM (fun n => Ls.getD n [])
  ne : Ls.getD 0 [] ≠ []
theorem Hst.all_ne {T : Tr} {Ls : List (List (List Int))} (h : Hst T Ls) {n : Nat} (hn : n ≤ T.nodes.length) : Ls.getD n [] ≠ [] := Tr.semM_ne h.ok h.sem h.ne n n (Nat.le_refl _) hn
theorem getD_snoc (Ls : List (List (List Int))) (x : List (List Int)) : (fun n => (Ls ++ [x]).getD n []) = (fun n => if n = Ls.length then x else Ls.getD n []) := by
  funext n
  simp only [List.getD_eq_getElem?_getD]
  by_cases h1 : n < Ls.length
  · rw [List.getElem?_append_left h1, if_neg (by omega)]
  · rw [List.getElem?_append_right (by omega)]
    by_cases h2 : n = Ls.length
    · subst h2; simp
    · rw [if_neg h2, List.getElem?_eq_none (by simp; omega), List.getElem?_eq_none (by omega)]
theorem Tr.end_shut {T : Tr} (hg : T.group = []) (ho : T.isOpen = false) : T.end_ = T := by
  unfold Tr.end_
  rw [if_pos hg]
  cases T
  simp only at ho
  subst ho
  rfl
theorem Tr.end_new {T : Tr} (hg : T.group ≠ []) (hf : T.nodes.length < 4096) : T.end_ = ⟨T.nodes ++ [(T.here, T.group)], T.nodes.length + 1, false, []⟩ := by
  unfold Tr.end_
  rw [if_neg hg, if_neg (by omega)]
/-- a group that is closed -/
theorem Hst.end_ {T : Tr} {Ls : List (List (List Int))} {x : List (List Int)} (h : Hst T Ls) (hg : T.group ≠ []) (hf : T.nodes.length < 4096) (hx : DoM (Ls.getD T.here []) T.group x) : Hst T.end_ (Ls ++ [x]) := by
  have he := Tr.end_new hg hf
  have hok := Tr.end_ok h.ok
  refine ⟨hok, ?_, ?_, ?_⟩
  · rw [he]
    simp only [List.length_append, List.length_cons, List.length_nil]
    have := h.len
    omega
  · rw [getD_snoc, ← h.len, he]
    exact Tr.semM_app h.ok h.sem hx _ _ _
  · have h0 := h.ne
    have hl := h.len
    rw [List.getD_eq_getElem?_getD] at h0 ⊢
    rw [List.getElem?_append_left (by omega)]
    exact h0
theorem Hst.move {T : Tr} {Ls : List (List (List Int))} (h : Hst T Ls) {n : Nat} (hn : n ≤ T.nodes.length) : Hst { T with here := n } Ls := ⟨⟨h.ok.1, hn, h.ok.2.2⟩, h.len, h.sem, h.ne⟩
/-- an undo -/
theorem Hst.undo {T : Tr} {Ls : List (List (List Int))} (h : Hst T Ls) (hg : T.group = []) (ho : T.isOpen = false) (h0 : T.here ≠ 0) :
    T.undo = ({ T with here := T.up T.here }, some (backC (T.chs T.here))) ∧ DoM (Ls.getD T.here []) (backC (T.chs T.here)) (Ls.getD (T.up T.here) []) ∧ T.up T.here ≤ T.nodes.length := by
  have hle := h.ok.2.1
  have hu := Tr.up_lt h.ok h0 hle
  refine ⟨?_, (h.sem T.here h0 hle).back (h.all_ne (by omega)), by omega⟩
  unfold Tr.undo
  rw [Tr.end_shut hg ho, if_neg h0]
theorem Tr.undo_none {T : Tr} (hg : T.group = []) (ho : T.isOpen = false) (h0 : T.here = 0) : T.undo = (T, none) := by
  unfold Tr.undo
  rw [Tr.end_shut hg ho, if_pos h0]
/-- a redo, where nodes stand one upon the other -/
theorem Hst.redo {T : Tr} {Ls : List (List (List Int))} (h : Hst T Ls) (hc : T.Chain) (hg : T.group = []) (ho : T.isOpen = false) (h0 : T.here < T.nodes.length) :
    T.redo = ({ T with here := T.here + 1 }, some (T.chs (T.here + 1))) ∧ DoM (Ls.getD T.here []) (T.chs (T.here + 1)) (Ls.getD (T.here + 1) []) := by
  have hl := Tr.last_chain hc T.nodes.length (Nat.le_refl _)
  rw [if_pos h0] at hl
  refine ⟨?_, ?_⟩
  · unfold Tr.redo
    rw [Tr.end_shut hg ho, hl, if_neg (by omega)]
  · have := h.sem (T.here + 1) (by omega) (by omega)
    rw [hc (T.here + 1) (by omega) (by omega), Nat.add_sub_cancel] at this
    exact this
theorem Tr.redo_none {T : Tr} (hc : T.Chain) (hg : T.group = []) (ho : T.isOpen = false) (h0 : T.here = T.nodes.length) : T.redo = (T, none) := by
  have hl := Tr.last_chain hc T.nodes.length (Nat.le_refl _)
  rw [if_neg (by omega)] at hl
  unfold Tr.redo
  rw [Tr.end_shut hg ho, hl, if_pos rfl]
/-- to any node -/
theorem Hst.goTo {T : Tr} {Ls : List (List (List Int))} (h : Hst T Ls) (hg : T.group = []) (ho : T.isOpen = false) {n : Nat} (hn : n ≤ T.nodes.length) :
    T.goTo (n : Nat) = ({ T with here := n }, some (T.way T.here n)) ∧ DoM (Ls.getD T.here []) (T.way T.here n) (Ls.getD n []) := by
  refine ⟨?_, Tr.wayM h.ok h.sem h.ne T.here n h.ok.2.1 hn⟩
  unfold Tr.goTo
  rw [Tr.end_shut hg ho, if_neg (by omega), Int.toNat_natCast]
theorem Tr.goTo_none {T : Tr} (hg : T.group = []) (ho : T.isOpen = false) {v : Int} (hv : v < 0 ∨ (T.nodes.length : Int) < v) : T.goTo v = (T, none) := by
  unfold Tr.goTo
  rw [Tr.end_shut hg ho, if_pos hv]
/-- a change of a few lines, that fits -/
theorem fitC_M {l M : List (List Int)} {p q : Int} {b : Nat} (hl : siz l ≤ b) (hb : b ≤ 120000) (hw : wfL l) (hm : siz M ≤ 3001) (hwm : wfL M) : fitM l (fitC l p q M) ∧ siz (doC l (fitC l p q M)).1 ≤ b + 3001 ∧ (doC l (fitC l p q M)).2 = 0 ∧ (doC l (fitC l p q M)).1 ≠ [] := by
  obtain ⟨r, hr, hne⟩ := fit_ok l p q M
  obtain ⟨k, hk, hle, he, hr2, _⟩ := doC_ok hr
  have hcnt := size_count l
  have s1 : ∀ j, siz (l.take j) ≤ siz l := fun j => size_take_le l j
  have s2 : ∀ j, siz (l.drop j) ≤ siz l := fun j => by
    have := sizeN_drop_le2 (lens l) j
    unfold siz lens at *
    rw [← List.map_drop] at this
    exact this
  have hold : siz (fitC l p q M).old ≤ siz l := by
    show siz ((l.drop (fitK l p)).take (fitN l p q)) ≤ siz l
    exact Nat.le_trans (size_take_le _ _) (s2 _)
  have hnow : siz (fitC l p q M).now ≤ 3001 := by
    show siz (if l.length - fitN l p q + M.length = 0 then [[]] else M) ≤ 3001
    split
    · simp [siz, lens, sizeN]
    · exact hm
  have hwold : wfL (fitC l p q M).old := fun x hx => hw x (List.mem_of_mem_drop (List.mem_of_mem_take hx))
  have hwnow : wfL (fitC l p q M).now := by
    show wfL (if l.length - fitN l p q + M.length = 0 then [[]] else M)
    split
    · intro x hx y hy
      simp at hx
      subst hx
      cases hy
    · exact hwm
  have hsr : siz r ≤ b + 3001 := by
    have h1 : siz (l.take k) + siz (l.drop k) = siz l := by rw [← siz_append, List.take_append_drop]
    have h2 : siz ((l.drop k).take (fitC l p q M).old.length) + siz ((l.drop k).drop (fitC l p q M).old.length) = siz (l.drop k) := by rw [← siz_append, List.take_append_drop]
    rw [List.drop_drop] at h2
    rw [hr2, siz_append, siz_append]
    omega
  have hwr : wfL r := by
    intro x hx
    rw [hr2, List.mem_append, List.mem_append] at hx
    rcases hx with h | h | h
    · exact hw x (List.mem_of_mem_take h)
    · exact hwnow x h
    · exact hw x (List.mem_of_mem_drop h)
  rw [hr]
  unfold fitM
  rw [hr]
  have hkp : (fitC l p q M).pos = (fitK l p : Nat) := rfl
  have hkl := fitK_le l p
  unfold siz at hl
  refine ⟨⟨⟨by rw [hkp]; omega, by rw [hkp]; omega⟩, ⟨by unfold capM; unfold siz at *; omega, hwold⟩, ⟨by unfold capM; omega, hwnow⟩, ⟨by unfold capM siz; omega, hw⟩, ⟨by unfold capM; simp only; omega, hwr⟩⟩, hsr, rfl, hne⟩
/-- what UndoBack holds, ahead of its i-th swap -/
structure InvB (T : Tr) (Ls : List (List (List Int))) (N : List (List Int)) (o : Bool) (i : Nat) : Prop where
  hst : Hst T Ls
  chain : T.Chain
  here : T.here = T.nodes.length
  isO : T.isOpen = o
  grp : o = false → T.group = []
  grp2 : o = true → T.group ≠ [] ∧ T.nodes.length + 1 ≤ i
  now : DoM (Ls.getD T.here []) T.group N
  cnt : T.nodes.length ≤ i
  cntg : T.group.length ≤ i
  ne : N ≠ []
  sz : siz N ≤ 3001 * (i + 1)
  wf : wfL N
  i30 : i ≤ 30
theorem InvB.skip {T : Tr} {Ls : List (List (List Int))} {N : List (List Int)} {o : Bool} {i : Nat} (h : InvB T Ls N o i) (hi : i < 30) : InvB T Ls N o (i + 1) :=
  ⟨h.hst, h.chain, h.here, h.isO, h.grp, fun e => ⟨(h.grp2 e).1, by have := (h.grp2 e).2; omega⟩, h.now, by have := h.cnt; omega, by have := h.cntg; omega, h.ne, by have := h.sz; omega, h.wf, by omega⟩
theorem InvB.zero {L : List (List Int)} (hne : L ≠ []) (hs : siz L ≤ 3001) (hw : wfL L) : InvB Tr.zero [L] L false 0 :=
  ⟨⟨Tr.zero_ok, rfl, (fun n h0 hn => by simp [Tr.zero] at hn; omega), hne⟩, (fun n h0 hn => by simp [Tr.zero] at hn; omega), rfl, rfl, fun _ => rfl, (fun e => by cases e), rfl, Nat.zero_le _, Nat.zero_le _, hne, by omega, hw, by omega⟩
theorem InvB.fits {T : Tr} {Ls : List (List (List Int))} {N M : List (List Int)} {o : Bool} {i : Nat} (h : InvB T Ls N o i) (p q : Int) (hm : siz M ≤ 3001) (hwm : wfL M) : fitM N (fitC N p q M) ∧ siz (doC N (fitC N p q M)).1 ≤ 3001 * (i + 2) ∧ (doC N (fitC N p q M)).2 = 0 ∧ (doC N (fitC N p q M)).1 ≠ [] := by
  have := fitC_M (p := p) (q := q) h.sz (by have := h.i30; omega) h.wf hm hwm
  exact ⟨this.1, by have := this.2.1; omega, this.2.2.1, this.2.2.2⟩
theorem add_open_eq {T : Tr} {c : Ch} (hc : ¬ (c.old = [] ∧ c.now = [])) : T.begin_.add c = { T with isOpen := true, group := T.group ++ [c] } := by
  unfold Tr.add
  rw [if_neg hc]
  rfl
/-- a change more in the group -/
theorem InvB.add {T : Tr} {Ls : List (List (List Int))} {N : List (List Int)} {o : Bool} {i : Nat} {c : Ch} (h : InvB T Ls N o i) (hi : i < 30) (hc : ¬ (c.old = [] ∧ c.now = [])) (hf : fitM N c) (hd : (doC N c).2 = 0) (hs : siz (doC N c).1 ≤ 3001 * (i + 2)) (hne : (doC N c).1 ≠ []) : InvB (T.begin_.add c) Ls (doC N c).1 true (i + 1) := by
  rw [add_open_eq hc]
  refine ⟨⟨h.hst.ok, h.hst.len, h.hst.sem, h.hst.ne⟩, h.chain, h.here, rfl, (fun e => by cases e), fun _ => ⟨by simp, by have := h.cnt; simp only; omega⟩, ?_, by have := h.cnt; simp only; omega, by have := h.cntg; simp only [List.length_append, List.length_cons, List.length_nil]; omega, hne, hs, hf.2.2.2.2.2, by omega⟩
  exact h.now.append (DoM.one (by rw [← hd]) hf)
/-- the group is closed -/
theorem InvB.close {T : Tr} {Ls : List (List (List Int))} {N : List (List Int)} {i : Nat} (h : InvB T Ls N true i) : InvB T.end_ (Ls ++ [N]) N false i := by
  obtain ⟨hg, hcnt⟩ := h.grp2 rfl
  have hi := h.i30
  have hf : T.nodes.length < 4096 := by omega
  have he := Tr.end_new hg hf
  have hh := h.hst.end_ hg hf h.now
  have hch := Tr.end_chain h.chain h.here hg hf
  have hlen := h.hst.len
  refine ⟨hh, hch, by rw [he]; simp, by rw [he], fun _ => by rw [he], (fun e => by cases e), ?_, by rw [he]; simp only [List.length_append, List.length_cons, List.length_nil]; omega, by rw [he]; exact Nat.zero_le _, h.ne, h.sz, h.wf, hi⟩
  rw [he]
  show (Ls ++ [N]).getD (T.nodes.length + 1) [] = N
  rw [List.getD_eq_getElem?_getD, List.getElem?_append_right (by omega), hlen]
  simp
theorem getD_some {Ls : List (List (List Int))} {i : Nat} (h : i < Ls.length) : Ls[i]? = some (Ls.getD i []) := by
  rw [List.getD_eq_getElem?_getD, List.getElem?_eq_getElem h]; rfl
/-- undo, redo at a node of a chain -/
theorem Hst.undoAt {T : Tr} {Ls : List (List (List Int))} (h : Hst T Ls) (hc : T.Chain) (hg : T.group = []) (ho : T.isOpen = false) {j : Nat} (hj : j + 1 ≤ T.nodes.length) :
    Tr.undo { T with here := j + 1 } = ({ T with here := j }, some (backC (T.chs (j + 1)))) ∧ DoM (Ls.getD (j + 1) []) (backC (T.chs (j + 1))) (Ls.getD j []) := by
  have hu : T.up (j + 1) = j := by rw [hc (j + 1) (by omega) hj]; omega
  obtain ⟨q1, q2, _⟩ := (h.move hj).undo hg ho (by simp)
  have e1 : Tr.up { T with here := j + 1 } (j + 1) = j := hu
  simp only at q1 q2
  rw [e1] at q1 q2
  exact ⟨q1, q2⟩
theorem Hst.redoAt {T : Tr} {Ls : List (List (List Int))} (h : Hst T Ls) (hc : T.Chain) (hg : T.group = []) (ho : T.isOpen = false) {j : Nat} (hj : j < T.nodes.length) :
    Tr.redo { T with here := j } = ({ T with here := j + 1 }, some (T.chs (j + 1))) ∧ DoM (Ls.getD j []) (T.chs (j + 1)) (Ls.getD (j + 1) []) :=
  (h.move (by omega : j ≤ T.nodes.length)).redo (T := { T with here := j }) hc hg ho hj
theorem here_same {T : Tr} {n : Nat} (h : T.here = n) : ({ T with here := n } : Tr) = T := by
  cases T
  simp only at h
  subst h
  rfl
/-- what UndoTree holds, ahead of its i-th swap -/
structure InvT (T : Tr) (Ls : List (List (List Int))) (N : List (List Int)) (i : Nat) : Prop where
  hst : Hst T Ls
  grp : T.group = []
  isO : T.isOpen = false
  now : Ls.getD T.here [] = N
  cnt : T.nodes.length ≤ i
  sz : ∀ j, siz (Ls.getD j []) ≤ 3001 * (i + 1)
  wf : ∀ j, wfL (Ls.getD j [])
  i20 : i ≤ 20
theorem InvT.skip {T : Tr} {Ls : List (List (List Int))} {N : List (List Int)} {i : Nat} (h : InvT T Ls N i) (hi : i < 20) : InvT T Ls N (i + 1) :=
  ⟨h.hst, h.grp, h.isO, h.now, by have := h.cnt; omega, fun j => by have := h.sz j; omega, h.wf, by omega⟩
theorem InvT.zero {L : List (List Int)} (hne : L ≠ []) (hs : siz L ≤ 3001) (hw : wfL L) : InvT Tr.zero [L] L 0 := by
  refine ⟨⟨Tr.zero_ok, rfl, (fun n h0 hn => by simp [Tr.zero] at hn; omega), hne⟩, rfl, rfl, rfl, Nat.zero_le _, fun j => ?_, fun j => ?_, by omega⟩
  · cases j with
    | zero => exact (by omega : siz L ≤ 3001 * (0 + 1))
    | succ j => simp [siz, lens, sizeN]
  · cases j with
    | zero => exact hw
    | succ j => intro x hx; simp at hx
theorem InvT.fits {T : Tr} {Ls : List (List (List Int))} {N M : List (List Int)} {i : Nat} (h : InvT T Ls N i) (p q : Int) (hm : siz M ≤ 3001) (hwm : wfL M) : siz N ≤ 1048576 ∧ fitM N (fitC N p q M) ∧ siz (doC N (fitC N p q M)).1 ≤ 3001 * (i + 2) ∧ (doC N (fitC N p q M)).2 = 0 ∧ (doC N (fitC N p q M)).1 ≠ [] := by
  have h1 := h.sz T.here
  have h2 := h.wf T.here
  rw [h.now] at h1 h2
  have h3 := h.i20
  have := fitC_M (p := p) (q := q) h1 (by omega) h2 hm hwm
  exact ⟨by omega, this.1, by have := this.2.1; omega, this.2.2.1, this.2.2.2⟩
theorem add_shut_eq {T : Tr} {c : Ch} (hc : ¬ (c.old = [] ∧ c.now = [])) (hg : T.group = []) (ho : T.isOpen = false) : T.add c = Tr.end_ { T with group := [c] } := by
  unfold Tr.add
  rw [if_neg hc, ho, if_neg (by simp), hg]
  rfl
/-- a node more -/
theorem InvT.add {T : Tr} {Ls : List (List (List Int))} {N : List (List Int)} {i : Nat} {c : Ch} (h : InvT T Ls N i) (hi : i < 20) (hc : ¬ (c.old = [] ∧ c.now = [])) (hf : fitM N c) (hd : (doC N c).2 = 0) (hs : siz (doC N c).1 ≤ 3001 * (i + 2)) (hne : (doC N c).1 ≠ []) : InvT (T.add c) (Ls ++ [(doC N c).1]) (doC N c).1 (i + 1) := by
  have hcnt := h.cnt
  have hlen := h.hst.len
  have hh : Hst { T with group := [c] } Ls := ⟨h.hst.ok, h.hst.len, h.hst.sem, h.hst.ne⟩
  have hx : DoM (Ls.getD T.here []) [c] (doC N c).1 := by rw [h.now]; exact DoM.one (by rw [← hd]) hf
  have h2 := hh.end_ (T := { T with group := [c] }) (by simp) (by simp only; omega) hx
  have he := Tr.end_new (T := { T with group := [c] }) (by simp) (by simp only; omega)
  have key : ∀ j, (Ls ++ [(doC N c).1]).getD j [] = if j = Ls.length then (doC N c).1 else Ls.getD j [] := fun j => congrFun (getD_snoc Ls (doC N c).1) j
  rw [add_shut_eq hc h.grp h.isO]
  refine ⟨h2, by rw [he], by rw [he], ?_, ?_, fun j => ?_, fun j => ?_, by omega⟩
  · rw [he]
    simp only
    rw [key, if_pos hlen]
  · rw [he]
    simp only [List.length_append, List.length_cons, List.length_nil]
    omega
  · rw [key]
    split
    · exact hs
    · have := h.sz j; omega
  · rw [key]
    split
    · exact hf.2.2.2.2.2
    · exact h.wf j
theorem InvT.go {T : Tr} {Ls : List (List (List Int))} {N : List (List Int)} {i n : Nat} (h : InvT T Ls N i) (hn : n ≤ T.nodes.length) : InvT { T with here := n } Ls (Ls.getD n []) i :=
  ⟨h.hst.move hn, h.grp, h.isO, rfl, h.cnt, h.sz, h.wf, h.i20⟩
end Go.Proofs.Ytalhiedbhcklgaa.U
