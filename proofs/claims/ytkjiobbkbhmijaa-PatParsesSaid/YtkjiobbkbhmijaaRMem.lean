/-
  A pattern's parts in memory; a reader; a list of parts.
-/
import Derived.Test.YtkjiobbkbhmijaaRPure
import Derived.Test.YtkjiobbkbhmijaaRBase
namespace Go.Proofs.Ytkjiobbkbhmijaa.U
open Go.RowKit
set_option linter.unusedVariables false
set_option linter.unusedSimpArgs false
set_option maxRecDepth 100000

def spc (st : List (Int × Int)) : List Value := st.flatMap fun s => [.int .i64 s.1, .int .i64 s.2]
theorem spc_append (a b : List (Int × Int)) : spc (a ++ b) = spc a ++ spc b := by simp [spc]
theorem spc_len : ∀ st : List (Int × Int), (spc st).length = st.length * 2
  | [] => rfl
  | s :: r => by have := spc_len r; simp only [spc, List.flatMap_cons, List.length_append, List.length_cons] at this ⊢; rw [this]; simp; omega
theorem spc_one1 (st : List (Int × Int)) : ∀ u ∈ spc st, u.oneCell' = true := by
  intro u hu
  simp only [spc, List.mem_flatMap] at hu
  obtain ⟨p, _, hu⟩ := hu
  simp only [List.mem_cons, List.not_mem_nil, or_false] at hu
  rcases hu with rfl | rfl <;> rfl

/-- the seven cells of a part -/
def rev (k r : Int) (sv : Value) (nt : Bool) (lo hi : Int) (pv : Value) : List Value := [.int .i64 k, .int .i32 r, sv, .bool nt, .int .i64 lo, .int .i64 hi, pv]
def zero7 : List Value := rev 0 0 (.slice none 0 0) false 0 0 (.slice none 0 0)
/-- seven cells of the right kinds -/
def Rev7 (v : List Value) : Prop := ∃ k r sa sn sc nt lo hi pa pn pc, v = rev k r (.slice sa sn sc) nt lo hi (.slice pa pn pc)
theorem Rev7.zero : Rev7 zero7 := ⟨0, 0, none, 0, 0, false, 0, 0, none, 0, 0, rfl⟩
theorem Rev7.len {v : List Value} (h : Rev7 v) : v.length = 7 := by obtain ⟨_, _, _, _, _, _, _, _, _, _, _, rfl⟩ := h; rfl
theorem Rev7.one1 {v : List Value} (h : Rev7 v) : ∀ u ∈ v, u.oneCell' = true := by
  obtain ⟨k, r, sa, sn, sc, nt, lo, hi, pa, pn, pc, rfl⟩ := h
  intro u hu
  simp only [rev, List.mem_cons, List.not_mem_nil, or_false] at hu
  rcases hu with rfl | rfl | rfl | rfl | rfl | rfl | rfl <;> rfl

mutual
/-- v are the cells of a part that lies in blocks of F -/
def ReAt (F : Nat → Prop) (w : World) : List Value → Re → Prop
  | v, .mk k r st nt lo hi ps => ∃ sa sc pa pc, v = rev k r (.slice sa st.length sc) nt lo hi (.slice pa ps.length pc) ∧ Rc w sa st.length sc 2 (spc st) ∧ InF F sa st.length ∧
      ∃ vs, Rc w pa ps.length pc 7 vs ∧ InF F pa ps.length ∧ PsAt F w vs ps
def PsAt (F : Nat → Prop) (w : World) : List Value → List Re → Prop
  | vs, [] => vs = []
  | vs, x :: xs => ∃ v vs', vs = v ++ vs' ∧ ReAt F w v x ∧ PsAt F w vs' xs
end
theorem ReAt.rev7 {F : Nat → Prop} {w : World} {v : List Value} {x : Re} (h : ReAt F w v x) : Rev7 v := by
  cases x
  unfold ReAt at h
  obtain ⟨sa, sc, pa, pc, rfl, _⟩ := h
  exact ⟨_, _, _, _, _, _, _, _, _, _, _, rfl⟩
mutual
theorem ReAt.frF {F G : Nat → Prop} {w w' : World} (hf : Fr G w w') (hd : ∀ k, F k → ¬ G k) : ∀ (x : Re) {v : List Value}, ReAt F w v x → ReAt F w' v x
  | .mk k r st nt lo hi ps, v, h => by
    unfold ReAt at h ⊢
    obtain ⟨sa, sc, pa, pc, rfl, h1, h2, vs, h3, h4, h5⟩ := h
    exact ⟨sa, sc, pa, pc, rfl, h1.frF h2 hf hd, h2, vs, h3.frF h4 hf hd, h4, PsAt.frF hf hd ps h5⟩
theorem PsAt.frF {F G : Nat → Prop} {w w' : World} (hf : Fr G w w') (hd : ∀ k, F k → ¬ G k) : ∀ (xs : List Re) {vs : List Value}, PsAt F w vs xs → PsAt F w' vs xs
  | [], vs, h => h
  | x :: xs, vs, h => by
    unfold PsAt at h ⊢
    obtain ⟨v, vs', rfl, h1, h2⟩ := h
    exact ⟨v, vs', rfl, ReAt.frF hf hd x h1, PsAt.frF hf hd xs h2⟩
end
mutual
theorem ReAt.mono {F G : Nat → Prop} {w : World} (hg : ∀ k, F k → G k) : ∀ (x : Re) {v : List Value}, ReAt F w v x → ReAt G w v x
  | .mk k r st nt lo hi ps, v, h => by
    unfold ReAt at h ⊢
    obtain ⟨sa, sc, pa, pc, rfl, h1, h2, vs, h3, h4, h5⟩ := h
    exact ⟨sa, sc, pa, pc, rfl, h1, h2.mono hg, vs, h3, h4.mono hg, PsAt.mono hg ps h5⟩
theorem PsAt.mono {F G : Nat → Prop} {w : World} (hg : ∀ k, F k → G k) : ∀ (xs : List Re) {vs : List Value}, PsAt F w vs xs → PsAt G w vs xs
  | [], vs, h => h
  | x :: xs, vs, h => by
    unfold PsAt at h ⊢
    obtain ⟨v, vs', rfl, h1, h2⟩ := h
    exact ⟨v, vs', rfl, ReAt.mono hg x h1, PsAt.mono hg xs h2⟩
end
theorem PsAt.append {F : Nat → Prop} {w : World} : ∀ (xs : List Re) {ys : List Re} {vs us : List Value}, PsAt F w vs xs → PsAt F w us ys → PsAt F w (vs ++ us) (xs ++ ys)
  | [], ys, vs, us, h, k => by unfold PsAt at h; subst h; exact k
  | x :: xs, ys, vs, us, h, k => by
    unfold PsAt at h
    obtain ⟨v, vs', rfl, h1, h2⟩ := h
    rw [List.cons_append, List.append_assoc]
    unfold PsAt
    exact ⟨v, vs' ++ us, rfl, h1, PsAt.append xs h2 k⟩
theorem PsAt.one {F : Nat → Prop} {w : World} {v : List Value} {x : Re} (h : ReAt F w v x) : PsAt F w v [x] := by
  unfold PsAt
  exact ⟨v, [], by simp, h, by unfold PsAt; rfl⟩
theorem PsAt.nil (F : Nat → Prop) (w : World) : PsAt F w [] [] := by unfold PsAt; rfl
theorem PsAt.len {F : Nat → Prop} {w : World} : ∀ (xs : List Re) {vs : List Value}, PsAt F w vs xs → vs.length = xs.length * 7
  | [], vs, h => by unfold PsAt at h; subst h; rfl
  | x :: xs, vs, h => by
    unfold PsAt at h
    obtain ⟨v, vs', rfl, h1, h2⟩ := h
    rw [List.length_append, h1.rev7.len, PsAt.len xs h2, List.length_cons]; omega
theorem PsAt.one1 {F : Nat → Prop} {w : World} : ∀ (xs : List Re) {vs : List Value}, PsAt F w vs xs → ∀ u ∈ vs, u.oneCell' = true
  | [], vs, h => by unfold PsAt at h; subst h; simp
  | x :: xs, vs, h => by
    unfold PsAt at h
    obtain ⟨v, vs', rfl, h1, h2⟩ := h
    intro u hu
    rcases List.mem_append.1 hu with hu | hu
    · exact h1.rev7.one1 u hu
    · exact PsAt.one1 xs h2 u hu
theorem PsAt.get {F : Nat → Prop} {w : World} : ∀ (xs : List Re) {vs : List Value} (i : Nat) {x : Re}, PsAt F w vs xs → xs[i]? = some x → ∃ v, ReAt F w v x ∧ ∀ j, j < 7 → vs[i * 7 + j]? = v[j]?
  | [], vs, i, x, h, hx => by simp at hx
  | y :: xs, vs, 0, x, h, hx => by
    unfold PsAt at h
    obtain ⟨v, vs', rfl, h1, h2⟩ := h
    simp only [List.getElem?_cons_zero, Option.some.injEq] at hx
    subst hx
    exact ⟨v, h1, fun j hj => by rw [Nat.zero_mul, Nat.zero_add, List.getElem?_append_left (by rw [h1.rev7.len]; exact hj)]⟩
  | y :: xs, vs, i + 1, x, h, hx => by
    unfold PsAt at h
    obtain ⟨v, vs', rfl, h1, h2⟩ := h
    obtain ⟨u, hu, hc⟩ := PsAt.get xs i h2 (by simpa using hx)
    refine ⟨u, hu, fun j hj => ?_⟩
    rw [← hc j hj, List.getElem?_append_right (by rw [h1.rev7.len]; omega), h1.rev7.len]
    congr 1; omega
theorem ReAt.zero (F : Nat → Prop) (w : World) : ReAt F w zero7 (Re.one 0) := by
  unfold Re.one ReAt
  exact ⟨none, 0, none, 0, rfl, Rc.none0 _ _, InF.zero _ _, [], Rc.none0 _ _, InF.zero _ _, PsAt.nil _ _⟩
theorem ReAt.simple (F : Nat → Prop) (w : World) (k r : Int) (nt : Bool) : ReAt F w (rev k r (.slice none 0 0) nt 0 0 (.slice none 0 0)) (.mk k r [] nt 0 0 []) := by
  unfold ReAt
  exact ⟨none, 0, none, 0, rfl, Rc.none0 _ _, InF.zero _ _, [], Rc.none0 _ _, InF.zero _ _, PsAt.nil _ _⟩

/-- blocks that were made between two worlds -/
def New (a b : World) (k : Nat) : Prop := a.heap.size ≤ k ∧ k < b.heap.size
/-- a part: its cells, or none where it is too large -/
def PtAt (F : Nat → Prop) (w : World) (v : List Value) (x : Re) : Prop := (x.sz ≤ 400 → ReAt F w v x) ∧ (400 < x.sz → v = zero7)
def ptV (v : List Value) (x : Re) : Value := .agg (List.toArray (v ++ [Value.int .i64 ((min x.sz 401 : Nat) : Int)]))
theorem PtAt.rev7 {F : Nat → Prop} {w : World} {v : List Value} {x : Re} (h : PtAt F w v x) : Rev7 v := by
  by_cases hx : x.sz ≤ 400
  · exact (h.1 hx).rev7
  · rw [h.2 (by omega)]; exact Rev7.zero
theorem PtAt.frF {F G : Nat → Prop} {w w' : World} {v : List Value} {x : Re} (h : PtAt F w v x) (hf : Fr G w w') (hd : ∀ k, F k → ¬ G k) : PtAt F w' v x := ⟨fun hx => ReAt.frF hf hd x (h.1 hx), h.2⟩
theorem PtAt.mono {F G : Nat → Prop} {w : World} {v : List Value} {x : Re} (h : PtAt F w v x) (hg : ∀ k, F k → G k) : PtAt G w v x := ⟨fun hx => ReAt.mono hg x (h.1 hx), h.2⟩

/-- the program's reader: at what is left of a pattern, so many groups begun, so many open -/
def RdS (w : World) (br : Nat) (p l : List Int) (n o : Nat) : Prop :=
  ∃ a cap i, w.heap[br]? = some (.cells #[.slice a p.length cap, .int .i64 (i : Nat), .int .i64 (n : Nat), .int .i64 (o : Nat)] 53 (0, 0)) ∧ Rd .i32 w a p.length cap p ∧ InF (fun k => k < br) a p.length ∧
    l = p.drop i ∧ i ≤ p.length ∧ n ≤ i ∧ p.length ≤ 1000000 ∧ o ≤ 16
theorem RdS.lt {w : World} {br : Nat} {p l : List Int} {n o : Nat} (h : RdS w br p l n o) : br < w.heap.size := by obtain ⟨_, _, _, h, _⟩ := h; exact heap_lt h
theorem RdS.fr {F : Nat → Prop} {w w' : World} {br : Nat} {p l : List Int} {n o : Nat} (h : RdS w br p l n o) (hf : Fr F w w') (hF : ∀ k, F k → br < k) : RdS w' br p l n o := by
  obtain ⟨a, cap, i, h1, h2, h3, r⟩ := h
  exact ⟨a, cap, i, (hf.block br (heap_lt h1) (fun e => by have := hF _ e; omega)).trans h1, h2.frF h3 hf (fun k hk e => by have := hF _ e; omega), h3, r⟩
theorem RdS.below {w w' : World} {br : Nat} {p l : List Int} {n o : Nat} (h : RdS w br p l n o) (hb : Below w.heap.size w w') : RdS w' br p l n o := h.fr (Fr.of_below (fun _ => False) hb) (fun _ h => h.elim)
theorem RdS.drew {w : World} {br : Nat} {p l : List Int} {n o : Nat} (h : RdS w br p l n o) (k : Nat) : RdS (w.drewN k) br p l n o := h.below (bdrewN (Below.refl _ _) _)
/-- its cells -/
theorem RdS.cells {w : World} {br : Nat} {p l : List Int} {n o : Nat} (h : RdS w br p l n o) : ∃ a cap i, w.cell? ⟨br, 0, none⟩ = some (.slice a p.length cap) ∧ w.cell? ⟨br, 1, none⟩ = some (.int .i64 (i : Nat)) ∧ w.cell? ⟨br, 2, none⟩ = some (.int .i64 (n : Nat)) ∧ w.cell? ⟨br, 3, none⟩ = some (.int .i64 (o : Nat)) ∧
    (∀ j, w.frozen? ⟨br, j, none⟩ = false) ∧ Rd .i32 w a p.length cap p ∧ InF (fun k => k < br) a p.length ∧ l = p.drop i ∧ i ≤ p.length ∧ n ≤ i ∧ p.length ≤ 1000000 ∧ o ≤ 16 := by
  obtain ⟨a, cap, i, h1, r⟩ := h
  exact ⟨a, cap, i, by rw [cell_row h1]; rfl, by rw [cell_row h1]; rfl, by rw [cell_row h1]; rfl, by rw [cell_row h1]; rfl, frozen_row h1, r⟩
/-- set on -/
theorem RdS.setAt {w w1 : World} {br : Nat} {p l : List Int} {n o : Nat} (h : RdS w br p l n o) (hb : Below w.heap.size w w1) (k : Nat) (hk : k ≤ l.length) {i : Nat} (hi : w.cell? ⟨br, 1, none⟩ = some (.int .i64 (i : Nat))) {v : Value} (hv : v = .int .i64 ((i + k : Nat) : Int)) :
    RdS (w1.setCell ⟨br, 1, none⟩ v) br p (l.drop k) n o ∧ Fr (· = br) w (w1.setCell ⟨br, 1, none⟩ v) := by
  subst hv
  have hlt := h.lt
  obtain ⟨a, cap, i', h1, h2, h3, h4, h5, h6, h7, h8⟩ := h.below hb
  obtain rfl : i = i' := by
    rw [hb.cell (p := ⟨br, 1, none⟩) hlt |>.symm, cell_row h1] at hi
    have := Value.int.inj (Option.some.inj hi)
    omega
  have hfS : Fr (· = br) w1 (w1.setCell ⟨br, 1, none⟩ (.int .i64 ((i + k : Nat) : Int))) := (Fr.refl (· = br) w1).setCell ⟨br, 1, none⟩ _ (fun _ => rfl)
  have hll : l.length = p.length - i := by rw [h4]; simp
  refine ⟨⟨a, cap, i + k, heap_set h1 1 _, h2.frF h3 hfS (fun k hk e => by omega), h3, by rw [h4, List.drop_drop], by omega, by omega, h7, h8⟩, (Fr.of_below _ hb).trans hfS (fun _ _ h => h)⟩
theorem RdS.setN {w w1 : World} {br : Nat} {p l : List Int} {n o : Nat} (h : RdS w br p l n o) (hb : Below w.heap.size w w1) (m : Nat) (hm : m + l.length ≤ p.length) {v : Value} (hv : v = .int .i64 (m : Int)) :
    RdS (w1.setCell ⟨br, 2, none⟩ v) br p l m o ∧ Fr (· = br) w (w1.setCell ⟨br, 2, none⟩ v) := by
  subst hv
  obtain ⟨a, cap, i, h1, h2, h3, h4, h5, h6, h7, h8⟩ := h.below hb
  have hfS : Fr (· = br) w1 (w1.setCell ⟨br, 2, none⟩ (.int .i64 (m : Int))) := (Fr.refl (· = br) w1).setCell ⟨br, 2, none⟩ _ (fun _ => rfl)
  have hll : l.length = p.length - i := by rw [h4]; simp
  exact ⟨⟨a, cap, i, heap_set h1 2 _, h2.frF h3 hfS (fun k hk e => by omega), h3, h4, h5, by omega, h7, h8⟩, (Fr.of_below _ hb).trans hfS (fun _ _ h => h)⟩
theorem RdS.setO {w w1 : World} {br : Nat} {p l : List Int} {n o : Nat} (h : RdS w br p l n o) (hb : Below w.heap.size w w1) (m : Nat) (hm : m ≤ 16) {v : Value} (hv : v = .int .i64 (m : Int)) :
    RdS (w1.setCell ⟨br, 3, none⟩ v) br p l n m ∧ Fr (· = br) w (w1.setCell ⟨br, 3, none⟩ v) := by
  subst hv
  obtain ⟨a, cap, i, h1, h2, h3, h4, h5, h6, h7, h8⟩ := h.below hb
  have hfS : Fr (· = br) w1 (w1.setCell ⟨br, 3, none⟩ (.int .i64 (m : Int))) := (Fr.refl (· = br) w1).setCell ⟨br, 3, none⟩ _ (fun _ => rfl)
  exact ⟨⟨a, cap, i, heap_set h1 3 _, h2.frF h3 hfS (fun k hk e => by omega), h3, h4, h5, h6, h7, hm⟩, (Fr.of_below _ hb).trans hfS (fun _ _ h => h)⟩
theorem RdS.len {w : World} {br : Nat} {p l : List Int} {n o : Nat} (h : RdS w br p l n o) : l.length ≤ p.length := by
  obtain ⟨a, cap, i, h1, h2, h3, h4, _⟩ := h; rw [h4]; simp
/-- the rune at a place -/
theorem Rd.at_ {w : World} {a : Option Addr} {n c : Nat} {p : List Int} (h : Rd .i32 w a n c p) {i : Nat} (hi : i < n) : ∃ b off, a = some ⟨b, off, none⟩ ∧ b < w.heap.size ∧ w.cell? ⟨b, off + i, none⟩ = some (.int .i32 (p.getD i 0)) := by
  obtain ⟨h1, h2, h3, h4, h6, h5⟩ := h
  obtain ⟨b, off, rfl, hc⟩ := h5 (by omega)
  exact ⟨b, off, rfl, block_lt_of_cell (hc i hi), hc i hi⟩
theorem drop_cons {p l : List Int} {i : Nat} {c : Int} (h : c :: l = p.drop i) : i < p.length ∧ p.getD i 0 = c ∧ l = p.drop (i + 1) := by
  have hl : i < p.length := by
    have := congrArg List.length h
    simp at this
    omega
  rw [List.drop_eq_getElem_cons hl] at h
  simp only [List.cons.injEq] at h
  refine ⟨hl, ?_, h.2⟩
  rw [List.getD_eq_getElem?_getD, List.getElem?_eq_getElem hl, h.1]; rfl
def errV (c : Int) : Ending := .panicked [{ v := .iface 27 (.int .i64 c), recovered := false }]

/-- a list of parts that is being made: its block q, all its parts in later blocks -/
def Lf (w : World) (q : Nat) (a : Option Addr) (k : Nat) : Prop := q < k ∧ k < w.heap.size ∧ ∀ ad, a = some ad → k ≠ ad.block
def LsAt (w : World) (q : Nat) (acc : List Re) : Prop :=
  ∃ (vs : List Value) (ps : List Re) (a : Option Addr) (c : Nat), w.heap[q]? = some (.cells #[.slice a ps.length c, .int .i64 ((min (szs acc) 401 : Nat) : Int)] 61 (0, 0)) ∧
    w.ownsRow q 26 7 (.slice a ps.length c) ps.length vs ∧ PsAt (Lf w q a) w vs ps ∧ (szs acc ≤ 400 → ps = acc) ∧ szs ps ≤ 400
theorem Re.sz_pos (x : Re) : 1 ≤ x.sz := by cases x; unfold Re.sz; omega
theorem len_szs : ∀ xs : List Re, xs.length ≤ szs xs
  | [] => Nat.zero_le _
  | x :: xs => by unfold szs; have := len_szs xs; have := x.sz_pos; simp; omega
theorem szs_append : ∀ (xs ys : List Re), szs (xs ++ ys) = szs xs + szs ys
  | [], ys => by simp [szs]
  | x :: xs, ys => by rw [List.cons_append, szs, szs, szs_append xs ys]; omega
theorem LsAt.fr {F : Nat → Prop} {w w' : World} {q : Nat} {acc : List Re} (h : LsAt w q acc) (hf : Fr F w w') (hF : ∀ k, F k → k < q) : LsAt w' q acc := by
  obtain ⟨vs, ps, a, c, h1, h2, h3, h4, h5⟩ := h
  refine ⟨vs, ps, a, c, (hf.block q (heap_lt h1) (fun e => by have := hF _ e; omega)).trans h1, own_fr h2 hf (fun k hk e => by have := (h2.lt k hk).1; have := hF _ e; omega), ?_, h4, h5⟩
  exact PsAt.mono (fun k hk => ⟨hk.1, by have := hf.size; have := hk.2.1; omega, hk.2.2⟩) ps (PsAt.frF hf (fun k hk e => by have := hF _ e; have := hk.1; omega) ps h3)
theorem LsAt.below {w w' : World} {q : Nat} {acc : List Re} (h : LsAt w q acc) (hb : Below w.heap.size w w') : LsAt w' q acc := h.fr (Fr.of_below (fun _ => False) hb) (fun _ h => h.elim)
theorem LsAt.lt {w : World} {q : Nat} {acc : List Re} (h : LsAt w q acc) : q < w.heap.size := by obtain ⟨_, _, _, _, h, _⟩ := h; exact heap_lt h
theorem LsAt.new (w : World) (q : Nat) (hg : w.heap[q]? = some (.cells #[.slice none 0 0, .int .i64 0] 61 (0, 0))) : LsAt w q [] :=
  ⟨[], [], none, 0, hg, World.ownsRow_nil _ _ _ _, PsAt.nil _ _, fun _ => rfl, by simp [szs]⟩
theorem results_cell1 {fn : Func} {p : Tmp} {ty : TypeId} (h : fn.results = #[.cell p ty]) (tmps : Array Value) (P : Program) (w : World) :
    (results fn tmps).run P w = ((asAddr (tmps.getD p undef)).run P w).andThen fun a w₁ => (loadVar ty a).run P w₁ := by
  simp only [results, h]
  simp [Sem.run_bind, Result.andThen]

theorem row7 {w : World} {b : Nat} {ty : TypeId} {v0 v1 v2 v3 v4 v5 v6 : Value} (h : w.heap[b]? = some (.cells #[v0, v1, v2, v3, v4, v5, v6] ty (0, 0))) : w.cell? ⟨b, 0, none⟩ = some v0 ∧ w.cell? ⟨b, 1, none⟩ = some v1 ∧ w.cell? ⟨b, 2, none⟩ = some v2 ∧ w.cell? ⟨b, 3, none⟩ = some v3 ∧ w.cell? ⟨b, 4, none⟩ = some v4 ∧ w.cell? ⟨b, 5, none⟩ = some v5 ∧ w.cell? ⟨b, 6, none⟩ = some v6 ∧ w.frozen? ⟨b, 0, none⟩ = false ∧ w.frozen? ⟨b, 1, none⟩ = false ∧ w.frozen? ⟨b, 2, none⟩ = false ∧ w.frozen? ⟨b, 3, none⟩ = false ∧ w.frozen? ⟨b, 4, none⟩ = false ∧ w.frozen? ⟨b, 5, none⟩ = false ∧ w.frozen? ⟨b, 6, none⟩ = false :=
  ⟨by rw [cell_row h]; rfl, by rw [cell_row h]; rfl, by rw [cell_row h]; rfl, by rw [cell_row h]; rfl, by rw [cell_row h]; rfl, by rw [cell_row h]; rfl, by rw [cell_row h]; rfl, frozen_row h 0, frozen_row h 1, frozen_row h 2, frozen_row h 3, frozen_row h 4, frozen_row h 5, frozen_row h 6⟩
theorem row8 {w : World} {b : Nat} {ty : TypeId} {v0 v1 v2 v3 v4 v5 v6 v7 : Value} (h : w.heap[b]? = some (.cells #[v0, v1, v2, v3, v4, v5, v6, v7] ty (0, 0))) : w.cell? ⟨b, 0, none⟩ = some v0 ∧ w.cell? ⟨b, 1, none⟩ = some v1 ∧ w.cell? ⟨b, 2, none⟩ = some v2 ∧ w.cell? ⟨b, 3, none⟩ = some v3 ∧ w.cell? ⟨b, 4, none⟩ = some v4 ∧ w.cell? ⟨b, 5, none⟩ = some v5 ∧ w.cell? ⟨b, 6, none⟩ = some v6 ∧ w.cell? ⟨b, 7, none⟩ = some v7 ∧ w.frozen? ⟨b, 0, none⟩ = false ∧ w.frozen? ⟨b, 1, none⟩ = false ∧ w.frozen? ⟨b, 2, none⟩ = false ∧ w.frozen? ⟨b, 3, none⟩ = false ∧ w.frozen? ⟨b, 4, none⟩ = false ∧ w.frozen? ⟨b, 5, none⟩ = false ∧ w.frozen? ⟨b, 6, none⟩ = false ∧ w.frozen? ⟨b, 7, none⟩ = false :=
  ⟨by rw [cell_row h]; rfl, by rw [cell_row h]; rfl, by rw [cell_row h]; rfl, by rw [cell_row h]; rfl, by rw [cell_row h]; rfl, by rw [cell_row h]; rfl, by rw [cell_row h]; rfl, by rw [cell_row h]; rfl, frozen_row h 0, frozen_row h 1, frozen_row h 2, frozen_row h 3, frozen_row h 4, frozen_row h 5, frozen_row h 6, frozen_row h 7⟩
theorem setCell_below {B : Nat} {a b : World} (h : Below B a b) (k i : Nat) (v : Value) (hk : B ≤ k) : Below B a (b.setCell ⟨k, i, none⟩ v) := h.setCell hk v
end Go.Proofs.Ytkjiobbkbhmijaa.U
