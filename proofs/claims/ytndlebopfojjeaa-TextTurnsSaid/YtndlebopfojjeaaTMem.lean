/-
  Rows of cells, of numbers, of rows of runes, of blocks that can be read, and where they lie.
-/
import Derived.Test.YtndlebopfojjeaaTPure
import Derived.Test.YtndlebopfojjeaaPTs
namespace Go.Proofs.Ytndlebopfojjeaa.U
open Go.RowKit
set_option linter.unusedVariables false
set_option linter.unusedSimpArgs false
set_option maxRecDepth 100000

/-- what is read lies in the blocks of F -/
def InF (F : Nat → Prop) (a : Option Addr) (n : Nat) : Prop := 0 < n → ∀ ad, a = some ad → F ad.block
theorem InF.mono {F G : Nat → Prop} {a : Option Addr} {n : Nat} (h : InF F a n) (hg : ∀ k, F k → G k) : InF G a n := fun hn ad e => hg _ (h hn ad e)
theorem InF.zero (F : Nat → Prop) (a : Option Addr) : InF F a 0 := fun h => absurd h (by omega)
theorem InF.at_ {F : Nat → Prop} {a : Option Addr} {n b off : Nat} (h : InF F a n) (hn : 0 < n) (e : a = some ⟨b, off, none⟩) : F b := h hn _ e
theorem InF.take {F : Nat → Prop} {a : Option Addr} {n m : Nat} (h : InF F a n) (hm : m ≤ n) : InF F a m := fun hp => h (by omega)
theorem add_block (ad : Addr) (j : Nat) : (ad.add j).block = ad.block := by unfold Addr.add; split <;> rfl
theorem InF.drop {F : Nat → Prop} {a : Option Addr} {n m c : Nat} (h : InF F a n) (hm : m ≤ n) : InF F (if c = m then a else a.map (·.add (m * 1))) (n - m) := by
  intro hp ad e
  split at e
  · exact h (by omega) ad e
  · cases a with
    | none => simp at e
    | some a0 =>
      simp only [Option.map_some, Option.some.injEq] at e
      subst e
      rw [add_block]
      exact h (by omega) _ rfl
theorem InF.own {F : Nat → Prop} {w : World} {B : Nat} {e : TypeId} {s : Nat} {a : Option Addr} {n c m : Nat} {xs : List Value} (h : w.ownsRow B e s (.slice a n c) m xs) (hk : ∀ k, (Value.slice a n c).ownBlock = some k → F k) : InF F a n := by
  intro hn ad e
  obtain ⟨g, rfl⟩ := own_some h hn
  cases e
  exact hk g rfl
theorem Rd.frF {F G : Nat → Prop} {k w w' a n c xs} (h : Rd k w a n c xs) (hi : InF F a n) (hf : Fr G w w') (hd : ∀ k, F k → ¬ G k) : Rd k w' a n c xs := by
  obtain ⟨h1, h2, h3, h4, h6, h5⟩ := h
  refine ⟨h1, h2, h3, h4, h6, fun hp => ?_⟩
  obtain ⟨b, off, ha, hc⟩ := h5 hp
  refine ⟨b, off, ha, fun i hlt => ?_⟩
  rw [World.cell?_of_block (a := ⟨b, off + i, none⟩) (hf.block b (block_lt_of_cell (hc i hlt)) (hd b (hi.at_ hp ha)))]
  exact hc i hlt

/-- A slice of elements of sz cells that can be read. -/
def Rc (w : World) (a : Option Addr) (len cap sz : Nat) (xs : List Value) : Prop :=
  xs.length = len * sz ∧ len ≤ cap ∧ cap ≤ maxLen ∧ (a = none → cap = 0) ∧
  (0 < len → ∃ b off, a = some ⟨b, off, none⟩ ∧ b < w.heap.size ∧ ∀ j u, xs[j]? = some u → w.cell? ⟨b, off + j, none⟩ = some u)
theorem Rc.small {w a len cap sz xs} (h : Rc w a len cap sz xs) : len ≤ 9223372036854775807 := by have := h.2.1; have := h.2.2.1; unfold maxLen at this; omega
theorem Rc.none0 (w : World) (sz : Nat) : Rc w none 0 0 sz [] := ⟨by simp, Nat.le_refl _, Nat.zero_le _, fun _ => rfl, fun h => by omega⟩
theorem Rc.frF {F G : Nat → Prop} {w w' a n c sz xs} (h : Rc w a n c sz xs) (hi : InF F a n) (hf : Fr G w w') (hd : ∀ k, F k → ¬ G k) : Rc w' a n c sz xs := by
  obtain ⟨h1, h2, h3, h6, h5⟩ := h
  refine ⟨h1, h2, h3, h6, fun hp => ?_⟩
  obtain ⟨b, off, ha, hb, hc⟩ := h5 hp
  refine ⟨b, off, ha, Nat.lt_of_lt_of_le hb hf.size, fun j u hu => ?_⟩
  rw [World.cell?_of_block (a := ⟨b, off + j, none⟩) (hf.block b hb (hd b (hi.at_ hp ha)))]
  exact hc j u hu
theorem Rc.below {w w' a n c sz xs} (h : Rc w a n c sz xs) (hb : Below w.heap.size w w') : Rc w' a n c sz xs := by
  obtain ⟨h1, h2, h3, h6, h5⟩ := h
  refine ⟨h1, h2, h3, h6, fun hp => ?_⟩
  obtain ⟨b, off, ha, hbl, hc⟩ := h5 hp
  exact ⟨b, off, ha, Nat.lt_of_lt_of_le hbl hb.size, fun j u hu => (hb.cell (p := ⟨b, off + j, none⟩) hbl).trans (hc j u hu)⟩
theorem Rc.own {w : World} {B : Nat} {e : TypeId} {a : Option Addr} {n cap m sz : Nat} {xs : List Value} (h : w.ownsRow B e sz (.slice a n cap) m xs) : Rc w a n cap sz xs := by
  obtain ⟨h1, h2⟩ := h
  rcases h2 with ⟨hv, hn⟩ | ⟨g, c, cur, hv, hg, hh, hnc, hcm, hcs, hx⟩
  · simp only [Value.slice.injEq] at hv
    obtain ⟨rfl, rfl, rfl⟩ := hv
    exact ⟨by rw [h1, hn], Nat.le_refl _, Nat.zero_le _, fun _ => rfl, fun h => by omega⟩
  · simp only [Value.slice.injEq] at hv
    obtain ⟨rfl, rfl, rfl⟩ := hv
    refine ⟨?_, hnc, hcm, (fun hn0 => by cases hn0), fun hp => ⟨g, 0, rfl, heap_lt hh, fun j u hu => ?_⟩⟩
    · rw [← hx, List.length_take, Array.length_toList, hcs]
      exact Nat.min_eq_left (Nat.mul_le_mul_right _ hnc)
    · have hj := (List.getElem?_eq_some_iff.1 hu).1
      have hxl : xs.length ≤ n * sz := by rw [← hx]; simp; omega
      rw [cell_of_row w g (0 + j) cur e (0, 0) hh, Nat.zero_add, ← hu, ← hx, List.getElem?_take, if_pos (by omega), ← Array.getElem?_toList]
theorem Rc.src {w : World} {a : Option Addr} {n cap sz : Nat} {xs : List Value} (h : Rc w a n cap sz xs) (hn : 0 < n) : ∃ ad, a = some ad ∧ ∀ j u, xs[j]? = some u → w.cell? (ad.add j) = some u := by
  obtain ⟨b, off, ha, hb, hc⟩ := h.2.2.2.2 hn
  exact ⟨_, ha, fun j u hu => by rw [add_lit]; exact hc j u hu⟩
theorem Rc.take {w a n cap xs} (h : Rc w a n cap 1 xs) (m : Nat) (hm : m ≤ n) : Rc w a m cap 1 (xs.take m) := by
  obtain ⟨h1, h2, h3, h6, h5⟩ := h
  refine ⟨by rw [List.length_take]; omega, by omega, h3, h6, fun hp => ?_⟩
  obtain ⟨b, off, ha, hb, hc⟩ := h5 (by omega)
  refine ⟨b, off, ha, hb, fun j u hu => hc j u ?_⟩
  rw [List.getElem?_take] at hu
  split at hu
  · exact hu
  · cases hu
theorem Rc.drop {w a n cap xs} (h : Rc w a n cap 1 xs) (m : Nat) (hm : m ≤ n) : Rc w (if cap = m then a else a.map (·.add (m * 1))) (n - m) (cap - m) 1 (xs.drop m) := by
  obtain ⟨h1, h2, h3, h6, h5⟩ := h
  refine ⟨by rw [List.length_drop]; omega, by omega, by omega, fun hn => ?_, fun hp => ?_⟩
  · have : a = Option.none := by
      split at hn
      · exact hn
      · simpa using hn
    have := h6 this; omega
  obtain ⟨b, off, ha, hb, hc⟩ := h5 (by omega)
  refine ⟨b, off + m, ?_, hb, fun j u hu => ?_⟩
  · rw [if_neg (by omega), ha]; simp [Addr.add]
  · rw [Nat.add_assoc]; exact hc (m + j) u (by rw [List.getElem?_drop] at hu; exact hu)
theorem Rc.at_ {w a n cap sz xs} (h : Rc w a n cap sz xs) (hn : 0 < n) : ∃ b off, a = some ⟨b, off, none⟩ ∧ b < w.heap.size ∧ ∀ j u, xs[j]? = some u → w.cell? ⟨b, off + j, none⟩ = some u := h.2.2.2.2 hn
theorem Rd.rc {k w a n c xs} (h : Rd k w a n c xs) : Rc w a n c 1 (xs.map (Value.int k)) := by
  obtain ⟨h1, h2, h3, h4, h6, h5⟩ := h
  refine ⟨by simp [h1], h2, h3, h6, fun hp => ?_⟩
  obtain ⟨b, off, ha, hc⟩ := h5 hp
  refine ⟨b, off, ha, block_lt_of_cell (hc 0 hp), fun j u hu => ?_⟩
  rw [List.getElem?_map] at hu
  by_cases hj : j < xs.length
  · rw [List.getElem?_eq_getElem hj] at hu
    simp only [Option.map_some, Option.some.injEq] at hu
    subst hu
    have := hc j (by omega)
    rw [List.getD_eq_getElem?_getD, List.getElem?_eq_getElem hj] at this
    exact this
  · rw [List.getElem?_eq_none (by omega)] at hu; simp at hu

/-- a row of lengths -/
def nats (ns : List Nat) : List Value := ns.map fun n => .int .i64 (n : Nat)
theorem nats_one (ns : List Nat) : ∀ v ∈ nats ns, v.oneCell' = true := by
  intro v hv
  simp only [nats, List.mem_map] at hv
  obtain ⟨x, _, rfl⟩ := hv
  rfl
theorem nats_at {ns : List Nat} {i x : Nat} (h : ns[i]? = some x) : (nats ns)[i]? = some (.int .i64 (x : Nat)) := by simp [nats, h]
def RdN (w : World) (a : Option Addr) (n c : Nat) (ns : List Nat) : Prop := Rc w a n c 1 (nats ns)
theorem RdN.len {w a n c ns} (h : RdN w a n c ns) : ns.length = n := by have := h.1; simpa [nats] using this
theorem RdN.take {w a n c ns} (h : RdN w a n c ns) (m : Nat) (hm : m ≤ n) : RdN w a m c (ns.take m) := by
  have := Rc.take h m hm
  unfold RdN
  simpa [nats] using this
theorem RdN.drop {w a n c ns} (h : RdN w a n c ns) (m : Nat) (hm : m ≤ n) : RdN w (if c = m then a else a.map (·.add (m * 1))) (n - m) (c - m) (ns.drop m) := by
  have := Rc.drop h m hm
  unfold RdN
  simpa [nats] using this
theorem RdN.at_ {w a n c ns} (h : RdN w a n c ns) (hn : 0 < n) : ∃ b off, a = some ⟨b, off, none⟩ ∧ b < w.heap.size ∧ ∀ i x, ns[i]? = some x → w.cell? ⟨b, off + i, none⟩ = some (.int .i64 (x : Nat)) := by
  obtain ⟨b, off, ha, hb, hc⟩ := Rc.at_ h hn
  exact ⟨b, off, ha, hb, fun i x hx => hc i _ (nats_at hx)⟩

/-- cells that are slices of the runes of lines -/
def RowsAt (F : Nat → Prop) (w : World) (vs : List Value) (L : List (List Int)) : Prop :=
  vs.length = L.length ∧ ∀ (i : Nat) (x : List Int), L[i]? = some x → ∃ ra rc, vs[i]? = some (Value.slice ra x.length rc) ∧ Rd .i32 w ra x.length rc x ∧ InF F ra x.length
theorem RowsAt.nil (F : Nat → Prop) (w : World) : RowsAt F w [] [] := ⟨rfl, fun i x h => by simp at h⟩
theorem RowsAt.frF {F G : Nat → Prop} {w w' vs L} (h : RowsAt F w vs L) (hf : Fr G w w') (hd : ∀ k, F k → ¬ G k) : RowsAt F w' vs L :=
  ⟨h.1, fun i x hx => by obtain ⟨ra, rc, h1, h2, h3⟩ := h.2 i x hx; exact ⟨ra, rc, h1, h2.frF h3 hf hd, h3⟩⟩
theorem RowsAt.below {F : Nat → Prop} {w w' vs L} (h : RowsAt F w vs L) (hb : Below w.heap.size w w') : RowsAt F w' vs L := h.frF (Fr.of_below (fun _ => False) hb) (fun _ _ h => h)
theorem RowsAt.mono {F G : Nat → Prop} {w vs L} (h : RowsAt F w vs L) (hg : ∀ k, F k → G k) : RowsAt G w vs L :=
  ⟨h.1, fun i x hx => by obtain ⟨ra, rc, h1, h2, h3⟩ := h.2 i x hx; exact ⟨ra, rc, h1, h2, h3.mono hg⟩⟩
theorem RowsAt.append {F : Nat → Prop} {w vs us L M} (h : RowsAt F w vs L) (k : RowsAt F w us M) : RowsAt F w (vs ++ us) (L ++ M) := by
  refine ⟨by simp [h.1, k.1], fun i x hx => ?_⟩
  by_cases hi : i < L.length
  · rw [List.getElem?_append_left hi] at hx
    obtain ⟨ra, rc, h1, h2, h3⟩ := h.2 i x hx
    exact ⟨ra, rc, by rw [List.getElem?_append_left (by rw [h.1]; exact hi)]; exact h1, h2, h3⟩
  · rw [List.getElem?_append_right (by omega)] at hx
    obtain ⟨ra, rc, h1, h2, h3⟩ := k.2 _ x hx
    exact ⟨ra, rc, by rw [List.getElem?_append_right (by rw [h.1]; omega), h.1]; exact h1, h2, h3⟩
theorem RowsAt.one {F : Nat → Prop} {w : World} {ra : Option Addr} {n rc : Nat} {x : List Int} (h : Rd .i32 w ra n rc x) (hi : InF F ra n) : RowsAt F w [Value.slice ra n rc] [x] := by
  have hn := h.1
  refine ⟨rfl, fun i y hy => ?_⟩
  cases i with
  | zero =>
    simp at hy
    subst hy
    rw [hn]
    exact ⟨ra, rc, rfl, h, hi⟩
  | succ i => simp at hy
theorem RowsAt.take {F : Nat → Prop} {w vs L} (h : RowsAt F w vs L) (m : Nat) : RowsAt F w (vs.take m) (L.take m) := by
  refine ⟨by simp [h.1], fun i x hx => ?_⟩
  rw [List.getElem?_take] at hx
  split at hx
  · next hi =>
    obtain ⟨ra, rc, h1, h2, h3⟩ := h.2 i x hx
    exact ⟨ra, rc, by rw [List.getElem?_take, if_pos hi]; exact h1, h2, h3⟩
  · cases hx
theorem RowsAt.drop {F : Nat → Prop} {w vs L} (h : RowsAt F w vs L) (m : Nat) : RowsAt F w (vs.drop m) (L.drop m) := by
  refine ⟨by simp [h.1], fun i x hx => ?_⟩
  rw [List.getElem?_drop] at hx
  obtain ⟨ra, rc, h1, h2, h3⟩ := h.2 _ x hx
  exact ⟨ra, rc, by rw [List.getElem?_drop]; exact h1, h2, h3⟩
theorem RowsAt.one1 {F : Nat → Prop} {w vs L} (h : RowsAt F w vs L) : ∀ v ∈ vs, v.oneCell' = true := by
  intro v hv
  obtain ⟨i, hi, e⟩ := List.getElem_of_mem hv
  have hx : L[i]? = some (L[i]'(by rw [← h.1]; exact hi)) := List.getElem?_eq_getElem _
  obtain ⟨ra, rc, h1, _⟩ := h.2 i _ hx
  rw [List.getElem?_eq_getElem hi, e] at h1
  injection h1 with h1
  rw [h1]; rfl

/-- a slice of lines that can be read -/
def RdL (F : Nat → Prop) (w : World) (a : Option Addr) (n c : Nat) (L : List (List Int)) : Prop := ∃ vs, Rc w a n c 1 vs ∧ InF F a n ∧ RowsAt F w vs L
theorem RdL.len {F w a n c L} (h : RdL F w a n c L) : L.length = n := by
  obtain ⟨vs, h1, _, h3⟩ := h
  have := h1.1
  rw [← h3.1]; omega
theorem RdL.small {F w a n c L} (h : RdL F w a n c L) : n ≤ 9223372036854775807 := by obtain ⟨vs, h1, _⟩ := h; exact h1.small
theorem RdL.none0 (F : Nat → Prop) (w : World) : RdL F w none 0 0 [] := ⟨[], Rc.none0 w 1, InF.zero _ _, RowsAt.nil _ _⟩
theorem RdL.frF {F G : Nat → Prop} {w w' a n c L} (h : RdL F w a n c L) (hf : Fr G w w') (hd : ∀ k, F k → ¬ G k) : RdL F w' a n c L := by
  obtain ⟨vs, h1, h2, h3⟩ := h
  exact ⟨vs, h1.frF h2 hf hd, h2, h3.frF hf hd⟩
theorem RdL.below {F : Nat → Prop} {w w' a n c L} (h : RdL F w a n c L) (hb : Below w.heap.size w w') : RdL F w' a n c L := h.frF (Fr.of_below (fun _ => False) hb) (fun _ _ h => h)
theorem RdL.mono {F G : Nat → Prop} {w a n c L} (h : RdL F w a n c L) (hg : ∀ k, F k → G k) : RdL G w a n c L := by
  obtain ⟨vs, h1, h2, h3⟩ := h
  exact ⟨vs, h1, h2.mono hg, h3.mono hg⟩
theorem RdL.take {F w a n c L} (h : RdL F w a n c L) (m : Nat) (hm : m ≤ n) : RdL F w a m c (L.take m) := by
  obtain ⟨vs, h1, h2, h3⟩ := h
  exact ⟨vs.take m, h1.take m hm, h2.take hm, h3.take m⟩
theorem RdL.drop {F w a n c L} (h : RdL F w a n c L) (m : Nat) (hm : m ≤ n) : RdL F w (if c = m then a else a.map (·.add (m * 1))) (n - m) (c - m) (L.drop m) := by
  obtain ⟨vs, h1, h2, h3⟩ := h
  exact ⟨vs.drop m, h1.drop m hm, h2.drop hm, h3.drop m⟩
theorem RdL.at_ {F w a n c L} (h : RdL F w a n c L) (hn : 0 < n) : ∃ b off, a = some ⟨b, off, none⟩ ∧ b < w.heap.size ∧ F b ∧ ∀ i x, L[i]? = some x → ∃ ra rc, w.cell? ⟨b, off + i, none⟩ = some (.slice ra x.length rc) ∧ Rd .i32 w ra x.length rc x ∧ InF F ra x.length := by
  obtain ⟨vs, h1, h2, h3⟩ := h
  obtain ⟨b, off, ha, hb, hc⟩ := h1.at_ hn
  exact ⟨b, off, ha, hb, h2.at_ hn ha, fun i x hx => by obtain ⟨ra, rc, e1, e2, e3⟩ := h3.2 i x hx; exact ⟨ra, rc, hc i _ e1, e2, e3⟩⟩
/-- .. in a later world -/
theorem RdL.get {F w W a n c L} {i : Nat} {x : List Int} (h : RdL F w a n c L) (hb : Below w.heap.size w W) (hx : L[i]? = some x) : ∃ b off ra rc, a = some ⟨b, off, none⟩ ∧ b < w.heap.size ∧ F b ∧ W.cell? ⟨b, off + i, none⟩ = some (.slice ra x.length rc) ∧ Rd .i32 W ra x.length rc x ∧ Rd .i32 w ra x.length rc x ∧ InF F ra x.length := by
  have hi := (List.getElem?_eq_some_iff.1 hx).1
  obtain ⟨b, off, ha, hbl, hF, hc⟩ := h.at_ (by rw [← h.len]; omega)
  obtain ⟨ra, rc, e1, e2, e3⟩ := hc i x hx
  exact ⟨b, off, ra, rc, ha, hbl, hF, (hb.cell (p := ⟨b, off + i, none⟩) hbl).trans e1, e2.below hb, e2, e3⟩

/-- a block of lengths: where its list lies, and the list -/
def bcells (p : (Option Addr × Nat) × List Nat) : List Value := [.slice p.1.1 p.2.length p.1.2, .int .i64 (p.2.sum : Nat)]
def flatB (ps : List ((Option Addr × Nat) × List Nat)) : List Value := ps.flatMap bcells
theorem flatB_cons (p : (Option Addr × Nat) × List Nat) (ps : List ((Option Addr × Nat) × List Nat)) : flatB (p :: ps) = bcells p ++ flatB ps := by simp [flatB]
theorem flatB_append (ps qs : List ((Option Addr × Nat) × List Nat)) : flatB (ps ++ qs) = flatB ps ++ flatB qs := by simp [flatB]
theorem flatB_len (ps : List ((Option Addr × Nat) × List Nat)) : (flatB ps).length = ps.length * 2 := by
  induction ps with
  | nil => rfl
  | cons x r ih => rw [flatB_cons, List.length_append, ih]; simp [bcells]; omega
theorem flatB_take : ∀ (ps : List ((Option Addr × Nat) × List Nat)) (i : Nat), (flatB ps).take (i * 2) = flatB (ps.take i)
  | [], i => by simp [flatB]
  | p :: ps, 0 => by simp [flatB]
  | p :: ps, i + 1 => by
    rw [flatB_cons, List.take_succ_cons, flatB_cons, List.take_append, List.take_of_length_le (l := bcells p) (by simp [bcells]; omega), ← flatB_take ps i]
    congr 2
    simp [bcells]; omega
theorem drop_all {α : Type} (l : List α) (i : Nat) (h : l.length ≤ i) : l.drop i = [] := List.drop_eq_nil_of_le h
theorem flatB_drop : ∀ (ps : List ((Option Addr × Nat) × List Nat)) (i : Nat), (flatB ps).drop (i * 2) = flatB (ps.drop i)
  | [], i => by simp [flatB]
  | p :: ps, 0 => by simp [flatB]
  | p :: ps, i + 1 => by
    rw [flatB_cons, List.drop_succ_cons, List.drop_append, drop_all (bcells p) _ (by simp [bcells]; omega), List.nil_append, ← flatB_drop ps i]
    congr 1
    simp [bcells]; omega
theorem flatB_at : ∀ (ps : List ((Option Addr × Nat) × List Nat)) (i j : Nat) (p : (Option Addr × Nat) × List Nat), ps[i]? = some p → j < 2 → (flatB ps)[i * 2 + j]? = (bcells p)[j]?
  | y :: r, 0, j, x, h, hj => by
    simp at h
    subst h
    rw [flatB_cons, Nat.zero_mul, Nat.zero_add, List.getElem?_append_left (by simp [bcells]; omega)]
  | y :: r, i + 1, j, x, h, hj => by
    rw [flatB_cons, List.getElem?_append_right (by simp [bcells]; omega)]
    have e2 : (i + 1) * 2 + j - (bcells y).length = i * 2 + j := by simp [bcells]; omega
    rw [e2]
    exact flatB_at r i j x (by simpa using h) hj
theorem flatB_one1 (ps : List ((Option Addr × Nat) × List Nat)) : ∀ u ∈ flatB ps, u.oneCell' = true := by
  intro u hu
  simp only [flatB, List.mem_flatMap, bcells] at hu
  obtain ⟨x, hx, hu⟩ := hu
  simp only [List.mem_cons, List.not_mem_nil, or_false] at hu
  rcases hu with rfl | rfl <;> rfl
def BlkOk (F : Nat → Prop) (w : World) (ps : List ((Option Addr × Nat) × List Nat)) : Prop := ∀ p ∈ ps, RdN w p.1.1 p.2.length p.1.2 p.2 ∧ InF F p.1.1 p.2.length ∧ p.2 ≠ []
theorem BlkOk.frF {F G : Nat → Prop} {w w' ps} (h : BlkOk F w ps) (hf : Fr G w w') (hd : ∀ k, F k → ¬ G k) : BlkOk F w' ps := fun p hp => ⟨Rc.frF (h p hp).1 (h p hp).2.1 hf hd, (h p hp).2⟩
theorem BlkOk.below {F : Nat → Prop} {w w' ps} (h : BlkOk F w ps) (hb : Below w.heap.size w w') : BlkOk F w' ps := h.frF (Fr.of_below (fun _ => False) hb) (fun _ _ h => h)
theorem BlkOk.mono {F G : Nat → Prop} {w ps} (h : BlkOk F w ps) (hg : ∀ k, F k → G k) : BlkOk G w ps := fun p hp => ⟨(h p hp).1, (h p hp).2.1.mono hg, (h p hp).2.2⟩
theorem BlkOk.append {F : Nat → Prop} {w ps qs} (h : BlkOk F w ps) (k : BlkOk F w qs) : BlkOk F w (ps ++ qs) := fun p hp => (List.mem_append.1 hp).elim (h p) (k p)
theorem BlkOk.take {F : Nat → Prop} {w ps} (h : BlkOk F w ps) (i : Nat) : BlkOk F w (ps.take i) := fun p hp => h p (List.mem_of_mem_take hp)
theorem BlkOk.drop {F : Nat → Prop} {w ps} (h : BlkOk F w ps) (i : Nat) : BlkOk F w (ps.drop i) := fun p hp => h p (List.mem_of_mem_drop hp)
def lists (ps : List ((Option Addr × Nat) × List Nat)) : List (List Nat) := ps.map Prod.snd
theorem lists_len (ps : List ((Option Addr × Nat) × List Nat)) : (lists ps).length = ps.length := by simp [lists]
theorem lists_at {ps : List ((Option Addr × Nat) × List Nat)} {i : Nat} {p : (Option Addr × Nat) × List Nat} (h : ps[i]? = some p) : (lists ps)[i]? = some p.2 := by simp [lists, h]
theorem BlkOk.count {F : Nat → Prop} {w ps} (h : BlkOk F w ps) : ps.length ≤ (lists ps).flatten.length := by
  rw [← lists_len]
  apply flat_count
  intro b hb
  simp only [lists, List.mem_map] at hb
  obtain ⟨p, hp, rfl⟩ := hb
  exact (h p hp).2.2
/-- the cells of a slice of blocks -/
theorem blk_at {w : World} {a : Option Addr} {n c : Nat} {ps : List ((Option Addr × Nat) × List Nat)} (h : Rc w a n c 2 (flatB ps)) (hn : 0 < n) : ∃ b off, a = some ⟨b, off, none⟩ ∧ b < w.heap.size ∧ ∀ i p, ps[i]? = some p →
    w.cell? ⟨b, off + i * 2, none⟩ = some (.slice p.1.1 p.2.length p.1.2) ∧ w.cell? ⟨b, off + i * 2 + 1, none⟩ = some (.int .i64 (p.2.sum : Nat)) := by
  obtain ⟨b, off, ha, hb, hc⟩ := h.at_ hn
  refine ⟨b, off, ha, hb, fun i p hp => ⟨?_, ?_⟩⟩
  · have := hc (i * 2 + 0) _ (by rw [flatB_at ps i 0 p hp (by omega)]; rfl)
    exact this
  · have := hc (i * 2 + 1) _ (by rw [flatB_at ps i 1 p hp (by omega)]; rfl)
    rw [← Nat.add_assoc] at this
    exact this
end Go.Proofs.Ytndlebopfojjeaa.U
