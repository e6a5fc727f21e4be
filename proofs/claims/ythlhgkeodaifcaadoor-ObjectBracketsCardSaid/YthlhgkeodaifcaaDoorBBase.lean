/-
  Picked by wip/tools/pick.py: what other layers use of lines, rows and their readings.
-/
import Derived.Test.YthlhgkeodaifcaaDoorChecked
import Derived.Test.YthlhgkeodaifcaaDoorUBase
import Derived.Test.YthlhgkeodaifcaaDoorPFr
import Derived.Test.YthlhgkeodaifcaaDoorNPure
import Derived.Deep.RegionLaw
import Derived.Deep.QuietTactic
import Derived.BigQuiet
import Derived.Deep.RegionHeld3
import Derived.BigRegion
import Derived.Deep.DeepCutAuto
import Derived.Deep.RegionWith
import Derived.Lib.AppendZeros
import Derived.StillTailTactics
import Derived.ChangeSlices
import Derived.ChangeSame
import Derived.Deep.Slices
import Derived.Deep.Fields
import Derived.Lib.SmallJoins
import Derived.SizedLaws
import Derived.Lib.MinMax
import Derived.Laws.IdiomStrings
namespace Go.Proofs.YthlhgkeodaifcaaDoor.U
open Go.RowKit
set_option linter.unusedVariables false
set_option linter.unusedSimpArgs false
set_option maxRecDepth 100000

theorem own_cur {w : World} {B : Nat} {e : TypeId} {size g n cap m : Nat} {xs : List Value} (h : w.ownsRow B e size (.slice (some ⟨g, 0, none⟩) n cap) m xs) :
    ∃ cur : List Value, w.heap[g]? = some (.cells cur.toArray e (0, 0)) ∧ cur.length = cap * size ∧ cur.take (n * size) = xs ∧ n ≤ cap ∧ cap ≤ maxLen ∧ B ≤ g ∧ m = n := by
  rcases h.2 with ⟨h', _⟩ | ⟨g', cap', cur, h', hb, hg, hnc, hcm, hcs, htake⟩
  · simp at h'
  · simp only [Value.slice.injEq, Option.some.injEq, Addr.mk.injEq, and_true, true_and] at h'
    obtain ⟨rfl, rfl, rfl⟩ := h'
    exact ⟨cur.toList, by simpa using hg, by simpa using hcs, htake, hnc, hcm, hb, rfl⟩
theorem own_some {w : World} {B : Nat} {e : TypeId} {s : Nat} {a : Option Addr} {n c m : Nat} {xs : List Value} (h : w.ownsRow B e s (.slice a n c) m xs) (hn : 0 < n) : ∃ g, a = some ⟨g, 0, none⟩ := by
  rcases h.2 with ⟨hv, _⟩ | ⟨g, cap, cur, hv, _⟩
  · simp only [Value.slice.injEq] at hv; omega
  · simp only [Value.slice.injEq] at hv; exact ⟨g, hv.1⟩
theorem infoI : (Tryd.prog.info? 21).map (fun i => (i.zero, i.size, i.bytes)) = some (some (.int .i32 0), 1, 4) := by kernel_rfl
/-- what can be read, as cells -/
theorem Rd_cells {k : IntKind} {w : World} {a : Option Addr} {n c : Nat} {ys : List Int} (h : Rd k w a n c ys) (hp : 0 < n) : ∃ ad, a = some ad ∧ ∀ j v, (ys.map (Value.int k))[j]? = some v → w.cell? (ad.add j) = some v := by
  obtain ⟨r1, r2, r3, r4, r6, r5⟩ := h
  obtain ⟨b, off, ha, hc⟩ := r5 hp
  refine ⟨_, ha, fun j u hu => ?_⟩
  rw [List.getElem?_map] at hu
  by_cases hj : j < ys.length
  · rw [List.getElem?_eq_getElem hj] at hu
    simp only [Option.map_some, Option.some.injEq] at hu
    subst hu
    have := hc j (by omega)
    rw [List.getD_eq_getElem?_getD, List.getElem?_eq_getElem hj] at this
    rw [add_lit]
    exact this
  · rw [List.getElem?_eq_none (by omega)] at hu; simp at hu
theorem ints1 (k : IntKind) (xs : List Int) : ∀ v ∈ xs.map (Value.int k), v.oneCell' = true := by
  intro v hv
  simp only [List.mem_map] at hv
  obtain ⟨x, _, rfl⟩ := hv
  rfl
def ints (xs : List Int) : List Value := xs.map (Value.int .i32)
/-- append of what can be read onto what was made since block B -/
theorem app_rd (w : World) (B : Nat) (v : Value) (n : Nat) (xs : List Int) (a : Option Addr) (m c : Nat) (ys : List Int) (h : w.ownsRow B 21 1 v n (ints xs)) (hB : B ≤ w.heap.size) (hr : Rd .i32 w a m c ys) (hb : n + m ≤ 17592186044416) :
    ∃ a' c' w', (∀ ty, (Builtin.append_ #[32, 32] ty #[v, .slice a m c]).run Tryd.prog w = .ok (.slice a' (n + m) c') w') ∧ w'.ownsRow B 21 1 (.slice a' (n + m) c') (n + m) (ints (xs ++ ys)) ∧ Below B w w' := by
  obtain ⟨i0, hi0, hz0, hz1, hz2⟩ := info_parts infoI
  obtain ⟨v', w', hrun, hown, hfr, hnear⟩ := run_append_own_k (P := Tryd.prog) w B 32 21 i0 _ 1 4 Tryd.underlying32 hi0 hz0 hz1 hz2 rfl (by decide) v n _ h a m c (ints ys) (by simpa [ints] using hr.1) (fun hp => Rd_cells hr hp) (ints1 _ _) (by unfold maxLen; omega) (by omega) hB
  obtain ⟨a', c', rfl⟩ := own_slice hown
  refine ⟨a', c', w', hrun, ?_, hfr.below hB (fun k e => (h.lt k e.symm).1)⟩
  unfold ints at hown ⊢
  rw [List.map_append]
  exact hown
/-- append of what can be read onto a fresh empty row -/
theorem app_lit (w : World) (a : Option Addr) (m c : Nat) (ys : List Int) (hr : Rd .i32 w a m c ys) (hb : m ≤ 17592186044416) :
    ∃ a' c' w', (∀ ty, (Builtin.append_ #[32, 32] ty #[.slice (some ⟨w.heap.size, 0, none⟩) 0 0, .slice a m c]).run Tryd.prog (w.alloc (.cells #[] 21)) = .ok (.slice a' m c') w') ∧ w'.ownsRow w.heap.size 21 1 (.slice a' m c') m (ints ys) ∧ Below w.heap.size w w' := by
  have hb0 : Below w.heap.size w (w.alloc (.cells #[] 21)) := (Below.refl _ w).alloc (Nat.le_refl _) _
  obtain ⟨a', c', w', hrun, ho, hb'⟩ := app_rd (w.alloc (.cells #[] 21)) w.heap.size (.slice (some ⟨w.heap.size, 0, none⟩) 0 0) 0 [] a m c ys (World.ownsRow_lit w #[] 0 (Nat.le_refl _) (Nat.zero_le _) rfl) (by simp) (hr.below hb0) (by omega)
  rw [Nat.zero_add] at hrun ho
  exact ⟨a', c', w', hrun, by simpa using ho, hb0.trans hb'⟩
theorem Rd_new (k : IntKind) (w : World) (xs : List Int) (cs : Array Value) (e : TypeId) (n : Nat) (hc : cs = (xs.map (Value.int k)).toArray) (hn : xs.length = n) (hm : n ≤ maxLen) (hw : ∀ x ∈ xs, (Lit.int k x).wf = true) :
    Rd k (w.alloc (.cells cs e)) (some ⟨w.heap.size, 0, none⟩) n n xs := by
  subst hc
  refine ⟨hn, Nat.le_refl _, hm, hw, (fun h => by cases h), fun _ => ⟨_, 0, rfl, fun i hi => ?_⟩⟩
  rw [cell_of_row _ _ _ _ _ _ (heap_alloc_new w _), Nat.zero_add]
  simp only [List.getElem?_toArray, List.getElem?_map]
  rw [List.getElem?_eq_getElem (by omega), List.getD_eq_getElem?_getD, List.getElem?_eq_getElem (by omega)]
  rfl
def i64b (i : Int) : Prop := -9223372036854775808 ≤ i ∧ i ≤ 9223372036854775807
theorem wf_i64b {i : Int} (h : (Lit.int .i64 i).wf = true) : i64b i := wf_i64_in h
/-- lines, an end behind each -/
def joinE (L : List (List Int)) : List Int := L.flatMap (· ++ [10])
def joinL (L : List (List Int)) : List Int := (joinE L).dropLast
theorem joinE_cons (x : List Int) (L : List (List Int)) : joinE (x :: L) = x ++ 10 :: joinE L := by simp [joinE]
theorem joinE_append (L M : List (List Int)) : joinE (L ++ M) = joinE L ++ joinE M := by simp [joinE]
theorem joinE_one (x : List Int) : joinE [x] = x ++ [10] := by simp [joinE]
theorem joinE_joinL {L : List (List Int)} (h : L ≠ []) : joinE L = joinL L ++ [10] := by
  rcases List.eq_nil_or_concat L with e | ⟨A, x, e⟩
  · exact absurd e h
  · rw [e, List.concat_eq_append]
    unfold joinL
    rw [joinE_append, joinE_one, ← List.append_assoc, List.dropLast_concat]
theorem joinL_nil : joinL [] = [] := rfl
def sizeN (ls : List Nat) : Nat := (ls.map (· + 1)).sum
theorem sizeN_nil : sizeN [] = 0 := rfl
theorem sizeN_cons (a : Nat) (l : List Nat) : sizeN (a :: l) = a + 1 + sizeN l := by simp [sizeN]
theorem sizeN_append (a b : List Nat) : sizeN (a ++ b) = sizeN a + sizeN b := by simp [sizeN]
theorem sizeN_sum (a : List Nat) : sizeN a = a.sum + a.length := by
  induction a with
  | nil => rfl
  | cons x l ih => rw [sizeN_cons, ih]; simp; omega
theorem sizeN_take_le (a : List Nat) (i : Nat) : sizeN (a.take i) ≤ sizeN a := by
  conv => rhs; rw [← List.take_append_drop i a, sizeN_append]
  omega
def lens (L : List (List Int)) : List Nat := L.map List.length
theorem lens_len (L : List (List Int)) : (lens L).length = L.length := by simp [lens]
theorem lens_append (L M : List (List Int)) : lens (L ++ M) = lens L ++ lens M := by simp [lens]
theorem lens_take (L : List (List Int)) (i : Nat) : lens (L.take i) = (lens L).take i := by simp [lens]
theorem joinE_len (L : List (List Int)) : (joinE L).length = sizeN (lens L) := by
  induction L with
  | nil => rfl
  | cons x L ih => rw [joinE_cons, List.length_append, List.length_cons, ih]; simp [lens, sizeN_cons]; omega
theorem joinL_len {L : List (List Int)} (h : L ≠ []) : (joinL L).length + 1 = sizeN (lens L) := by
  rw [← joinE_len, joinE_joinL h, List.length_append]; rfl
/-- what is read lies in the blocks of F -/
def InF (F : Nat → Prop) (a : Option Addr) (n : Nat) : Prop := 0 < n → ∀ ad, a = some ad → F ad.block
theorem InF.mono {F G : Nat → Prop} {a : Option Addr} {n : Nat} (h : InF F a n) (hg : ∀ k, F k → G k) : InF G a n := fun hn ad e => hg _ (h hn ad e)
theorem InF.zero (F : Nat → Prop) (a : Option Addr) : InF F a 0 := fun h => absurd h (by omega)
theorem InF.at_ {F : Nat → Prop} {a : Option Addr} {n b off : Nat} (h : InF F a n) (hn : 0 < n) (e : a = some ⟨b, off, none⟩) : F b := h hn _ e
theorem InF.take {F : Nat → Prop} {a : Option Addr} {n m : Nat} (h : InF F a n) (hm : m ≤ n) : InF F a m := fun hp => h (by omega)
theorem add_block (ad : Addr) (j : Nat) : (ad.add j).block = ad.block := by unfold Addr.add; split <;> rfl
theorem InF.drop {F : Nat → Prop} {a : Option Addr} {n m c : Nat} (h : InF F a n) (hm : m ≤ n) : InF F (if c = m then a else a.map (·.add (m * 1))) (n - m) := by
  intro hp ad e
  split at e
  · exact h (by omega) ad e
  · cases a with
    | none => simp at e
    | some a0 =>
      simp only [Option.map_some, Option.some.injEq] at e
      subst e
      rw [add_block]
      exact h (by omega) _ rfl
theorem InF.own {F : Nat → Prop} {w : World} {B : Nat} {e : TypeId} {s : Nat} {a : Option Addr} {n c m : Nat} {xs : List Value} (h : w.ownsRow B e s (.slice a n c) m xs) (hk : ∀ k, (Value.slice a n c).ownBlock = some k → F k) : InF F a n := by
  intro hn ad e
  obtain ⟨g, rfl⟩ := own_some h hn
  cases e
  exact hk g rfl
theorem Rd.frF {F G : Nat → Prop} {k w w' a n c xs} (h : Rd k w a n c xs) (hi : InF F a n) (hf : Fr G w w') (hd : ∀ k, F k → ¬ G k) : Rd k w' a n c xs := by
  obtain ⟨h1, h2, h3, h4, h6, h5⟩ := h
  refine ⟨h1, h2, h3, h4, h6, fun hp => ?_⟩
  obtain ⟨b, off, ha, hc⟩ := h5 hp
  refine ⟨b, off, ha, fun i hlt => ?_⟩
  rw [World.cell?_of_block (a := ⟨b, off + i, none⟩) (hf.block b (block_lt_of_cell (hc i hlt)) (hd b (hi.at_ hp ha)))]
  exact hc i hlt
/-- A slice of elements of sz cells that can be read. -/
def Rc (w : World) (a : Option Addr) (len cap sz : Nat) (xs : List Value) : Prop :=
  xs.length = len * sz ∧ len ≤ cap ∧ cap ≤ maxLen ∧ (a = none → cap = 0) ∧
  (0 < len → ∃ b off, a = some ⟨b, off, none⟩ ∧ b < w.heap.size ∧ ∀ j u, xs[j]? = some u → w.cell? ⟨b, off + j, none⟩ = some u)
theorem Rc.small {w a len cap sz xs} (h : Rc w a len cap sz xs) : len ≤ 9223372036854775807 := by have := h.2.1; have := h.2.2.1; unfold maxLen at this; omega
theorem Rc.none0 (w : World) (sz : Nat) : Rc w none 0 0 sz [] := ⟨by simp, Nat.le_refl _, Nat.zero_le _, fun _ => rfl, fun h => by omega⟩
theorem Rc.frF {F G : Nat → Prop} {w w' a n c sz xs} (h : Rc w a n c sz xs) (hi : InF F a n) (hf : Fr G w w') (hd : ∀ k, F k → ¬ G k) : Rc w' a n c sz xs := by
  obtain ⟨h1, h2, h3, h6, h5⟩ := h
  refine ⟨h1, h2, h3, h6, fun hp => ?_⟩
  obtain ⟨b, off, ha, hb, hc⟩ := h5 hp
  refine ⟨b, off, ha, Nat.lt_of_lt_of_le hb hf.size, fun j u hu => ?_⟩
  rw [World.cell?_of_block (a := ⟨b, off + j, none⟩) (hf.block b hb (hd b (hi.at_ hp ha)))]
  exact hc j u hu
theorem Rc.below {w w' a n c sz xs} (h : Rc w a n c sz xs) (hb : Below w.heap.size w w') : Rc w' a n c sz xs := by
  obtain ⟨h1, h2, h3, h6, h5⟩ := h
  refine ⟨h1, h2, h3, h6, fun hp => ?_⟩
  obtain ⟨b, off, ha, hbl, hc⟩ := h5 hp
  exact ⟨b, off, ha, Nat.lt_of_lt_of_le hbl hb.size, fun j u hu => (hb.cell (p := ⟨b, off + j, none⟩) hbl).trans (hc j u hu)⟩
theorem Rc.own {w : World} {B : Nat} {e : TypeId} {a : Option Addr} {n cap m sz : Nat} {xs : List Value} (h : w.ownsRow B e sz (.slice a n cap) m xs) : Rc w a n cap sz xs := by
  obtain ⟨h1, h2⟩ := h
  rcases h2 with ⟨hv, hn⟩ | ⟨g, c, cur, hv, hg, hh, hnc, hcm, hcs, hx⟩
  · simp only [Value.slice.injEq] at hv
    obtain ⟨rfl, rfl, rfl⟩ := hv
    exact ⟨by rw [h1, hn], Nat.le_refl _, Nat.zero_le _, fun _ => rfl, fun h => by omega⟩
  · simp only [Value.slice.injEq] at hv
    obtain ⟨rfl, rfl, rfl⟩ := hv
    refine ⟨?_, hnc, hcm, (fun hn0 => by cases hn0), fun hp => ⟨g, 0, rfl, heap_lt hh, fun j u hu => ?_⟩⟩
    · rw [← hx, List.length_take, Array.length_toList, hcs]
      exact Nat.min_eq_left (Nat.mul_le_mul_right _ hnc)
    · have hj := (List.getElem?_eq_some_iff.1 hu).1
      have hxl : xs.length ≤ n * sz := by rw [← hx]; simp; omega
      rw [cell_of_row w g (0 + j) cur e (0, 0) hh, Nat.zero_add, ← hu, ← hx, List.getElem?_take, if_pos (by omega), ← Array.getElem?_toList]
theorem Rc.src {w : World} {a : Option Addr} {n cap sz : Nat} {xs : List Value} (h : Rc w a n cap sz xs) (hn : 0 < n) : ∃ ad, a = some ad ∧ ∀ j u, xs[j]? = some u → w.cell? (ad.add j) = some u := by
  obtain ⟨b, off, ha, hb, hc⟩ := h.2.2.2.2 hn
  exact ⟨_, ha, fun j u hu => by rw [add_lit]; exact hc j u hu⟩
theorem Rc.take {w a n cap xs} (h : Rc w a n cap 1 xs) (m : Nat) (hm : m ≤ n) : Rc w a m cap 1 (xs.take m) := by
  obtain ⟨h1, h2, h3, h6, h5⟩ := h
  refine ⟨by rw [List.length_take]; omega, by omega, h3, h6, fun hp => ?_⟩
  obtain ⟨b, off, ha, hb, hc⟩ := h5 (by omega)
  refine ⟨b, off, ha, hb, fun j u hu => hc j u ?_⟩
  rw [List.getElem?_take] at hu
  split at hu
  · exact hu
  · cases hu
theorem Rc.drop {w a n cap xs} (h : Rc w a n cap 1 xs) (m : Nat) (hm : m ≤ n) : Rc w (if cap = m then a else a.map (·.add (m * 1))) (n - m) (cap - m) 1 (xs.drop m) := by
  obtain ⟨h1, h2, h3, h6, h5⟩ := h
  refine ⟨by rw [List.length_drop]; omega, by omega, by omega, fun hn => ?_, fun hp => ?_⟩
  · have : a = Option.none := by
      split at hn
      · exact hn
      · simpa using hn
    have := h6 this; omega
  obtain ⟨b, off, ha, hb, hc⟩ := h5 (by omega)
  refine ⟨b, off + m, ?_, hb, fun j u hu => ?_⟩
  · rw [if_neg (by omega), ha]; simp [Addr.add]
  · rw [Nat.add_assoc]; exact hc (m + j) u (by rw [List.getElem?_drop] at hu; exact hu)
theorem Rc.at_ {w a n cap sz xs} (h : Rc w a n cap sz xs) (hn : 0 < n) : ∃ b off, a = some ⟨b, off, none⟩ ∧ b < w.heap.size ∧ ∀ j u, xs[j]? = some u → w.cell? ⟨b, off + j, none⟩ = some u := h.2.2.2.2 hn
/-- cells that are slices of the runes of lines -/
def RowsAt (F : Nat → Prop) (w : World) (vs : List Value) (L : List (List Int)) : Prop :=
  vs.length = L.length ∧ ∀ (i : Nat) (x : List Int), L[i]? = some x → ∃ ra rc, vs[i]? = some (Value.slice ra x.length rc) ∧ Rd .i32 w ra x.length rc x ∧ InF F ra x.length
theorem RowsAt.nil (F : Nat → Prop) (w : World) : RowsAt F w [] [] := ⟨rfl, fun i x h => by simp at h⟩
theorem RowsAt.frF {F G : Nat → Prop} {w w' vs L} (h : RowsAt F w vs L) (hf : Fr G w w') (hd : ∀ k, F k → ¬ G k) : RowsAt F w' vs L :=
  ⟨h.1, fun i x hx => by obtain ⟨ra, rc, h1, h2, h3⟩ := h.2 i x hx; exact ⟨ra, rc, h1, h2.frF h3 hf hd, h3⟩⟩
theorem RowsAt.below {F : Nat → Prop} {w w' vs L} (h : RowsAt F w vs L) (hb : Below w.heap.size w w') : RowsAt F w' vs L := h.frF (Fr.of_below (fun _ => False) hb) (fun _ _ h => h)
theorem RowsAt.mono {F G : Nat → Prop} {w vs L} (h : RowsAt F w vs L) (hg : ∀ k, F k → G k) : RowsAt G w vs L :=
  ⟨h.1, fun i x hx => by obtain ⟨ra, rc, h1, h2, h3⟩ := h.2 i x hx; exact ⟨ra, rc, h1, h2, h3.mono hg⟩⟩
theorem RowsAt.append {F : Nat → Prop} {w vs us L M} (h : RowsAt F w vs L) (k : RowsAt F w us M) : RowsAt F w (vs ++ us) (L ++ M) := by
  refine ⟨by simp [h.1, k.1], fun i x hx => ?_⟩
  by_cases hi : i < L.length
  · rw [List.getElem?_append_left hi] at hx
    obtain ⟨ra, rc, h1, h2, h3⟩ := h.2 i x hx
    exact ⟨ra, rc, by rw [List.getElem?_append_left (by rw [h.1]; exact hi)]; exact h1, h2, h3⟩
  · rw [List.getElem?_append_right (by omega)] at hx
    obtain ⟨ra, rc, h1, h2, h3⟩ := k.2 _ x hx
    exact ⟨ra, rc, by rw [List.getElem?_append_right (by rw [h.1]; omega), h.1]; exact h1, h2, h3⟩
theorem RowsAt.one {F : Nat → Prop} {w : World} {ra : Option Addr} {n rc : Nat} {x : List Int} (h : Rd .i32 w ra n rc x) (hi : InF F ra n) : RowsAt F w [Value.slice ra n rc] [x] := by
  have hn := h.1
  refine ⟨rfl, fun i y hy => ?_⟩
  cases i with
  | zero =>
    simp at hy
    subst hy
    rw [hn]
    exact ⟨ra, rc, rfl, h, hi⟩
  | succ i => simp at hy
theorem RowsAt.take {F : Nat → Prop} {w vs L} (h : RowsAt F w vs L) (m : Nat) : RowsAt F w (vs.take m) (L.take m) := by
  refine ⟨by simp [h.1], fun i x hx => ?_⟩
  rw [List.getElem?_take] at hx
  split at hx
  · next hi =>
    obtain ⟨ra, rc, h1, h2, h3⟩ := h.2 i x hx
    exact ⟨ra, rc, by rw [List.getElem?_take, if_pos hi]; exact h1, h2, h3⟩
  · cases hx
theorem RowsAt.drop {F : Nat → Prop} {w vs L} (h : RowsAt F w vs L) (m : Nat) : RowsAt F w (vs.drop m) (L.drop m) := by
  refine ⟨by simp [h.1], fun i x hx => ?_⟩
  rw [List.getElem?_drop] at hx
  obtain ⟨ra, rc, h1, h2, h3⟩ := h.2 _ x hx
  exact ⟨ra, rc, by rw [List.getElem?_drop]; exact h1, h2, h3⟩
theorem RowsAt.one1 {F : Nat → Prop} {w vs L} (h : RowsAt F w vs L) : ∀ v ∈ vs, v.oneCell' = true := by
  intro v hv
  obtain ⟨i, hi, e⟩ := List.getElem_of_mem hv
  have hx : L[i]? = some (L[i]'(by rw [← h.1]; exact hi)) := List.getElem?_eq_getElem _
  obtain ⟨ra, rc, h1, _⟩ := h.2 i _ hx
  rw [List.getElem?_eq_getElem hi, e] at h1
  injection h1 with h1
  rw [h1]; rfl
/-- a slice of lines that can be read -/
def RdL (F : Nat → Prop) (w : World) (a : Option Addr) (n c : Nat) (L : List (List Int)) : Prop := ∃ vs, Rc w a n c 1 vs ∧ InF F a n ∧ RowsAt F w vs L
theorem RdL.len {F w a n c L} (h : RdL F w a n c L) : L.length = n := by
  obtain ⟨vs, h1, _, h3⟩ := h
  have := h1.1
  rw [← h3.1]; omega
theorem RdL.small {F w a n c L} (h : RdL F w a n c L) : n ≤ 9223372036854775807 := by obtain ⟨vs, h1, _⟩ := h; exact h1.small
theorem RdL.none0 (F : Nat → Prop) (w : World) : RdL F w none 0 0 [] := ⟨[], Rc.none0 w 1, InF.zero _ _, RowsAt.nil _ _⟩
theorem RdL.frF {F G : Nat → Prop} {w w' a n c L} (h : RdL F w a n c L) (hf : Fr G w w') (hd : ∀ k, F k → ¬ G k) : RdL F w' a n c L := by
  obtain ⟨vs, h1, h2, h3⟩ := h
  exact ⟨vs, h1.frF h2 hf hd, h2, h3.frF hf hd⟩
theorem RdL.below {F : Nat → Prop} {w w' a n c L} (h : RdL F w a n c L) (hb : Below w.heap.size w w') : RdL F w' a n c L := h.frF (Fr.of_below (fun _ => False) hb) (fun _ _ h => h)
theorem RdL.mono {F G : Nat → Prop} {w a n c L} (h : RdL F w a n c L) (hg : ∀ k, F k → G k) : RdL G w a n c L := by
  obtain ⟨vs, h1, h2, h3⟩ := h
  exact ⟨vs, h1, h2.mono hg, h3.mono hg⟩
theorem RdL.take {F w a n c L} (h : RdL F w a n c L) (m : Nat) (hm : m ≤ n) : RdL F w a m c (L.take m) := by
  obtain ⟨vs, h1, h2, h3⟩ := h
  exact ⟨vs.take m, h1.take m hm, h2.take hm, h3.take m⟩
theorem RdL.drop {F w a n c L} (h : RdL F w a n c L) (m : Nat) (hm : m ≤ n) : RdL F w (if c = m then a else a.map (·.add (m * 1))) (n - m) (c - m) (L.drop m) := by
  obtain ⟨vs, h1, h2, h3⟩ := h
  exact ⟨vs.drop m, h1.drop m hm, h2.drop hm, h3.drop m⟩
theorem RdL.at_ {F w a n c L} (h : RdL F w a n c L) (hn : 0 < n) : ∃ b off, a = some ⟨b, off, none⟩ ∧ b < w.heap.size ∧ F b ∧ ∀ i x, L[i]? = some x → ∃ ra rc, w.cell? ⟨b, off + i, none⟩ = some (.slice ra x.length rc) ∧ Rd .i32 w ra x.length rc x ∧ InF F ra x.length := by
  obtain ⟨vs, h1, h2, h3⟩ := h
  obtain ⟨b, off, ha, hb, hc⟩ := h1.at_ hn
  exact ⟨b, off, ha, hb, h2.at_ hn ha, fun i x hx => by obtain ⟨ra, rc, e1, e2, e3⟩ := h3.2 i x hx; exact ⟨ra, rc, hc i _ e1, e2, e3⟩⟩
/-- .. in a later world -/
theorem RdL.get {F w W a n c L} {i : Nat} {x : List Int} (h : RdL F w a n c L) (hb : Below w.heap.size w W) (hx : L[i]? = some x) : ∃ b off ra rc, a = some ⟨b, off, none⟩ ∧ b < w.heap.size ∧ F b ∧ W.cell? ⟨b, off + i, none⟩ = some (.slice ra x.length rc) ∧ Rd .i32 W ra x.length rc x ∧ Rd .i32 w ra x.length rc x ∧ InF F ra x.length := by
  have hi := (List.getElem?_eq_some_iff.1 hx).1
  obtain ⟨b, off, ha, hbl, hF, hc⟩ := h.at_ (by rw [← h.len]; omega)
  obtain ⟨ra, rc, e1, e2, e3⟩ := hc i x hx
  exact ⟨b, off, ra, rc, ha, hbl, hF, (hb.cell (p := ⟨b, off + i, none⟩) hbl).trans e1, e2.below hb, e2, e3⟩
theorem results_cell1 {fn : Func} {p : Tmp} {ty : TypeId} (h : fn.results = #[.cell p ty]) (tmps : Array Value) (P : Program) (w : World) :
    (results fn tmps).run P w = ((asAddr (tmps.getD p undef)).run P w).andThen fun a w₁ => (loadVar ty a).run P w₁ := by
  simp only [results, h]
  simp [Sem.run_bind, Result.andThen]
theorem infoS : (Tryd.prog.info? 32).map (fun i => (i.zero, i.size, i.bytes)) = some (some (.slice none 0 0), 1, 24) := by kernel_rfl
theorem size_take {L : List (List Int)} {k : Nat} {x : List Int} (h : L[k]? = some x) : sizeN (lens (L.take (k + 1))) = sizeN (lens (L.take k)) + (x.length + 1) := by
  obtain ⟨hk, e⟩ := List.getElem?_eq_some_iff.1 h
  rw [List.take_succ_eq_append_getElem hk, lens_append, sizeN_append, e]; simp [lens, sizeN]
theorem size_take_le (L : List (List Int)) (k : Nat) : sizeN (lens (L.take k)) ≤ sizeN (lens L) := by
  rw [lens_take]; exact sizeN_take_le _ _
theorem size_count (L : List (List Int)) : L.length ≤ sizeN (lens L) := by rw [sizeN_sum, lens_len]; omega
theorem joinL_len_le (L : List (List Int)) : (joinL L).length ≤ sizeN (lens L) := by
  by_cases h : L = []
  · subst h; simp [joinL_nil]
  · have := joinL_len h; omega
theorem results_ct {fn : Func} {p q : Tmp} {ty : TypeId} (h : fn.results = #[.cell p ty, .tmp q]) (tmps : Array Value) (P : Program) (w : World) :
    (results fn tmps).run P w = ((asAddr (tmps.getD p undef)).run P w).andThen fun a w₁ => ((loadVar ty a).run P w₁).andThen fun v w₂ => .ok (.tuple #[v, tmps.getD q undef]) w₂ := by
  simp only [results, h]
  simp [Sem.run_bind, Result.andThen]
theorem rdl_wf {F : Nat → Prop} {w : World} {a : Option Addr} {n c : Nat} {L : List (List Int)} (h : RdL F w a n c L) : ∀ x ∈ joinL L, (Lit.int .i32 x).wf = true := by
  intro v hv
  have h1 : v ∈ joinE L := by
    unfold joinL at hv
    exact List.dropLast_subset _ hv
  unfold joinE at h1
  simp only [List.mem_flatMap, List.mem_append, List.mem_singleton] at h1
  obtain ⟨x, hx, h1⟩ := h1
  rcases h1 with h1 | h1
  · obtain ⟨i, hi, e⟩ := List.getElem_of_mem hx
    obtain ⟨b, off, ra, rc, _, _, _, _, hrd, _⟩ := h.get (Below.refl _ _) (List.getElem?_eq_getElem hi)
    rw [e] at hrd
    exact hrd.2.2.2.1 v h1
  · subst h1; rfl
theorem one_rdl0 (w : World) : RdL (fun k => k = w.heap.size) (w.alloc (.cells #[.slice none 0 0] 32)) (some ⟨w.heap.size, 0, none⟩) 1 1 [[]] := by
  have hg := heap_alloc_new w (.cells #[.slice none 0 0] 32)
  refine ⟨[.slice none 0 0], ⟨rfl, Nat.le_refl _, by unfold maxLen; omega, (fun e => by cases e), fun _ => ⟨_, 0, rfl, heap_lt hg, fun j u hu => ?_⟩⟩, fun _ ad e => by cases e; rfl, RowsAt.one (Rd.none0 _ _) (InF.zero _ _)⟩
  rw [cell_row hg, Nat.zero_add]
  simpa using hu
theorem lines_wf {L : List (List Int)} (h : ∀ x ∈ joinL L, (Lit.int .i32 x).wf = true) : ∀ x ∈ L, ∀ y ∈ x, (Lit.int .i32 y).wf = true := by
  intro x hx y hy
  have hne : L ≠ [] := by intro e; subst e; cases hx
  have h1 : y ∈ joinE L := by
    unfold joinE
    simp only [List.mem_flatMap, List.mem_append]
    exact ⟨x, hx, .inl hy⟩
  rw [joinE_joinL hne] at h1
  rcases List.mem_append.1 h1 with h1 | h1
  · exact h y h1
  · simp at h1; subst h1; rfl
theorem rrunes_any (F : Nat → Prop) (a : Option Addr) (n c : Nat) (L : List (List Int)) (w : World) (h : RdL F w a n c L) (hs : sizeN (lens L) ≤ 4611686018427387904) :
    Calls Tryd.prog 26 #[.slice a n c] w fun e w' => e = .returned (.int .i64 ((joinL L).length : Nat)) ∧ w = w' := by
  have hl := h.len
  have HL := Lib.hid hl
  have H := Lib.hid h
  have hj : max ((sizeN (lens L) : Int) - 1) 0 = ((joinL L).length : Int) := by
    by_cases e : L = []
    · subst e; simp [joinL_nil, lens, sizeN_nil]; decide
    · have := joinL_len e; omega
  obtain ⟨Z, hZ⟩ : ∃ Z, sizeN (lens L) = Z := ⟨_, rfl⟩
  obtain ⟨R, hR⟩ : ∃ R, (joinL L).length = R := ⟨_, rfl⟩
  have HZ := Lib.hid hZ
  have hnz : n ≤ Z := by rw [← hZ, ← hl]; exact size_count L
  rw [hR, hZ] at hj
  rw [hZ] at hs
  rw [hR]
  have HJ := Lib.hid hj
  clear h hl hZ hR hj
  go_enter Tryd.func26, Tryd.ntmps26
  go_wp2_with fail
  go_loop [3, 4] (fun v3 v4 => ∃ k s : Nat, k ≤ n ∧ s ≤ Z ∧ v4 = .int .i64 k ∧ v3 = .int .i64 ((s : Int) - 1) ∧ Hid (s + k = sizeN (lens (L.take k)) + n)) (fun _ v4 => n - (intOf v4).toNat)
  case atStart => exact ⟨0, n, Nat.zero_le _, hnz, rfl, by go_num, by show _ = _; simp [lens, sizeN]⟩
  case round =>
    obtain ⟨k, s, hk, hs', rfl, rfl, he⟩ := hrel
    by_cases hlt : k < n
    · obtain ⟨x, hx⟩ : ∃ x, L[k]? = some x := ⟨_, List.getElem?_eq_getElem (by have := HL.out; omega)⟩
      obtain ⟨b, off, ra, rc, rfl, hb, _, hc, hrd, _⟩ := H.out.get (Below.refl _ _) hx
      have h1 := size_take hx
      have h2 := size_take_le L (k + 1)
      have h4 : sizeN (lens L) = sizeN (lens (L.take (k + 1))) + sizeN (lens (L.drop (k + 1))) := by rw [← sizeN_append, ← lens_append, List.take_append_drop]
      have h5 := size_count (L.drop (k + 1))
      rw [List.length_drop, HL.out] at h5
      obtain ⟨y, hy⟩ : ∃ y, x.length = y := ⟨_, rfl⟩
      rw [hy] at h1 hc
      have hsz : s + y ≤ Z := by have := he.out; have := HZ.out; omega
      have HE : Hid (s + y + (k + 1) = sizeN (lens (L.take (k + 1))) + n) := by show _ = _; have := he.out; omega
      have q1 : IntKind.i64.wrap ((s : Int) - 1 + (y : Int)) = (s : Int) - 1 + (y : Int) := by rw [IntKind.wrap_i64]; omega
      clear hx hrd h1 h2 h4 h5 hy he HJ
      go_wp2_with fail
      go_round
      case rel => exact ⟨k + 1, s + y, by omega, hsz, by go_num, by go_num, HE⟩
      case measure => simp [intOf]; omega
    · obtain rfl : k = n := by omega
      have e : s = Z := by
        have := he.out
        rw [List.take_of_length_le (by have := HL.out; omega), HZ.out] at this
        omega
      subst e
      clear he
      have hj := HJ.out
      clear HJ
      go_wp2_with fail
      all_goals
        go_ret
        refine ⟨?_, rfl⟩
        congr 1
        try go_num
/-- two lines that are written down -/
theorem rdl_lit2 (w : World) (x y : List Int) (cx cy : Array Value) (n m : Nat) (hcx : cx = (x.map (Value.int .i32)).toArray) (hcy : cy = (y.map (Value.int .i32)).toArray) (hx : x.length = n) (hy : y.length = m) (hn : n ≤ maxLen) (hm : m ≤ maxLen)
    (wx : ∀ z ∈ x, (Lit.int .i32 z).wf = true) (wy : ∀ z ∈ y, (Lit.int .i32 z).wf = true) :
    RdL (fun k => w.heap.size ≤ k ∧ k < w.heap.size + 3) (((w.alloc (.cells cx 21)).alloc (.cells cy 21)).alloc (.cells #[.slice (some ⟨w.heap.size, 0, none⟩) n n, .slice (some ⟨w.heap.size + 1, 0, none⟩) m m] 32)) (some ⟨w.heap.size + 2, 0, none⟩) 2 2 [x, y] := by
  have hg := heap_alloc_new ((w.alloc (.cells cx 21)).alloc (.cells cy 21)) (.cells #[.slice (some ⟨w.heap.size, 0, none⟩) n n, .slice (some ⟨w.heap.size + 1, 0, none⟩) m m] 32)
  have hsz : ((w.alloc (.cells cx 21)).alloc (.cells cy 21)).heap.size = w.heap.size + 2 := by simp
  rw [hsz] at hg
  have r1 := (Rd_new .i32 w x cx 21 n hcx hx hn wx).below (((Below.refl _ _).alloc (Nat.le_refl _) (.cells cy 21)).alloc (by simp) (.cells #[.slice (some ⟨w.heap.size, 0, none⟩) n n, .slice (some ⟨w.heap.size + 1, 0, none⟩) m m] 32))
  have r2 := (Rd_new .i32 (w.alloc (.cells cx 21)) y cy 21 m hcy hy hm wy).below ((Below.refl _ _).alloc (Nat.le_refl _) (.cells #[.slice (some ⟨w.heap.size, 0, none⟩) n n, .slice (some ⟨w.heap.size + 1, 0, none⟩) m m] 32))
  have hs1 : (w.alloc (.cells cx 21)).heap.size = w.heap.size + 1 := by simp
  rw [hs1] at r2
  refine ⟨[.slice (some ⟨w.heap.size, 0, none⟩) n n, .slice (some ⟨w.heap.size + 1, 0, none⟩) m m], ⟨rfl, Nat.le_refl _, by unfold maxLen; omega, (fun e => by cases e), fun _ => ⟨_, 0, rfl, heap_lt hg, fun j u hu => ?_⟩⟩, fun _ ad e => by cases e; exact ⟨by simp, by simp⟩, ?_⟩
  · rw [cell_row hg, Nat.zero_add]
    simpa using hu
  · exact (RowsAt.one r1 (fun _ ad e => by cases e; exact ⟨by simp, by simp⟩)).append (RowsAt.one r2 (fun _ ad e => by cases e; exact ⟨by simp, by simp⟩))
section
open Go.RowKit Go.ChangeShapes Go.WideShapes Go.Deep
/-- A slice as the frame opens it can be read. -/
theorem Rd_of_row {k : IntKind} {w : World} {a : Option Addr} {len cap : Nat} {zs : List Int}
    (h : (a = none ∧ len = 0 ∧ cap = 0 ∧ zs = []) ∨ ∃ x, a = some x ∧ len ≤ cap ∧ cap ≤ maxLen ∧ zs.length = cap ∧ (∀ i, i < zs.length → w.cell? (x.add i) = some (.int k (zs.getD i 0))) ∧ ∀ n ∈ zs, (Lit.int k n).wf = true) :
    Rd k w a len cap (zs.take len) := by
  rcases h with ⟨rfl, rfl, rfl, rfl⟩ | ⟨x, rfl, hl, hm, hz, hc, hw⟩
  · exact Rd.none0 _ _
  · refine ⟨by rw [List.length_take]; omega, hl, hm, fun y hy => hw y (List.mem_of_mem_take hy), (fun h => by cases h), fun hp => ?_⟩
    obtain ⟨b, off, spot⟩ := x
    have h0 := hc 0 (by omega)
    have hspot : spot = none := by simpa [Addr.add] using World.cell?_spot h0
    subst hspot
    refine ⟨b, off, rfl, fun i hi => ?_⟩
    have h1 := hc i (by omega)
    have he : (⟨b, off, none⟩ : Addr).add i = ⟨b, off + i, none⟩ := by
      by_cases h0 : i = 0
      · subst h0; rfl
      · simp [Addr.add]; intro hj; exact absurd hj h0
    rw [he] at h1
    rw [h1]
    simp [List.getD_eq_getElem?_getD, List.getElem?_take, hi]
end
section
open Go.RowKit Go.ChangeShapes Go.WideShapes Go.Deep
/-- what is read lies in the heap -/
theorem Rd.inHeap {k : IntKind} {w : World} {a : Option Addr} {len cap : Nat} {xs : List Int} (h : Rd k w a len cap xs) : InF (fun k => k < w.heap.size) a len := by
  intro hp ad e
  obtain ⟨b, off, e2, hc⟩ := h.2.2.2.2.2 hp
  rw [e] at e2
  cases e2
  exact block_lt_of_cell (hc 0 hp)
end
section
open Go.RowKit Go.ChangeShapes Go.WideShapes Go.Deep
variable {H : Type} {enc : TypeId × Value → H} {w : World} {base : Nat} {held : Bool}
theorem two {α : Type} {l : List α} (h : l.length = 2) : ∃ a b, l = [a, b] := by
  match l, h with
  | [a, b], _ => exact ⟨a, b, rfl⟩
end
def smallL (L : List (List Int)) : Bool := decide (L.length ≤ 300) && decide ((joinL L).length ≤ 3000)
theorem sizeN_mem {l : List Nat} {m : Nat} (h : m ∈ l) : m ≤ sizeN l := by
  induction l with
  | nil => cases h
  | cons a r ih =>
    rw [sizeN_cons]
    rcases List.mem_cons.1 h with rfl | h
    · omega
    · have := ih h; omega
section
open Go.RowKit Go.ChangeShapes Go.WideShapes Go.Deep
/-- each line is within the reach -/
def WideL (L : List (List Int)) : Prop := ∀ x ∈ L, x.length ≤ 35184372088832
end
section
open Go.RowKit Go.ChangeShapes Go.WideShapes Go.Deep
theorem WideL.size {L : List (List Int)} (h : WideL L) (hn : L.length ≤ 300) : sizeN (lens L) ≤ 4611686018427387904 := by
  have h1 : ∀ (M : List (List Int)), (∀ x ∈ M, x.length ≤ 35184372088832) → sizeN (lens M) ≤ M.length * 35184372088833 := by
    intro M hM
    induction M with
    | nil => simp [lens, sizeN_nil]
    | cons a r ih =>
      have h2 := ih (fun x hx => hM x (by simp [hx]))
      have h3 := hM a (by simp)
      simp only [lens, List.map_cons, sizeN_cons, List.length_cons] at h2 ⊢
      rw [Nat.succ_mul]
      omega
  have := h1 L h
  have h4 : L.length * 35184372088833 ≤ 300 * 35184372088833 := Nat.mul_le_mul_right _ hn
  omega
end
section
open Go.RowKit Go.ChangeShapes Go.WideShapes Go.Deep
theorem smallL_wide {L : List (List Int)} (h : smallL L = true) : sizeN (lens L) ≤ 262144 := by
  unfold smallL at h
  rw [Bool.and_eq_true, decide_eq_true_eq, decide_eq_true_eq] at h
  by_cases hne : L = []
  · subst hne; simp [lens, sizeN_nil]
  · have := joinL_len hne
    omega
end
section
open Go.RowKit Go.ChangeShapes Go.WideShapes Go.Deep
theorem small_wide (F : Nat → Prop) (a : Option Addr) (n c : Nat) (L : List (List Int)) (w : World) (h : RdL F w a n c L) (hw : WideL L) :
    Calls Tryd.prog 17 #[.slice a n c] w fun e w' => e = .returned (.bool (smallL L)) ∧ w = w' := by
  have hl := h.len
  have hsm := h.small
  by_cases h1 : n ≤ 300
  · have hsz := hw.size (by omega)
    have HR := Lib.hid (rrunes_any F a n c L w h hsz)
    unfold smallL
    rw [hl]
    have hjl := joinL_len_le L
    obtain ⟨R, hR⟩ : ∃ R, (joinL L).length = R := ⟨_, rfl⟩
    rw [hR] at HR hjl ⊢
    clear h hl hR hw
    have t1 : decide ((n : Int) ≤ 300) = true := by simp; omega
    have d1 : decide (n ≤ 300) = true := by simp; omega
    have t1' : (n : Int) ≤ 300 := by omega
    rw [d1, Bool.true_and]
    by_cases h2 : R ≤ 3000
    · have t2 : decide ((R : Int) ≤ 3000) = true := by simp; omega
      have d2 : decide (R ≤ 3000) = true := by simp; omega
      rw [d2]
      clear d1 d2
      go_enter Tryd.func17, Tryd.ntmps17
      go_wp2_with (go_at_call 26; refine HR.out.mono ?_; rintro e w' ⟨rfl, rfl⟩)
      go_ret
      exact ⟨by first | rfl | (simp; omega), rfl⟩
    · have t2 : decide ((R : Int) ≤ 3000) = false := by simp; omega
      have d2 : decide (R ≤ 3000) = false := by simp; omega
      rw [d2]
      clear d1 d2
      go_enter Tryd.func17, Tryd.ntmps17
      go_wp2_with (go_at_call 26; refine HR.out.mono ?_; rintro e w' ⟨rfl, rfl⟩)
      go_ret
      exact ⟨by first | rfl | (simp; omega), rfl⟩
  · unfold smallL
    rw [hl]
    clear h hl hw
    have t1 : decide ((n : Int) ≤ 300) = false := by simp; omega
    have d1 : decide (n ≤ 300) = false := by simp; omega
    rw [d1, Bool.false_and]
    clear d1
    go_enter Tryd.func17, Tryd.ntmps17
    go_wp2_with fail
    go_ret
    exact ⟨by first | rfl | (simp; omega), rfl⟩
end
section
open Go.RowKit Go.ChangeShapes Go.WideShapes Go.Deep
variable {H : Type} {enc : TypeId × Value → H} {w : World} {base : Nat} {held : Bool}
/-- all that is read weighs no more than the reach -/
def Lite (t : TypeId) (d : DataW H) : Prop := ∀ n ∈ d.weights Tryd.prog t, n ≤ reachBytes
end
section
open Go.RowKit Go.ChangeShapes Go.WideShapes Go.Deep
variable {H : Type} {enc : TypeId × Value → H} {w : World} {base : Nat} {held : Bool}
theorem bytesI : Tryd.prog.bytesOf 21 = 4 := by kernel_rfl
end
section
open Go.RowKit Go.ChangeShapes Go.WideShapes Go.Deep
variable {H : Type} {enc : TypeId × Value → H} {w : World} {base : Nat} {held : Bool}
theorem weights_all {e : TypeId} {l : List (DataW H)} {d : DataW H} (h : d ∈ l) : ∀ n ∈ d.weights Tryd.prog e, n ∈ DataW.weightsAll Tryd.prog e l := by
  induction l with
  | nil => cases h
  | cons x r ih =>
    intro n hn
    rw [DataW.weightsAll, List.mem_append]
    rcases List.mem_cons.1 h with rfl | h
    · exact .inl hn
    · exact .inr (ih h n hn)
end
section
open Go.RowKit Go.ChangeShapes Go.WideShapes Go.Deep
variable {H : Type} {enc : TypeId × Value → H} {w : World} {base : Nat} {held : Bool}
theorem open_LW {m : Nat} {v : Value} {y : DataW H × List MemPlace} (h : DataW.trod enc Tryd.prog w base (fun _ => true) held m 32 [v] = some y) :
    ∃ a len cap zs, v = .slice a len cap ∧ Rd .i32 w a len cap zs ∧ (Lite 32 y.1 → len ≤ 35184372088832) := by
  rcases open_ints Tryd.underlying32 Tryd.underlying21 (by kernel_rfl) h with ⟨hcs, hx⟩ | ⟨x, l, c, zs, hcs, _, hl, hm, hz, hx, hcell, hwz⟩
  · simp at hcs
    exact ⟨none, 0, 0, [], hcs, Rd.none0 _ _, fun _ => by omega⟩
  · simp at hcs
    refine ⟨some x, l, c, zs.take l, hcs, Rd_of_row (.inr ⟨_, rfl, hl, hm, by simpa using hz, hcell, hwz⟩), fun hL => ?_⟩
    rw [hx] at hL
    have h1 := hL (((lits (H := H) .i32 (zs.take l)).length + (lits (H := H) .i32 (zs.drop l)).length) * Tryd.prog.bytesOf 21) (by simp [DataW.weights, Tryd.underlying32])
    rw [bytesI] at h1
    have hz' : zs.length = c := by simpa using hz
    simp only [lits, List.length_map, List.length_take, List.length_drop, reachBytes] at h1
    omega
end
section
open Go.RowKit Go.ChangeShapes Go.WideShapes Go.Deep
variable {H : Type} {enc : TypeId × Value → H} {w : World} {base : Nat} {held : Bool}
theorem open_linesW {m : Nat} {v : Value} {y : DataW H × List MemPlace} (h : DataW.trod enc Tryd.prog w base (fun _ => true) held m 22 [v] = some y) :
    ∃ a len cap L, v = .slice a len cap ∧ RdL (fun k => k < w.heap.size) w a len cap L ∧ (Lite 22 y.1 → WideL L) := by
  rcases open_slice1 Tryd.underlying22 (by kernel_rfl) h with ⟨hcs, hx⟩ | ⟨ad, len, cap, mm, n, V, D, Pl, hcs, _, hl, hm, hmm, hx, hi⟩
  · simp at hcs
    exact ⟨none, 0, 0, [], hcs, RdL.none0 _ _, fun _ x hx => by cases hx⟩
  · simp at hcs
    simp at hmm
    have one : ∀ i, i < len → ∃ x : List Int, (∃ ra rc, V i = .slice ra x.length rc ∧ Rd .i32 w ra x.length rc x) ∧ (Lite 32 (D i) → x.length ≤ 35184372088832) := by
      intro i hlt
      obtain ⟨ra, n', rc, zs, e1, e2, e3⟩ := open_LW (hi i (by omega)).2
      have e4 := e2.1
      subst e4
      exact ⟨zs, ⟨ra, rc, e1, e2⟩, e3⟩
    obtain ⟨X, hX⟩ : ∃ X : Nat → List Int, ∀ i, i < len → (∃ ra rc, V i = .slice ra (X i).length rc ∧ Rd .i32 w ra (X i).length rc (X i)) ∧ (Lite 32 (D i) → (X i).length ≤ 35184372088832) := by
      refine ⟨fun i => if h : i < len then Classical.choose (one i h) else [], fun i h => ?_⟩
      simp only [h, ↓reduceDIte]
      exact Classical.choose_spec (one i h)
    refine ⟨some ad, len, cap, (List.range len).map X, hcs, ⟨(List.range len).map V, ⟨by simp, hl, hm, (fun e => by cases e), fun hp => ?_⟩, ?_, by simp, fun i x hx => ?_⟩, fun hL x hx => ?_⟩
    · obtain ⟨b, off, spot⟩ := ad
      have h0 := (hi 0 (by omega)).1
      have hspot : spot = none := by simpa [Addr.add] using World.cell?_spot h0
      subst hspot
      have he : ∀ j, (⟨b, off, none⟩ : Addr).add j = ⟨b, off + j, none⟩ := by
        intro j
        by_cases h0 : j = 0
        · subst h0; rfl
        · simp [Addr.add]; intro hj; exact absurd hj h0
      rw [he] at h0
      refine ⟨b, off, rfl, block_lt_of_cell h0, fun j u hu => ?_⟩
      have hj := (List.getElem?_eq_some_iff.1 hu).1
      simp only [List.length_map, List.length_range] at hj
      have h1 := (hi j (by omega)).1
      rw [he] at h1
      rw [h1]
      simpa [List.getElem?_map, List.getElem?_range hj] using hu
    · intro hp a0 e
      cases e
      have h0 := (hi 0 (by omega)).1
      obtain ⟨b, off, spot⟩ := ad
      have hspot : spot = none := by simpa [Addr.add] using World.cell?_spot h0
      subst hspot
      have he : (⟨b, off, none⟩ : Addr).add 0 = ⟨b, off, none⟩ := rfl
      rw [he] at h0
      exact block_lt_of_cell h0
    · have hl2 := (List.getElem?_eq_some_iff.1 hx).1
      simp only [List.length_map, List.length_range] at hl2
      have hxe : X i = x := by simpa [List.getElem?_map, List.getElem?_range hl2] using hx
      obtain ⟨⟨ra, rc, e1, e2⟩, _⟩ := hX i hl2
      rw [hxe] at e1 e2
      exact ⟨ra, rc, by simp [List.getElem?_map, List.getElem?_range hl2, e1], e2, e2.inHeap⟩
    · rw [List.mem_map] at hx
      obtain ⟨i, hi2, rfl⟩ := hx
      rw [List.mem_range] at hi2
      refine (hX i hi2).2 (fun n hn => hL n ?_)
      rw [hx]
      have h1 := weights_all (H := H) (e := 32) (l := (List.range len).map D) (d := D i) (List.mem_map.2 ⟨i, by simpa using hi2, rfl⟩) n hn
      simp only [DataW.weights, Tryd.underlying22, List.mem_cons, List.mem_append]
      exact .inr (.inl h1)
end
section
open Go.RowKit Go.ChangeShapes Go.WideShapes Go.Deep
variable {H : Type} {enc : TypeId × Value → H} {w : World} {base : Nat} {held : Bool}
/-- lines, as an argument -/
theorem open_lines_argW {r : Reach} {b0 : Nat} {v : Value} {d : DataW H} {p : List MemPlace} (hv : Value.okWide Tryd.prog w r b0 22 v) (h : DataW.Trod enc Tryd.prog w base (fun _ => true) held 22 v d p) (hL : Lite 22 d) :
    ∃ a len cap L, v = .slice a len cap ∧ RdL (fun k => k < w.heap.size) w a len cap L ∧ WideL L := by
  obtain ⟨a, len, cap, rfl⟩ := okWide_slice Tryd.underlying22 hv
  obtain ⟨fuel, hf⟩ := h
  obtain ⟨a', l', c', L, h1, h2, h3⟩ := open_linesW (y := (d, p)) (by simpa [Value.cells] using hf)
  exact ⟨a', l', c', L, h1, h2, h3 hL⟩
end
section
open Go.RowKit Go.ChangeShapes Go.WideShapes Go.Deep
variable {H : Type} {enc : TypeId × Value → H} {w : World} {base : Nat} {held : Bool}
/-- what a row's reading weighs, argument by argument -/
theorem lite_of {ts : List TypeId} {ds : List (DataW H)} (h : (DataW.weightsEach Tryd.prog ts ds).all (· ≤ reachBytes) = true) {j : Nat} {t : TypeId} {d : DataW H} (ht : ts[j]? = some t) (hd : ds[j]? = some d) : Lite t d := fun n hn => by
  have := List.all_eq_true.1 h n (DataW.weights_mem_each ht hd n hn)
  simpa using this
end
/-- a place -/
structure Po where
  l : Int
  c : Int
  deriving DecidableEq, Inhabited
def Po.v (p : Po) : Value := .agg #[.int .i64 p.l, .int .i64 p.c]
def po0 : Po := ⟨0, 0⟩
def i64p (p : Po) : Prop := i64b p.l ∧ i64b p.c
def Po.cells (p : Po) : List Value := [.int .i64 p.l, .int .i64 p.c]
def fl (ps : List Po) : List Value := ps.flatMap Po.cells
theorem fl_cons (p : Po) (ps : List Po) : fl (p :: ps) = p.cells ++ fl ps := by simp [fl]
theorem fl_len (ps : List Po) : (fl ps).length = ps.length * 2 := by
  induction ps with
  | nil => rfl
  | cons x r ih => rw [fl_cons, List.length_append, ih]; simp [Po.cells]; omega
theorem fl_drop : ∀ (ps : List Po) (i : Nat), (fl ps).drop (i * 2) = fl (ps.drop i)
  | [], i => by simp [fl]
  | p :: r, 0 => by simp [fl]
  | p :: r, i + 1 => by
    rw [fl_cons, List.drop_succ_cons, show (i + 1) * 2 = p.cells.length + i * 2 from by simp [Po.cells]; omega, List.drop_length_add_append, fl_drop r i]
theorem fl_at (ps : List Po) (i j : Nat) (p : Po) (hp : ps[i]? = some p) (hj : j < 2) : (fl ps)[i * 2 + j]? = p.cells[j]? := by
  have h : (fl ps).drop (i * 2) = p.cells ++ fl (ps.drop (i + 1)) := by
    obtain ⟨hi, e⟩ := List.getElem?_eq_some_iff.1 hp
    rw [fl_drop, List.drop_eq_getElem_cons hi, fl_cons, e]
  rw [← List.getElem?_drop, h, List.getElem?_append_left (by simp [Po.cells]; omega)]
/-- the i-th place of a row that is read -/
theorem Rc.po {w W : World} {a : Option Addr} {n c i : Nat} {ps : List Po} (h : Rc w a n c 2 (fl ps)) (hb : Below w.heap.size w W) (hi : i < n) :
    ∃ b off, a = some ⟨b, off, none⟩ ∧ b < w.heap.size ∧ ps.length = n ∧ W.cell? ⟨b, off + i * 2, none⟩ = some (.int .i64 (ps.getD i po0).l) ∧ W.cell? ⟨b, off + i * 2 + 1, none⟩ = some (.int .i64 (ps.getD i po0).c) := by
  have hl := h.1
  rw [fl_len] at hl
  have hl : ps.length = n := by omega
  obtain ⟨b, off, rfl, hbl, hc⟩ := h.at_ (by omega)
  have hp : ps[i]? = some (ps.getD i po0) := by rw [List.getD_eq_getElem?_getD, List.getElem?_eq_getElem (by omega)]; rfl
  have c0 := hc (i * 2) _ (by simpa [Po.cells] using fl_at ps i 0 _ hp (by omega))
  have c1 := hc (i * 2 + 1) _ (by simpa [Po.cells] using fl_at ps i 1 _ hp (by omega))
  rw [← Nat.add_assoc] at c1
  exact ⟨b, off, rfl, hbl, hl, (hb.cell (p := ⟨b, off + i * 2, none⟩) hbl).trans c0, (hb.cell (p := ⟨b, off + i * 2 + 1, none⟩) hbl).trans c1⟩
section
open Go.RowKit Go.ChangeShapes Go.WideShapes Go.Deep
theorem twoL {α : Type} {l : List α} (h : l.length = 2) : ∃ a b, l = [a, b] := by
  match l, h with
  | [a, b], _ => exact ⟨a, b, rfl⟩
end
section
open Go.RowKit Go.ChangeShapes Go.WideShapes Go.Deep
variable {H : Type} {enc : TypeId × Value → H} {w : World} {base : Nat} {held : Bool}
theorem po_of {m : Nat} {cs : List Value} {y : DataW H × List MemPlace} (h : DataW.trod enc Tryd.prog w base (fun _ => true) held m 24 cs = some y) : ∃ q : Po, cs = q.cells ∧ i64p q := by
  have hC : Tryd.prog.cellsOf 24 = 2 := by kernel_rfl
  obtain ⟨ys, n', _, hy, hcl, hyl, hf⟩ := DataW.trod_struct Tryd.underlying24 h
  rw [hC] at hcl
  obtain ⟨v0, v1, rfl⟩ := twoL hcl
  obtain ⟨y0, y1, rfl⟩ := twoL (l := ys) hyl
  have g0 : DataW.trod enc Tryd.prog w base (fun _ => true) held n' 3 [v0] = some y0 := hf 0 _ rfl
  have g1 : DataW.trod enc Tryd.prog w base (fun _ => true) held n' 3 [v1] = some y1 := hf 1 _ rfl
  obtain ⟨p, e0, _, w0⟩ := DataW.trod_int Tryd.underlying3 g0
  obtain ⟨r, e1, _, w1⟩ := DataW.trod_int Tryd.underlying3 g1
  simp at e0 e1
  subst e0 e1
  exact ⟨⟨p, r⟩, rfl, wf_i64b w0, wf_i64b w1⟩
end
section
open Go.RowKit Go.ChangeShapes Go.WideShapes Go.Deep
variable {H : Type} {enc : TypeId × Value → H} {w : World} {base : Nat} {held : Bool}
theorem open_pos {r : Reach} {b0 : Nat} {v : Value} {d : DataW H} {p : List MemPlace} (hv : Value.okWide Tryd.prog w r b0 24 v) (h : DataW.Trod enc Tryd.prog w base (fun _ => true) held 24 v d p) :
    ∃ q : Po, v = q.v ∧ i64p q := by
  obtain ⟨cs, rfl, hsz⟩ := okWide_struct Tryd.underlying24 hv
  obtain ⟨fuel, hf⟩ := h
  obtain ⟨q, e, hc⟩ := po_of (y := (d, p)) (cs := cs.toList) (by simpa [Value.cells] using hf)
  refine ⟨q, ?_, hc⟩
  unfold Po.v
  congr 1
  apply Array.toList_inj.1
  rw [e]
  rfl
end
theorem btr {a b c : World} (h : Below a.heap.size a b) (k : Below b.heap.size b c) : Below a.heap.size a c := h.trans (k.mono h.size)
theorem row_any (s : ByteArray) (xs : List Int) (n : Nat) (hn : xs.length = n) (h : Conv.runesFrom s s.size 0 #[] = (xs.map (Value.int .i32)).toArray) (hx : ∀ x ∈ xs, (Lit.int .i32 x).wf = true) (hl : n ≤ 1000) (w : World) :
    Calls Tryd.prog 24 #[.string s] w fun e w' => ∃ a c, e = .returned (.slice a n c) ∧ Hid (Rd .i32 w' a n c xs ∧ Below w.heap.size w w') := by
  subst hn
  have hsz : (Conv.runesFrom s s.size 0 #[]).size = xs.length := by rw [h]; simp
  have hcv := run_runes_of_string (P := Tryd.prog) w 9 32 21 s Tryd.underlying9 Tryd.underlying32 Tryd.underlying21 (by omega)
  rw [hsz, h] at hcv
  obtain ⟨g, hg⟩ : ∃ g, grownCap w xs.length 0 21 = g := ⟨_, rfl⟩
  have hge := grownCap_ge w xs.length 0 21
  have hle := grownCap_le_maxLen w xs.length 0 21 (by unfold maxLen; omega)
  rw [hg] at hcv hge hle
  obtain ⟨W, hW⟩ : ∃ W, (w.drew.alloc (.cells ((xs.map (Value.int .i32)).toArray ++ Array.replicate (g - xs.length) (.int .i32 0)) 21)) = W := ⟨_, rfl⟩
  rw [hW] at hcv
  have hfin : Hid (Rd .i32 W (some ⟨w.heap.size, 0, none⟩) xs.length g xs ∧ Below w.heap.size w W) := by
    rw [← hW]
    refine ⟨⟨rfl, hge, hle, hx, (fun e => by cases e), fun hp => ⟨_, 0, rfl, fun i hi => ?_⟩⟩, (Below.refl _ w).drew.alloc (Nat.le_refl _) _⟩
    have := heap_alloc_new w.drew (.cells ((xs.map (Value.int .i32)).toArray ++ Array.replicate (g - xs.length) (.int .i32 0)) 21)
    have h2 := cell_of_row _ w.drew.heap.size (0 + i) _ _ _ this
    refine h2.trans ?_
    rw [Nat.zero_add, Array.getElem?_append_left (by simp; exact hi)]
    simp only [List.getElem?_toArray, List.getElem?_map]
    rw [List.getElem?_eq_getElem hi, List.getD_eq_getElem?_getD, List.getElem?_eq_getElem hi]
    rfl
  clear hW hg hge hle h hsz
  go_enter Tryd.func24, Tryd.ntmps24
  go_wp2
  go_ret
  exact ⟨_, _, rfl, hfin⟩
theorem rword_any (c : Int) (w : World) :
    Calls Tryd.prog 25 #[.int .i32 c] w fun e w' => e = .returned (.bool (wordR c)) ∧ w = w' := by
  have hall : c ≤ 47 ∨ (48 ≤ c ∧ c ≤ 57) ∨ (58 ≤ c ∧ c ≤ 64) ∨ (65 ≤ c ∧ c ≤ 90) ∨ (91 ≤ c ∧ c ≤ 94) ∨ c = 95 ∨ c = 96 ∨ (97 ≤ c ∧ c ≤ 122) ∨ (123 ≤ c ∧ c ≤ 127) ∨ 128 ≤ c := by omega
  rcases hall with ha | ha | ha | ha | ha | ha | ha | ha | ha | ha
  · have ha1 := ha
    have t0 : ¬ 48 ≤ c := by omega
    have d0 : decide (48 ≤ c) = false := by simp; omega
    have t1 : c ≤ 57 := by omega
    have d1 : decide (c ≤ 57) = true := by simp; omega
    have t2 : ¬ 65 ≤ c := by omega
    have d2 : decide (65 ≤ c) = false := by simp; omega
    have t3 : c ≤ 90 := by omega
    have d3 : decide (c ≤ 90) = true := by simp; omega
    have t4 : ¬ 97 ≤ c := by omega
    have d4 : decide (97 ≤ c) = false := by simp; omega
    have t5 : c ≤ 122 := by omega
    have d5 : decide (c ≤ 122) = true := by simp; omega
    have t6 : ¬ 128 ≤ c := by omega
    have d6 : decide (128 ≤ c) = false := by simp; omega
    have e1 : (c == 95) = false := by simp; omega
    have e2 : decide (c = 95) = false := by simp; omega
    have hw : wordR c = false := by simp [wordR]; omega
    rw [hw]
    clear hw e2
    go_enter Tryd.func25, Tryd.ntmps25
    go_wp2
    go_ret
    exact ⟨rfl, rfl⟩
  · obtain ⟨ha1, ha2⟩ := ha
    have t0 : 48 ≤ c := by omega
    have d0 : decide (48 ≤ c) = true := by simp; omega
    have t1 : c ≤ 57 := by omega
    have d1 : decide (c ≤ 57) = true := by simp; omega
    have t2 : ¬ 65 ≤ c := by omega
    have d2 : decide (65 ≤ c) = false := by simp; omega
    have t3 : c ≤ 90 := by omega
    have d3 : decide (c ≤ 90) = true := by simp; omega
    have t4 : ¬ 97 ≤ c := by omega
    have d4 : decide (97 ≤ c) = false := by simp; omega
    have t5 : c ≤ 122 := by omega
    have d5 : decide (c ≤ 122) = true := by simp; omega
    have t6 : ¬ 128 ≤ c := by omega
    have d6 : decide (128 ≤ c) = false := by simp; omega
    have e1 : (c == 95) = false := by simp; omega
    have e2 : decide (c = 95) = false := by simp; omega
    have hw : wordR c = true := by simp [wordR]; omega
    rw [hw]
    clear hw e2
    go_enter Tryd.func25, Tryd.ntmps25
    go_wp2
    go_ret
    exact ⟨rfl, rfl⟩
  · obtain ⟨ha1, ha2⟩ := ha
    have t0 : 48 ≤ c := by omega
    have d0 : decide (48 ≤ c) = true := by simp; omega
    have t1 : ¬ c ≤ 57 := by omega
    have d1 : decide (c ≤ 57) = false := by simp; omega
    have t2 : ¬ 65 ≤ c := by omega
    have d2 : decide (65 ≤ c) = false := by simp; omega
    have t3 : c ≤ 90 := by omega
    have d3 : decide (c ≤ 90) = true := by simp; omega
    have t4 : ¬ 97 ≤ c := by omega
    have d4 : decide (97 ≤ c) = false := by simp; omega
    have t5 : c ≤ 122 := by omega
    have d5 : decide (c ≤ 122) = true := by simp; omega
    have t6 : ¬ 128 ≤ c := by omega
    have d6 : decide (128 ≤ c) = false := by simp; omega
    have e1 : (c == 95) = false := by simp; omega
    have e2 : decide (c = 95) = false := by simp; omega
    have hw : wordR c = false := by simp [wordR]; omega
    rw [hw]
    clear hw e2
    go_enter Tryd.func25, Tryd.ntmps25
    go_wp2
    go_ret
    exact ⟨rfl, rfl⟩
  · obtain ⟨ha1, ha2⟩ := ha
    have t0 : 48 ≤ c := by omega
    have d0 : decide (48 ≤ c) = true := by simp; omega
    have t1 : ¬ c ≤ 57 := by omega
    have d1 : decide (c ≤ 57) = false := by simp; omega
    have t2 : 65 ≤ c := by omega
    have d2 : decide (65 ≤ c) = true := by simp; omega
    have t3 : c ≤ 90 := by omega
    have d3 : decide (c ≤ 90) = true := by simp; omega
    have t4 : ¬ 97 ≤ c := by omega
    have d4 : decide (97 ≤ c) = false := by simp; omega
    have t5 : c ≤ 122 := by omega
    have d5 : decide (c ≤ 122) = true := by simp; omega
    have t6 : ¬ 128 ≤ c := by omega
    have d6 : decide (128 ≤ c) = false := by simp; omega
    have e1 : (c == 95) = false := by simp; omega
    have e2 : decide (c = 95) = false := by simp; omega
    have hw : wordR c = true := by simp [wordR]; omega
    rw [hw]
    clear hw e2
    go_enter Tryd.func25, Tryd.ntmps25
    go_wp2
    go_ret
    exact ⟨rfl, rfl⟩
  · obtain ⟨ha1, ha2⟩ := ha
    have t0 : 48 ≤ c := by omega
    have d0 : decide (48 ≤ c) = true := by simp; omega
    have t1 : ¬ c ≤ 57 := by omega
    have d1 : decide (c ≤ 57) = false := by simp; omega
    have t2 : 65 ≤ c := by omega
    have d2 : decide (65 ≤ c) = true := by simp; omega
    have t3 : ¬ c ≤ 90 := by omega
    have d3 : decide (c ≤ 90) = false := by simp; omega
    have t4 : ¬ 97 ≤ c := by omega
    have d4 : decide (97 ≤ c) = false := by simp; omega
    have t5 : c ≤ 122 := by omega
    have d5 : decide (c ≤ 122) = true := by simp; omega
    have t6 : ¬ 128 ≤ c := by omega
    have d6 : decide (128 ≤ c) = false := by simp; omega
    have e1 : (c == 95) = false := by simp; omega
    have e2 : decide (c = 95) = false := by simp; omega
    have hw : wordR c = false := by simp [wordR]; omega
    rw [hw]
    clear hw e2
    go_enter Tryd.func25, Tryd.ntmps25
    go_wp2
    go_ret
    exact ⟨rfl, rfl⟩
  · have ha1 := ha
    have t0 : 48 ≤ c := by omega
    have d0 : decide (48 ≤ c) = true := by simp; omega
    have t1 : ¬ c ≤ 57 := by omega
    have d1 : decide (c ≤ 57) = false := by simp; omega
    have t2 : 65 ≤ c := by omega
    have d2 : decide (65 ≤ c) = true := by simp; omega
    have t3 : ¬ c ≤ 90 := by omega
    have d3 : decide (c ≤ 90) = false := by simp; omega
    have t4 : ¬ 97 ≤ c := by omega
    have d4 : decide (97 ≤ c) = false := by simp; omega
    have t5 : c ≤ 122 := by omega
    have d5 : decide (c ≤ 122) = true := by simp; omega
    have t6 : ¬ 128 ≤ c := by omega
    have d6 : decide (128 ≤ c) = false := by simp; omega
    have e1 : (c == 95) = true := by simp; omega
    have e2 : decide (c = 95) = true := by simp; omega
    have hw : wordR c = true := by simp [wordR]; omega
    rw [hw]
    clear hw e2
    go_enter Tryd.func25, Tryd.ntmps25
    go_wp2
    go_ret
    exact ⟨rfl, rfl⟩
  · have ha1 := ha
    have t0 : 48 ≤ c := by omega
    have d0 : decide (48 ≤ c) = true := by simp; omega
    have t1 : ¬ c ≤ 57 := by omega
    have d1 : decide (c ≤ 57) = false := by simp; omega
    have t2 : 65 ≤ c := by omega
    have d2 : decide (65 ≤ c) = true := by simp; omega
    have t3 : ¬ c ≤ 90 := by omega
    have d3 : decide (c ≤ 90) = false := by simp; omega
    have t4 : ¬ 97 ≤ c := by omega
    have d4 : decide (97 ≤ c) = false := by simp; omega
    have t5 : c ≤ 122 := by omega
    have d5 : decide (c ≤ 122) = true := by simp; omega
    have t6 : ¬ 128 ≤ c := by omega
    have d6 : decide (128 ≤ c) = false := by simp; omega
    have e1 : (c == 95) = false := by simp; omega
    have e2 : decide (c = 95) = false := by simp; omega
    have hw : wordR c = false := by simp [wordR]; omega
    rw [hw]
    clear hw e2
    go_enter Tryd.func25, Tryd.ntmps25
    go_wp2
    go_ret
    exact ⟨rfl, rfl⟩
  · obtain ⟨ha1, ha2⟩ := ha
    have t0 : 48 ≤ c := by omega
    have d0 : decide (48 ≤ c) = true := by simp; omega
    have t1 : ¬ c ≤ 57 := by omega
    have d1 : decide (c ≤ 57) = false := by simp; omega
    have t2 : 65 ≤ c := by omega
    have d2 : decide (65 ≤ c) = true := by simp; omega
    have t3 : ¬ c ≤ 90 := by omega
    have d3 : decide (c ≤ 90) = false := by simp; omega
    have t4 : 97 ≤ c := by omega
    have d4 : decide (97 ≤ c) = true := by simp; omega
    have t5 : c ≤ 122 := by omega
    have d5 : decide (c ≤ 122) = true := by simp; omega
    have t6 : ¬ 128 ≤ c := by omega
    have d6 : decide (128 ≤ c) = false := by simp; omega
    have e1 : (c == 95) = false := by simp; omega
    have e2 : decide (c = 95) = false := by simp; omega
    have hw : wordR c = true := by simp [wordR]; omega
    rw [hw]
    clear hw e2
    go_enter Tryd.func25, Tryd.ntmps25
    go_wp2
    go_ret
    exact ⟨rfl, rfl⟩
  · obtain ⟨ha1, ha2⟩ := ha
    have t0 : 48 ≤ c := by omega
    have d0 : decide (48 ≤ c) = true := by simp; omega
    have t1 : ¬ c ≤ 57 := by omega
    have d1 : decide (c ≤ 57) = false := by simp; omega
    have t2 : 65 ≤ c := by omega
    have d2 : decide (65 ≤ c) = true := by simp; omega
    have t3 : ¬ c ≤ 90 := by omega
    have d3 : decide (c ≤ 90) = false := by simp; omega
    have t4 : 97 ≤ c := by omega
    have d4 : decide (97 ≤ c) = true := by simp; omega
    have t5 : ¬ c ≤ 122 := by omega
    have d5 : decide (c ≤ 122) = false := by simp; omega
    have t6 : ¬ 128 ≤ c := by omega
    have d6 : decide (128 ≤ c) = false := by simp; omega
    have e1 : (c == 95) = false := by simp; omega
    have e2 : decide (c = 95) = false := by simp; omega
    have hw : wordR c = false := by simp [wordR]; omega
    rw [hw]
    clear hw e2
    go_enter Tryd.func25, Tryd.ntmps25
    go_wp2
    go_ret
    exact ⟨rfl, rfl⟩
  · have ha1 := ha
    have t0 : 48 ≤ c := by omega
    have d0 : decide (48 ≤ c) = true := by simp; omega
    have t1 : ¬ c ≤ 57 := by omega
    have d1 : decide (c ≤ 57) = false := by simp; omega
    have t2 : 65 ≤ c := by omega
    have d2 : decide (65 ≤ c) = true := by simp; omega
    have t3 : ¬ c ≤ 90 := by omega
    have d3 : decide (c ≤ 90) = false := by simp; omega
    have t4 : 97 ≤ c := by omega
    have d4 : decide (97 ≤ c) = true := by simp; omega
    have t5 : ¬ c ≤ 122 := by omega
    have d5 : decide (c ≤ 122) = false := by simp; omega
    have t6 : 128 ≤ c := by omega
    have d6 : decide (128 ≤ c) = true := by simp; omega
    have e1 : (c == 95) = false := by simp; omega
    have e2 : decide (c = 95) = false := by simp; omega
    have hw : wordR c = true := by simp [wordR]; omega
    rw [hw]
    clear hw e2
    go_enter Tryd.func25, Tryd.ntmps25
    go_wp2
    go_ret
    exact ⟨rfl, rfl⟩
theorem rclass_any (c : Int) (big : Bool) (w : World) :
    Calls Tryd.prog 14 #[.int .i32 c, .bool big] w fun e w' => e = .returned (.int .i64 (cls big c)) ∧ w = w' := by
  by_cases h1 : c = 32
  · have e1 : (c == 32) = true := by simp [h1]
    have hc : cls big c = 0 := by simp [cls, h1]
    rw [hc]
    clear hc h1
    go_enter Tryd.func14, Tryd.ntmps14
    go_wp2
    go_ret
    exact ⟨rfl, rfl⟩
  have e1 : (c == 32) = false := by simp [h1]
  by_cases h2 : c = 9
  · have e2 : (c == 9) = true := by simp [h2]
    have hc : cls big c = 0 := by simp [cls, h2]
    rw [hc]
    clear hc h1 h2
    go_enter Tryd.func14, Tryd.ntmps14
    go_wp2
    go_ret
    exact ⟨rfl, rfl⟩
  have e2 : (c == 9) = false := by simp [h2]
  cases big with
  | true =>
    have hc : cls true c = 1 := by simp [cls, h1, h2]
    rw [hc]
    clear hc h1 h2
    go_enter Tryd.func14, Tryd.ntmps14
    go_wp2
    go_ret
    exact ⟨rfl, rfl⟩
  | false =>
    obtain ⟨b, hb⟩ : ∃ b, wordR c = b := ⟨_, rfl⟩
    have hc : cls false c = if b = true then 1 else 2 := by simp [cls, h1, h2, hb]
    rw [hc]
    have HW := Lib.hid (rword_any c)
    rw [hb] at HW
    clear hc h1 h2 hb
    go_enter Tryd.func14, Tryd.ntmps14
    cases b
    · go_wp2_with (go_at_call 25; refine (HW.out _).mono ?_; rintro e w' ⟨rfl, rfl⟩)
      go_ret
      exact ⟨rfl, rfl⟩
    · go_wp2_with (go_at_call 25; refine (HW.out _).mono ?_; rintro e w' ⟨rfl, rfl⟩)
      go_ret
      exact ⟨rfl, rfl⟩
/-- a place as the program has it -/
def plV (p : Pl) : Value := .agg #[.int .i64 (p.1 : Nat), .int .i64 (p.2 : Nat)]
theorem rahead_any (p q : Pl) (w : World) :
    Calls Tryd.prog 13 #[plV p, plV q] w fun e w' => e = .returned (.bool (aheadP p q)) ∧ Below w.heap.size w w' := by
  obtain ⟨a, b⟩ := p
  obtain ⟨c, d⟩ := q
  show Calls Tryd.prog 13 #[.agg #[.int .i64 (a : Nat), .int .i64 (b : Nat)], .agg #[.int .i64 (c : Nat), .int .i64 (d : Nat)]] w _
  by_cases h1 : a < c
  · have d1 : decide ((a : Int) < (c : Int)) = true := by simp; omega
    have hr : aheadP (a, b) (c, d) = true := by rw [aheadP_iff]; exact Or.inl h1
    rw [hr]
    clear hr
    go_enter Tryd.func13, Tryd.ntmps13
    go_wp2
    go_ret
    exact ⟨ret_bool (by first | rfl | (simp; omega)), ((Below.refl _ w).alloc (Nat.le_refl _) _).alloc (by simp) _⟩
  have d1 : decide ((a : Int) < (c : Int)) = false := by simp; omega
  by_cases h2 : a = c
  · subst h2
    have e1 : ((a : Int) == (a : Int)) = true := by simp
    by_cases h3 : b < d
    · have d2 : decide ((b : Int) < (d : Int)) = true := by simp; omega
      have hr : aheadP (a, b) (a, d) = true := by rw [aheadP_iff]; exact Or.inr ⟨rfl, h3⟩
      rw [hr]
      clear hr
      go_enter Tryd.func13, Tryd.ntmps13
      go_wp2
      go_ret
      exact ⟨ret_bool (by first | rfl | (simp; omega)), ((Below.refl _ w).alloc (Nat.le_refl _) _).alloc (by simp) _⟩
    · have d2 : decide ((b : Int) < (d : Int)) = false := by simp; omega
      have hr : aheadP (a, b) (a, d) = false := by simp [aheadP]; omega
      rw [hr]
      clear hr
      go_enter Tryd.func13, Tryd.ntmps13
      go_wp2
      go_ret
      exact ⟨ret_bool (by first | rfl | (simp; omega)), ((Below.refl _ w).alloc (Nat.le_refl _) _).alloc (by simp) _⟩
  · have e1 : ((a : Int) == (c : Int)) = false := by simp; omega
    have hr : aheadP (a, b) (c, d) = false := by simp [aheadP]; omega
    rw [hr]
    clear hr
    go_enter Tryd.func13, Tryd.ntmps13
    go_wp2
    go_ret
    exact ⟨ret_bool (by first | rfl | (simp; omega)), ((Below.refl _ w).alloc (Nat.le_refl _) _).alloc (by simp) _⟩
theorem row2 {w : World} {b : Nat} {ty : TypeId} {v0 v1 : Value} (h : w.heap[b]? = some (.cells #[v0, v1] ty (0, 0))) : w.cell? ⟨b, 0, none⟩ = some v0 ∧ w.cell? ⟨b, 1, none⟩ = some v1 ∧ w.frozen? ⟨b, 0, none⟩ = false ∧ w.frozen? ⟨b, 1, none⟩ = false :=
  ⟨by rw [cell_row h]; rfl, by rw [cell_row h]; rfl, frozen_row h 0, frozen_row h 1⟩
theorem bal (W : World) (o : Obj) : Below W.heap.size W (W.alloc o) := (Below.refl _ W).alloc (Nat.le_refl _) o
theorem setCell_below {B : Nat} {a b : World} (h : Below B a b) (k i : Nat) (v : Value) (hk : B ≤ k) : Below B a (b.setCell ⟨k, i, none⟩ v) := h.setCell hk v
/-- places as cells -/
def plc (p : Pl) : List Value := [.int .i64 (p.1 : Nat), .int .i64 (p.2 : Nat)]
def plcs (ps : List Pl) : List Value := ps.flatMap plc
theorem plcs_append (a b : List Pl) : plcs (a ++ b) = plcs a ++ plcs b := by simp [plcs]
theorem plcs_cons (p : Pl) (a : List Pl) : plcs (p :: a) = plc p ++ plcs a := by simp [plcs]
theorem plcs_one (p : Pl) : plcs [p] = plc p := by simp [plcs]
theorem plcs_len : ∀ ps : List Pl, (plcs ps).length = ps.length * 2
  | [] => rfl
  | p :: r => by rw [plcs_cons, List.length_append, plcs_len r]; simp [plc]; omega
theorem plcs_one1 (ps : List Pl) : ∀ u ∈ plcs ps, u.oneCell' = true := by
  intro u hu
  obtain ⟨p, _, hp⟩ := List.mem_flatMap.1 hu
  simp [plc] at hp
  rcases hp with rfl | rfl <;> rfl
theorem plcs_at : ∀ (ps : List Pl) (i : Nat) {p : Pl}, ps[i]? = some p → (plcs ps)[i * 2]? = some (.int .i64 (p.1 : Nat)) ∧ (plcs ps)[i * 2 + 1]? = some (.int .i64 (p.2 : Nat))
  | [], i, p, h => by simp at h
  | q :: r, 0, p, h => by
    simp only [List.getElem?_cons_zero, Option.some.injEq] at h
    subst h
    rw [plcs_cons]; exact ⟨rfl, rfl⟩
  | q :: r, i + 1, p, h => by
    have := plcs_at r i (p := p) (by simpa using h)
    rw [plcs_cons, show (i + 1) * 2 = i * 2 + 1 + 1 by omega]
    simpa [plc] using this
/-- a row of places that can be read -/
def RdP (w : World) (a : Option Addr) (n c : Nat) (ps : List Pl) : Prop := Rc w a n c 2 (plcs ps)
theorem RdP.len {w a n c ps} (h : RdP w a n c ps) : ps.length = n := by have := h.1; rw [plcs_len] at this; omega
theorem RdP.below {w w' : World} {a n c ps} (h : RdP w a n c ps) (hb : Below w.heap.size w w') : RdP w' a n c ps := Rc.below h hb
theorem RdP.get {w W : World} {a : Option Addr} {n c i : Nat} {ps : List Pl} {p : Pl} (h : RdP w a n c ps) (hb : Below w.heap.size w W) (hp : ps[i]? = some p) :
    ∃ b off, a = some ⟨b, off, none⟩ ∧ b < w.heap.size ∧ W.cell? ⟨b, off + i * 2, none⟩ = some (.int .i64 (p.1 : Nat)) ∧ W.cell? ⟨b, off + i * 2 + 1, none⟩ = some (.int .i64 (p.2 : Nat)) := by
  have hi := (List.getElem?_eq_some_iff.1 hp).1
  obtain ⟨b, off, rfl, hbl, hc⟩ := h.at_ (by rw [← h.len]; omega)
  obtain ⟨c0, c1⟩ := plcs_at ps i hp
  have d0 := hc _ _ c0
  have d1 := hc _ _ c1
  rw [← Nat.add_assoc] at d1
  exact ⟨b, off, rfl, hbl, (hb.cell (p := ⟨b, off + i * 2, none⟩) hbl).trans d0, (hb.cell (p := ⟨b, off + i * 2 + 1, none⟩) hbl).trans d1⟩
theorem infoP : (Tryd.prog.info? 24).map (fun i => (i.zero, i.size, i.bytes)) = some (some (.agg #[.int .i64 0, .int .i64 0]), 2, 16) := by kernel_rfl
/-- append of a place that has just been laid -/
theorem app_pl (w : World) (B : Nat) (v : Value) (n : Nat) (ps : List Pl) (p : Pl) (h : w.ownsRow B 24 2 v n (plcs ps)) (hB : B ≤ w.heap.size) (hn : n ≤ 1000000) :
    ∃ a' c' w', (∀ ty, (Builtin.append_ #[37, 37] ty #[v, .slice (some ⟨w.heap.size, 0, none⟩) 1 1]).run Tryd.prog (w.alloc (.cells #[.int .i64 (p.1 : Nat), .int .i64 (p.2 : Nat)] 24)) = .ok (.slice a' (n + 1) c') w') ∧ w'.ownsRow B 24 2 (.slice a' (n + 1) c') (n + 1) (plcs (ps ++ [p])) ∧ Below B w w' := by
  have hb0 : Below w.heap.size w (w.alloc (.cells #[.int .i64 (p.1 : Nat), .int .i64 (p.2 : Nat)] 24)) := (Below.refl _ w).alloc (Nat.le_refl _) _
  have hg := heap_alloc_new w (.cells #[.int .i64 (p.1 : Nat), .int .i64 (p.2 : Nat)] 24)
  obtain ⟨i0, hi0, hz0, hz1, hz2⟩ := info_parts infoP
  obtain ⟨v', w', hrun, hown, hfr, hnear⟩ := run_append_own_k (P := Tryd.prog) (w.alloc (.cells #[.int .i64 (p.1 : Nat), .int .i64 (p.2 : Nat)] 24)) B 37 24 i0 _ 2 16 Tryd.underlying37 hi0 hz0 hz1 hz2 rfl (by decide) v n _ (h.alloc _) (some ⟨w.heap.size, 0, none⟩) 1 1 (plc p) rfl (fun _ => ⟨_, rfl, fun j u hu => by
      rw [add_lit, cell_row hg, Nat.zero_add]
      simpa [plc] using hu⟩) (fun u hu => plcs_one1 [p] u (by rw [plcs_one]; exact hu)) (by unfold maxLen; omega) (by omega) (by simp; omega)
  obtain ⟨a', c', rfl⟩ := own_slice hown
  refine ⟨a', c', w', hrun, ?_, (hb0.mono hB).trans (hfr.below (by simp; omega) (fun k e => (h.lt k e.symm).1))⟩
  rw [plcs_append, plcs_one]
  exact hown
theorem rclip_any (F : Nat → Prop) (a : Option Addr) (n c : Nat) (L : List (List Int)) (q : Po) (w : World) (h : RdL F w a n c L) (hq : i64p q) :
    Calls Tryd.prog 12 #[.slice a n c, q.v] w fun e w' => e = .returned (plV (clipP L q.l q.c)) ∧ Below w.heap.size w w' := by
  obtain ⟨u, v⟩ := q
  show Calls Tryd.prog 12 #[.slice a n c, .agg #[.int .i64 u, .int .i64 v]] w fun e w' => e = .returned (plV (clipP L u v)) ∧ Below w.heap.size w w'
  obtain ⟨⟨hu1, hu2⟩, hv1, hv2⟩ := hq
  simp only at hu1 hu2 hv1 hv2
  have hl := h.len
  have hsm := h.small
  by_cases h0 : n = 0
  · subst h0
    have hL : L = [] := List.eq_nil_of_length_eq_zero hl
    have hr : clipP L u v = (0, 0) := by rw [hL]; rfl
    rw [hr]
    clear h hl hL hr
    go_enter Tryd.func12, Tryd.ntmps12
    go_wp2
    refine bodyPost_ret (v := plV (0, 0)) ?_ rfl ⟨rfl, ?_⟩
    · rw [results_cell1 rfl]
      go_simp
      rfl
    · (repeat' (refine setCell_below ?_ _ _ _ ?_)) <;> first | exact ((Below.refl _ w).alloc (Nat.le_refl _) _).alloc (by simp) _ | omega
  · have hne : ((n : Int) == 0) = false := by simp; omega
    have hne2 : ¬ n = 0 := h0
    have hL : L ≠ [] := by rintro rfl; simp at hl; omega
    obtain ⟨k, hk⟩ : ∃ k, clipN n u = k := ⟨_, rfl⟩
    have hkn : k < n := by rw [← hk]; exact clipN_lt u (by omega)
    obtain ⟨x, hx⟩ : ∃ x, L[k]? = some x := ⟨L[k]'(by omega), List.getElem?_eq_getElem _⟩
    obtain ⟨b, off, ra, rc, rfl, hbl, hF, e0, hrd, -, -⟩ := h.get (Below.refl _ w) hx
    have hxs := hrd.small
    obtain ⟨m, hm⟩ : ∃ m, x.length = m := ⟨_, rfl⟩
    rw [hm] at e0 hxs
    have hr : clipP L u v = (k, clipN m v) := by
      unfold clipP
      rw [if_neg hL, hl, hk, ← hm]
      simp [lnL, List.getD_eq_getElem?_getD, hx]
    rw [hr]
    obtain ⟨j, hj⟩ : ∃ j, clipN m v = j := ⟨_, rfl⟩
    rw [hj]
    clear h hl hL hr hrd hx hm h0
    obtain ⟨w1, hw1⟩ : ∃ w1, (w.alloc (.cells #[.int .i64 u, .int .i64 v] 24)).alloc (.cells #[.int .i64 0, .int .i64 0] 24) = w1 := ⟨_, rfl⟩
    have hb1 : Below w.heap.size w w1 := by rw [← hw1]; exact ((Below.refl _ w).alloc (Nat.le_refl _) _).alloc (by simp) _
    have g1 : w1.heap[w.heap.size]? = some (.cells #[.int .i64 u, .int .i64 v] 24 (0, 0)) := by
      rw [← hw1, ((Below.refl _ (w.alloc _)).alloc (Nat.le_refl _) _).block _ (by simp)]
      exact heap_alloc_new w _
    have g2 : w1.heap[w.heap.size + 1]? = some (.cells #[.int .i64 0, .int .i64 0] 24 (0, 0)) := by
      rw [← hw1]
      have := heap_alloc_new (w.alloc (.cells #[.int .i64 u, .int .i64 v] 24)) (.cells #[.int .i64 0, .int .i64 0] 24)
      simpa using this
    have e1 := (hb1.cell (p := ⟨b, off + k, none⟩) hbl).trans e0
    obtain ⟨a0, a1, z0, z1⟩ := row2 g1
    obtain ⟨a2, a3, z2, z3⟩ := row2 g2
    have HW1 := Lib.hid hw1
    have G1 := Lib.hid g1
    have G2 := Lib.hid g2
    have HB1 := Lib.hid hb1
    have nb : ¬ b = w.heap.size := by omega
    have nb2 : ¬ b = w.heap.size + 1 := by omega
    have hcu : (max 0 (min u ((n : Int) - 1)) = (k : Int)) := by rw [← hk]; unfold clipN; omega
    have hcv : (max 0 (min v ((m : Int) - 1)) = (j : Int)) := by rw [← hj]; unfold clipN; omega
    clear g1 g2 hw1 hb1 e0 hk hj
    go_enter Tryd.func12, Tryd.ntmps12
    go_upto_region 1 with fail
    rw [HW1.out]
    go_upto_region 4 with fail
    obtain ⟨w2, hw2⟩ : ∃ w2, w1.setCell ⟨w.heap.size, 0, none⟩ (.int .i64 (k : Int)) = w2 := ⟨_, rfl⟩
    rw [hw2]
    have hb2 : Below w.heap.size w w2 := by rw [← hw2]; exact setCell_below HB1.out _ _ _ (Nat.le_refl _)
    have q0 : w2.heap[w.heap.size]? = some (.cells #[.int .i64 (k : Int), .int .i64 v] 24 (0, 0)) := by rw [← hw2]; exact heap_set G1.out 0 _
    have q1 : w2.heap[w.heap.size + 1]? = some (.cells #[.int .i64 0, .int .i64 0] 24 (0, 0)) := by rw [← hw2, Below.heap_setCell _ _ _ _ (by show ¬ _ = _; simp)]; exact G2.out
    have q2 : w2.cell? ⟨b, off + k, none⟩ = some (.slice ra m rc) := by rw [World.cell?_of_block (a := ⟨b, off + k, none⟩) (w := w1) (by rw [← hw2]; exact Below.heap_setCell _ _ _ _ (by show ¬ _ = _; exact nb))]; exact e1
    obtain ⟨b0, b1, y0, y1⟩ := row2 q0
    obtain ⟨b2, b3, y2, y3⟩ := row2 q1
    have HB2 := Lib.hid hb2
    clear q0 q1 hb2 hw2 a0 a1 a2 a3 z0 z1 z2 z3 e1 G1 G2 HW1 HB1 hcu
    go_region
    all_goals
      go_wp2
      refine bodyPost_ret (v := plV (k, j)) ?_ rfl ⟨rfl, ?_⟩
      · rw [results_cell1 rfl]
        go_simp
        rfl
      · have h2 := HB2.out
        (repeat' (first | exact h2 | omega | refine setCell_below ?_ _ _ _ ?_ | refine Below.drew ?_ | refine bdrewN ?_ _))
/-- the line of a place, and the runes beside it -/
theorem okP.line {F : Nat → Prop} {w : World} {a : Option Addr} {n c : Nat} {L : List (List Int)} {p : Pl} (h : RdL F w a n c L) (hp : okP L p) {W : World} (hb : Below w.heap.size w W) :
    ∃ b off ra rc, a = some ⟨b, off, none⟩ ∧ p.1 < n ∧ b < w.heap.size ∧ W.cell? ⟨b, off + p.1, none⟩ = some (.slice ra (lnL L p.1).length rc) ∧ Rd .i32 W ra (lnL L p.1).length rc (lnL L p.1) := by
  have hl := h.len
  have hlt := hp.1
  have hx : L[p.1]? = some (lnL L p.1) := by unfold lnL; rw [List.getD_eq_getElem?_getD, List.getElem?_eq_getElem hlt]; rfl
  obtain ⟨b, off, ra, rc, rfl, hbl, hF, e0, hrd, -, -⟩ := h.get hb hx
  exact ⟨b, off, ra, rc, rfl, by omega, hbl, e0, hrd⟩
theorem Rd.at_ {w : World} {a : Option Addr} {n c : Nat} {p : List Int} (h : Rd .i32 w a n c p) {i : Nat} (hi : i < n) : ∃ b off, a = some ⟨b, off, none⟩ ∧ b < w.heap.size ∧ w.cell? ⟨b, off + i, none⟩ = some (.int .i32 (p.getD i 0)) := by
  obtain ⟨h1, h2, h3, h4, h6, h5⟩ := h
  obtain ⟨b, off, rfl, hc⟩ := h5 (by omega)
  exact ⟨b, off, rfl, block_lt_of_cell (hc i hi), hc i hi⟩
theorem Rd.all_ {w : World} {a : Option Addr} {n c : Nat} {p : List Int} (h : Rd .i32 w a n c p) (hn : 0 < n) : ∃ b off, a = some ⟨b, off, none⟩ ∧ b < w.heap.size ∧ ∀ i, i < n → w.cell? ⟨b, off + i, none⟩ = some (.int .i32 (p.getD i 0)) := by
  obtain ⟨h1, h2, h3, h4, h6, h5⟩ := h
  obtain ⟨b, off, rfl, hc⟩ := h5 (by omega)
  exact ⟨b, off, rfl, block_lt_of_cell (hc 0 hn), hc⟩
theorem backB_le (x : List Int) : ∀ k, backB x k ≤ k
  | 0 => Nat.le_refl _
  | k + 1 => by
    rw [backB]
    split
    · have := backB_le x k; omega
    · exact Nat.le_refl _
theorem backB_zero (x : List Int) : ∀ k, backB x k = 0 → ∀ i, i < k → cls false (x.getD i 0) = 0
  | 0, _, i, hi => by omega
  | k + 1, h, i, hi => by
    rw [backB] at h
    split at h
    · rename_i hz
      by_cases e : i = k
      · rw [e]; exact hz
      · exact backB_zero x k h i (by omega)
    · omega
theorem blank_back {x : List Int} (h : blankL x = false) : 0 < backB x x.length := by
  rcases Nat.eq_zero_or_pos (backB x x.length) with h0 | h0
  · have h1 := backB_zero x x.length h0
    have : blankL x = true := by
      unfold blankL
      rw [List.all_eq_true]
      intro c hc
      obtain ⟨i, hi, rfl⟩ := List.mem_iff_getElem.1 hc
      have := h1 i hi
      rw [List.getD_eq_getElem?_getD, List.getElem?_eq_getElem hi] at this
      simpa using this
    rw [h] at this; cases this
  · exact h0
theorem plFrom_append : ∀ (A B : List (List Int)) (s : Nat), plFrom s (A ++ B) = plFrom s A ++ plFrom (s + A.length) B
  | [], B, s => by simp [plFrom]
  | x :: A, B, s => by
    rw [List.cons_append, plFrom, plFrom, plFrom_append A B (s + 1), List.append_assoc, List.length_cons, show s + (A.length + 1) = s + 1 + A.length by omega]
theorem rowPl_len (i : Nat) (x : List Int) : (rowPl i x).length ≤ x.length + 1 := by
  unfold rowPl
  split <;> simp
theorem plFrom_len : ∀ (L : List (List Int)) (s : Nat), (plFrom s L).length ≤ sizeN (lens L)
  | [], s => by simp [plFrom]
  | x :: L, s => by
    have h1 := rowPl_len s x
    have h2 := plFrom_len L (s + 1)
    rw [plFrom, List.length_append, lens, List.map_cons, sizeN_cons]
    show _ ≤ x.length + 1 + sizeN (lens L)
    omega
theorem places_len (L : List (List Int)) : (places L).length ≤ sizeN (lens L) := plFrom_len L 0
theorem pl_take {L : List (List Int)} {i : Nat} {x : List Int} (h : L[i]? = some x) : plFrom 0 (L.take (i + 1)) = plFrom 0 (L.take i) ++ rowPl i x := by
  have hi := (List.getElem?_eq_some_iff.1 h).1
  rw [List.take_succ_eq_append_getElem hi, plFrom_append, List.length_take, Nat.min_eq_left (by omega), (List.getElem?_eq_some_iff.1 h).2, Nat.zero_add]
  simp [plFrom]
theorem rowPl_range (i : Nat) {x : List Int} (h : 0 < x.length) : rowPl i x = (List.range x.length).map fun k => (i, k) := by
  unfold rowPl
  rw [if_neg (by rintro rfl; simp at h)]
theorem range_snoc (i k : Nat) : ((List.range (k + 1)).map fun k => ((i, k) : Pl)) = ((List.range k).map fun k => ((i, k) : Pl)) ++ [(i, k)] := by
  rw [List.range_succ, List.map_append]; rfl
set_option maxHeartbeats 1000000 in
theorem rplaces_any (F : Nat → Prop) (a : Option Addr) (n c : Nat) (L : List (List Int)) (w : World) (h : RdL F w a n c L) (hs : sizeN (lens L) ≤ 262144) :
    Calls Tryd.prog 16 #[.slice a n c] w fun e w' => ∃ a' n' c', e = .returned (.slice a' n' c') ∧ Hid (RdP w' a' n' c' (places L) ∧ Below w.heap.size w w') := by
  have hsm := h.small
  have hl := h.len
  have HR := Lib.hid h
  have HS := Lib.hid hs
  have HL := Lib.hid hl
  clear h hs hl
  go_enter Tryd.func16, Tryd.ntmps16
  go_wp2_with fail
  go_loopw [3, 4] (fun v iv wr => ∃ (a' : Option Addr) (N c' i : Nat), v = .slice a' N c' ∧ iv = .int .i64 (i : Nat) ∧ i ≤ n ∧ Hid (Below w.heap.size w wr ∧ wr.ownsRow w.heap.size 24 2 (.slice a' N c') N (plcs (plFrom 0 (L.take i))))) (fun _ iv _ => n - (intOf iv).toNat)
  case atStart => exact ⟨none, 0, 0, 0, rfl, rfl, Nat.zero_le _, Below.refl _ _, World.ownsRow_nil _ _ _ _⟩
  case round =>
    obtain ⟨a', N, c', i, rfl, rfl, hin, HI⟩ := hrel
    by_cases hlt : i < n
    · obtain ⟨x, hx⟩ : ∃ x, L[i]? = some x := ⟨L[i]'(by have := HL.out; omega), List.getElem?_eq_getElem _⟩
      obtain ⟨b, off, ra, rc, rfl, hbl, hF, e0, hrd, -, -⟩ := HR.out.get HI.out.1 hx
      have hms := hrd.small
      have hNl : N = (plFrom 0 (L.take i)).length := by
        have := HI.out.2.1
        rw [plcs_len] at this
        omega
      have hsz : N + x.length + 1 ≤ 262144 := by
        have h1 := plFrom_len (L.take i) 0
        have h2 := size_take hx
        have h3 := size_take_le L (i + 1)
        have h4 := HS.out
        omega
      have htk := pl_take hx
      obtain ⟨P, hP⟩ : ∃ P, plFrom 0 (L.take i) = P := ⟨_, rfl⟩
      rw [hP] at htk HI
      have HTK := Lib.hid htk
      have HX := Lib.hid hx
      have HNL : Hid (P.length = N) := by show _ = _; rw [hNl, hP]
      clear htk hrd hP hNl hx
      obtain ⟨m, hm⟩ : ∃ m, x.length = m := ⟨_, rfl⟩
      rw [hm] at e0 hms hsz
      have HM := Lib.hid hm
      clear hm
      obtain ⟨wq, hwq⟩ : ∃ y, y = wr := ⟨_, rfl⟩
      subst hwq
      by_cases h0 : m = 0
      · have q1 : ((m : Int) == 0) = true := by simp [h0]
        obtain ⟨a2, c2, w2, hrun, hown, hb2⟩ := app_pl wq w.heap.size (.slice a' N c') N P (i, 0) HI.out.2 HI.out.1.size (by omega)
        have HRUN : Hid (∀ ty, (Builtin.append_ #[37, 37] ty #[.slice a' N c', .slice (some ⟨wq.heap.size, 0, none⟩) 1 1]).run Tryd.prog (wq.alloc (.cells #[.int .i64 (i : Nat), .int .i64 0] 24)) = .ok (.slice a2 (N + 1) c2) w2) := hrun
        have HN : Hid (Below w.heap.size w w2 ∧ w2.ownsRow w.heap.size 24 2 (.slice a2 (N + 1) c2) (N + 1) (plcs (plFrom 0 (L.take (i + 1))))) := by
          refine ⟨HI.out.1.trans hb2, ?_⟩
          rw [HTK.out, show rowPl i x = [(i, 0)] by unfold rowPl; rw [if_pos (List.eq_nil_of_length_eq_zero (by rw [HM.out]; exact h0))]]
          exact hown
        have hcl := (hb2.cell (p := ⟨b, off + i, none⟩) hbl)
        have hcl2 := (HI.out.1.cell (p := ⟨b, off + i, none⟩) hbl)
        have e2 : w2.cell? ⟨b, off + i, none⟩ = some (.slice ra m rc) := by
          have h1 := (HI.out.1.trans hb2).cell (p := ⟨b, off + i, none⟩) hbl
          rw [h1, ← hcl2]; exact e0
        have g4 : ¬ (0 : Int) < (m : Int) := by omega
        clear hrun hown hb2 hcl hcl2 h0
        go_wp2_with (at_builtin; go_must (with_reducible refine Lib.wpList_append_run _ rfl _ _ _ _ rfl _ _ rfl rfl _ _ (HRUN.out _) ?_))
        go_loopw [3, 5] (fun v kv wr => v = .slice a2 (N + 1) c2 ∧ kv = .int .i64 0 ∧ wr = w2) (fun _ _ _ => 0)
        case atStart => exact ⟨rfl, rfl, rfl⟩
        case round =>
          obtain ⟨rfl, rfl, rfl⟩ := hrel
          go_wp2
          go_roundw
          case rel => exact ⟨a2, N + 1, c2, i + 1, by first | rfl | go_num, by first | rfl | go_num, by omega, HN⟩
          case measure => simp [intOf]; omega
      · have q1 : ((m : Int) == 0) = false := by simp; omega
        have q2 : ¬ m = 0 := h0
        go_wp2_with fail
        go_loopw [3, 5] (fun v kv wr => ∃ (a2 : Option Addr) (N2 c2 k : Nat), v = .slice a2 N2 c2 ∧ kv = .int .i64 (k : Nat) ∧ k ≤ m ∧ N2 = N + k ∧ Hid (Below w.heap.size w wr ∧ wr.cell? ⟨b, off + i, none⟩ = some (.slice ra m rc) ∧ wr.ownsRow w.heap.size 24 2 (.slice a2 N2 c2) N2 (plcs (P ++ (List.range k).map fun k => (i, k))))) (fun _ kv _ => m - (intOf kv).toNat)
        case atStart => exact ⟨a', N, c', 0, rfl, rfl, Nat.zero_le _, rfl, HI.out.1, e0, by rw [show (List.range 0).map (fun k => ((i, k) : Pl)) = [] from rfl, List.append_nil]; exact HI.out.2⟩
        case round =>
          obtain ⟨a2, N2, c2, k, rfl, rfl, hkm, hN2, HK⟩ := hrel
          have e2 := HK.out.2.1
          by_cases hk : k < m
          · obtain ⟨a3, c3, w3, hrun, hown, hb3⟩ := app_pl wr w.heap.size (.slice a2 N2 c2) N2 _ (i, k) HK.out.2.2 HK.out.1.size (by omega)
            have HRUN := Lib.hid hrun
            have HN : Hid (Below w.heap.size w w3 ∧ w3.cell? ⟨b, off + i, none⟩ = some (.slice ra m rc) ∧ w3.ownsRow w.heap.size 24 2 (.slice a3 (N2 + 1) c3) (N2 + 1) (plcs (P ++ (List.range (k + 1)).map fun k => (i, k)))) := by
              refine ⟨HK.out.1.trans hb3, ?_, ?_⟩
              · rw [(HK.out.1.trans hb3).cell (p := ⟨b, off + i, none⟩) hbl, ← HK.out.1.cell (p := ⟨b, off + i, none⟩) hbl]; exact e2
              · rw [range_snoc, ← List.append_assoc]; exact hown
            have HN2 := Lib.hid hN2
            clear hrun hown hb3 hN2
            go_wp2_with (at_builtin; go_must (with_reducible refine Lib.wpList_append_run _ rfl _ _ _ _ rfl _ _ rfl rfl _ _ (HRUN.out _) ?_))
            go_roundw
            case rel => exact ⟨a3, N2 + 1, c3, k + 1, by first | rfl | go_num, by first | rfl | go_num, by omega, by have := HN2.out; omega, HN⟩
            case measure => simp [intOf]; omega
          · obtain rfl : k = m := by omega
            have HN : Hid (Below w.heap.size w wr ∧ wr.ownsRow w.heap.size 24 2 (.slice a2 N2 c2) N2 (plcs (plFrom 0 (L.take (i + 1))))) := by
              refine ⟨HK.out.1, ?_⟩
              rw [HTK.out, rowPl_range i (by rw [HM.out]; omega), HM.out]
              exact HK.out.2.2
            clear hN2
            go_wp2
            go_roundw
            case rel => exact ⟨a2, N2, c2, i + 1, by first | rfl | go_num, by first | rfl | go_num, by omega, HN⟩
            case measure => simp [intOf]; omega
    · obtain rfl : i = n := by omega
      go_wp2
      go_ret
      refine ⟨a', N, c', rfl, ?_, HI.out.1⟩
      have := HI.out.2
      rw [List.take_of_length_le (by rw [HL.out]; omega)] at this
      exact Rc.own this
/-- lines that have just been laid: one row of rows that can be read -/
theorem rdl_new (w : World) (vs : List Value) (L : List (List Int)) (n : Nat) (hn : vs.length = n) (hm : n ≤ 1000) (h : RowsAt (fun k => k < w.heap.size) w vs L) (cs : Array Value) (hc : cs = vs.toArray) :
    RdL (fun k => k < w.heap.size + 1) (w.alloc (.cells cs 32)) (some ⟨w.heap.size, 0, none⟩) n n L := by
  subst hc
  have hg := heap_alloc_new w (.cells vs.toArray 32)
  refine ⟨vs, ⟨by omega, Nat.le_refl _, by unfold maxLen; omega, (fun e => by cases e), fun _ => ⟨_, 0, rfl, heap_lt hg, fun j u hu => ?_⟩⟩, fun _ ad e => by cases e; exact Nat.lt_succ_self _, ?_⟩
  · rw [cell_row hg, Nat.zero_add]; simpa using hu
  · exact (h.frF (Fr.of_below (fun _ => False) (bal w _)) (fun _ _ h => h)).mono (fun k hk => by omega)
end Go.Proofs.YthlhgkeodaifcaaDoor.U
