/-
  Picked by wip/tools/pick.py: what other layers use of lines, rows and their readings.
-/
import Derived.Test.YtfldjoiohejilaaChecked
import Derived.Test.YtfldjoiohejilaaUBase
import Derived.Test.YtfldjoiohejilaaPFr
import Derived.Test.YtfldjoiohejilaaNPure
import Derived.RegionTactic
import Derived.Lib.MinMax
import Derived.Deep.RegionWith
import Derived.Deep.RegionLaw
import Derived.Deep.QuietTactic
import Derived.BigQuiet
import Derived.Deep.RegionHeld3
import Derived.BigRegion
import Derived.Deep.DeepCutAuto
import Derived.Lib.AppendZeros
import Derived.StillTailTactics
import Derived.ChangeSlices
import Derived.ChangeSame
import Derived.Deep.Slices
import Derived.Deep.Fields
import Derived.Lib.SmallJoins
import Derived.SizedLaws
import Derived.Laws.IdiomStrings
namespace Go.Proofs.Ytfldjoiohejilaa.U
open Go.RowKit
set_option linter.unusedVariables false
set_option linter.unusedSimpArgs false
set_option maxRecDepth 100000

theorem own_cur {w : World} {B : Nat} {e : TypeId} {size g n cap m : Nat} {xs : List Value} (h : w.ownsRow B e size (.slice (some ⟨g, 0, none⟩) n cap) m xs) :
    ∃ cur : List Value, w.heap[g]? = some (.cells cur.toArray e (0, 0)) ∧ cur.length = cap * size ∧ cur.take (n * size) = xs ∧ n ≤ cap ∧ cap ≤ maxLen ∧ B ≤ g ∧ m = n := by
  rcases h.2 with ⟨h', _⟩ | ⟨g', cap', cur, h', hb, hg, hnc, hcm, hcs, htake⟩
  · simp at h'
  · simp only [Value.slice.injEq, Option.some.injEq, Addr.mk.injEq, and_true, true_and] at h'
    obtain ⟨rfl, rfl, rfl⟩ := h'
    exact ⟨cur.toList, by simpa using hg, by simpa using hcs, htake, hnc, hcm, hb, rfl⟩
theorem own_some {w : World} {B : Nat} {e : TypeId} {s : Nat} {a : Option Addr} {n c m : Nat} {xs : List Value} (h : w.ownsRow B e s (.slice a n c) m xs) (hn : 0 < n) : ∃ g, a = some ⟨g, 0, none⟩ := by
  rcases h.2 with ⟨hv, _⟩ | ⟨g, cap, cur, hv, _⟩
  · simp only [Value.slice.injEq] at hv; omega
  · simp only [Value.slice.injEq] at hv; exact ⟨g, hv.1⟩
theorem infoI : (Try.prog.info? 21).map (fun i => (i.zero, i.size, i.bytes)) = some (some (.int .i32 0), 1, 4) := by kernel_rfl
/-- what can be read, as cells -/
theorem Rd_cells {k : IntKind} {w : World} {a : Option Addr} {n c : Nat} {ys : List Int} (h : Rd k w a n c ys) (hp : 0 < n) : ∃ ad, a = some ad ∧ ∀ j v, (ys.map (Value.int k))[j]? = some v → w.cell? (ad.add j) = some v := by
  obtain ⟨r1, r2, r3, r4, r6, r5⟩ := h
  obtain ⟨b, off, ha, hc⟩ := r5 hp
  refine ⟨_, ha, fun j u hu => ?_⟩
  rw [List.getElem?_map] at hu
  by_cases hj : j < ys.length
  · rw [List.getElem?_eq_getElem hj] at hu
    simp only [Option.map_some, Option.some.injEq] at hu
    subst hu
    have := hc j (by omega)
    rw [List.getD_eq_getElem?_getD, List.getElem?_eq_getElem hj] at this
    rw [add_lit]
    exact this
  · rw [List.getElem?_eq_none (by omega)] at hu; simp at hu
theorem ints1 (k : IntKind) (xs : List Int) : ∀ v ∈ xs.map (Value.int k), v.oneCell' = true := by
  intro v hv
  simp only [List.mem_map] at hv
  obtain ⟨x, _, rfl⟩ := hv
  rfl
def ints (xs : List Int) : List Value := xs.map (Value.int .i32)
/-- append of what can be read onto what was made since block B -/
theorem app_rd (w : World) (B : Nat) (v : Value) (n : Nat) (xs : List Int) (a : Option Addr) (m c : Nat) (ys : List Int) (h : w.ownsRow B 21 1 v n (ints xs)) (hB : B ≤ w.heap.size) (hr : Rd .i32 w a m c ys) (hb : n + m ≤ 17592186044416) :
    ∃ a' c' w', (∀ ty, (Builtin.append_ #[35, 35] ty #[v, .slice a m c]).run Try.prog w = .ok (.slice a' (n + m) c') w') ∧ w'.ownsRow B 21 1 (.slice a' (n + m) c') (n + m) (ints (xs ++ ys)) ∧ Below B w w' := by
  obtain ⟨i0, hi0, hz0, hz1, hz2⟩ := info_parts infoI
  obtain ⟨v', w', hrun, hown, hfr, hnear⟩ := run_append_own_k (P := Try.prog) w B 35 21 i0 _ 1 4 Try.underlying35 hi0 hz0 hz1 hz2 rfl (by decide) v n _ h a m c (ints ys) (by simpa [ints] using hr.1) (fun hp => Rd_cells hr hp) (ints1 _ _) (by unfold maxLen; omega) (by omega) hB
  obtain ⟨a', c', rfl⟩ := own_slice hown
  refine ⟨a', c', w', hrun, ?_, hfr.below hB (fun k e => (h.lt k e.symm).1)⟩
  unfold ints at hown ⊢
  rw [List.map_append]
  exact hown
/-- append of what can be read onto a fresh empty row -/
theorem app_lit (w : World) (a : Option Addr) (m c : Nat) (ys : List Int) (hr : Rd .i32 w a m c ys) (hb : m ≤ 17592186044416) :
    ∃ a' c' w', (∀ ty, (Builtin.append_ #[35, 35] ty #[.slice (some ⟨w.heap.size, 0, none⟩) 0 0, .slice a m c]).run Try.prog (w.alloc (.cells #[] 21)) = .ok (.slice a' m c') w') ∧ w'.ownsRow w.heap.size 21 1 (.slice a' m c') m (ints ys) ∧ Below w.heap.size w w' := by
  have hb0 : Below w.heap.size w (w.alloc (.cells #[] 21)) := (Below.refl _ w).alloc (Nat.le_refl _) _
  obtain ⟨a', c', w', hrun, ho, hb'⟩ := app_rd (w.alloc (.cells #[] 21)) w.heap.size (.slice (some ⟨w.heap.size, 0, none⟩) 0 0) 0 [] a m c ys (World.ownsRow_lit w #[] 0 (Nat.le_refl _) (Nat.zero_le _) rfl) (by simp) (hr.below hb0) (by omega)
  rw [Nat.zero_add] at hrun ho
  exact ⟨a', c', w', hrun, by simpa using ho, hb0.trans hb'⟩
theorem Rd_new (k : IntKind) (w : World) (xs : List Int) (cs : Array Value) (e : TypeId) (n : Nat) (hc : cs = (xs.map (Value.int k)).toArray) (hn : xs.length = n) (hm : n ≤ maxLen) (hw : ∀ x ∈ xs, (Lit.int k x).wf = true) :
    Rd k (w.alloc (.cells cs e)) (some ⟨w.heap.size, 0, none⟩) n n xs := by
  subst hc
  refine ⟨hn, Nat.le_refl _, hm, hw, (fun h => by cases h), fun _ => ⟨_, 0, rfl, fun i hi => ?_⟩⟩
  rw [cell_of_row _ _ _ _ _ _ (heap_alloc_new w _), Nat.zero_add]
  simp only [List.getElem?_toArray, List.getElem?_map]
  rw [List.getElem?_eq_getElem (by omega), List.getD_eq_getElem?_getD, List.getElem?_eq_getElem (by omega)]
  rfl
theorem runes_same (a1 a2 : Option Addr) (len c1 c2 : Nat) (xs : List Int) (w : World) (h1 : Rd .i32 w a1 len c1 xs) (h2 : Rd .i32 w a2 len c2 xs) :
    Calls Try.prog 36 #[.slice a1 len c1, .slice a2 len c2] w fun e w' => e = .returned (.bool true) ∧ Below w.heap.size w w' := by
  have hsm := h1.small
  have heq : ((len : Int) != (len : Int)) = false := by simp
  by_cases h0 : len = 0
  · subst h0
    go_enter Try.func36, Try.ntmps36
    go_wp2_with fail
    go_loopw [5] (fun i wr => i = .int .i64 0 ∧ wr = w) (fun _ _ => 0)
    case atStart => exact ⟨rfl, rfl⟩
    case round =>
      obtain ⟨rfl, rfl⟩ := hrel
      go_wp2
      go_ret
      exact ⟨rfl, Below.refl _ _⟩
  · obtain ⟨p1, o1, rfl, hc1⟩ := h1.2.2.2.2.2 (by omega)
    obtain ⟨p2, o2, rfl, hc2⟩ := h2.2.2.2.2.2 (by omega)
    have hp1 := block_lt_of_cell (hc1 0 (by omega))
    have hp2 := block_lt_of_cell (hc2 0 (by omega))
    have HC1 := Lib.hid hc1; clear hc1
    have HC2 := Lib.hid hc2; clear hc2
    clear h1 h2
    go_enter Try.func36, Try.ntmps36
    go_wp2_with fail
    go_loopw [5] (fun i wr => ∃ k : Nat, k ≤ len ∧ i = .int .i64 k ∧ Below w.heap.size w wr) (fun i _ => len - (intOf i).toNat)
    case atStart => exact ⟨0, by omega, rfl, Below.refl _ _⟩
    case round =>
      obtain ⟨k, hk, rfl, hbl⟩ := hrel
      by_cases hlt : k < len
      · have e1 := (hbl.cell (p := ⟨p1, o1 + k, none⟩) hp1).trans (HC1.out k hlt)
        have e2 := (hbl.cell (p := ⟨p2, o2 + k, none⟩) hp2).trans (HC2.out k hlt)
        obtain ⟨x, hx⟩ : ∃ x, xs.getD k 0 = x := ⟨_, rfl⟩
        rw [hx] at e1 e2
        clear hx
        have hxx : (x != x) = false := by simp
        go_wp2_with fail
        go_quiet (fail)
        go_wp2_with fail
        go_roundw
        case rel => exact ⟨k + 1, by omega, by go_num, bdrewN hbl _⟩
        case measure => simp [intOf]; omega
      · obtain rfl : k = len := by omega
        go_wp2
        go_ret
        exact ⟨rfl, hbl⟩
theorem own_rd {w : World} {B : Nat} {a : Option Addr} {n c : Nat} {xs : List Int} (h : w.ownsRow B 21 1 (.slice a n c) n (ints xs)) (hw : ∀ x ∈ xs, (Lit.int .i32 x).wf = true) : Rd .i32 w a n c xs := Rd.own (k := .i32) h hw
def i64b (i : Int) : Prop := -9223372036854775808 ≤ i ∧ i ≤ 9223372036854775807
theorem wf_i64b {i : Int} (h : (Lit.int .i64 i).wf = true) : i64b i := wf_i64_in h
/-- lines, an end behind each -/
def joinE (L : List (List Int)) : List Int := L.flatMap (· ++ [10])
def joinL (L : List (List Int)) : List Int := (joinE L).dropLast
theorem joinE_nil : joinE [] = [] := rfl
theorem joinE_cons (x : List Int) (L : List (List Int)) : joinE (x :: L) = x ++ 10 :: joinE L := by simp [joinE]
theorem joinE_append (L M : List (List Int)) : joinE (L ++ M) = joinE L ++ joinE M := by simp [joinE]
theorem joinE_one (x : List Int) : joinE [x] = x ++ [10] := by simp [joinE]
theorem joinE_joinL {L : List (List Int)} (h : L ≠ []) : joinE L = joinL L ++ [10] := by
  rcases List.eq_nil_or_concat L with e | ⟨A, x, e⟩
  · exact absurd e h
  · rw [e, List.concat_eq_append]
    unfold joinL
    rw [joinE_append, joinE_one, ← List.append_assoc, List.dropLast_concat]
theorem joinL_nil : joinL [] = [] := rfl
theorem joinL_of {L : List (List Int)} {x : List Int} (h : joinE L = x ++ [10]) : joinL L = x := by unfold joinL; rw [h, List.dropLast_concat]
theorem joinL_snoc (A : List (List Int)) (x : List Int) : joinL (A ++ [x]) = (if A = [] then [] else joinL A ++ [10]) ++ x := by
  apply joinL_of
  rw [joinE_append, joinE_one]
  split
  · next e => subst e; simp [joinE_nil]
  · next e => rw [joinE_joinL e]; simp
def sizeN (ls : List Nat) : Nat := (ls.map (· + 1)).sum
theorem sizeN_nil : sizeN [] = 0 := rfl
theorem sizeN_cons (a : Nat) (l : List Nat) : sizeN (a :: l) = a + 1 + sizeN l := by simp [sizeN]
theorem sizeN_append (a b : List Nat) : sizeN (a ++ b) = sizeN a + sizeN b := by simp [sizeN]
theorem sizeN_sum (a : List Nat) : sizeN a = a.sum + a.length := by
  induction a with
  | nil => rfl
  | cons x l ih => rw [sizeN_cons, ih]; simp; omega
theorem sizeN_take_le (a : List Nat) (i : Nat) : sizeN (a.take i) ≤ sizeN a := by
  conv => rhs; rw [← List.take_append_drop i a, sizeN_append]
  omega
def lens (L : List (List Int)) : List Nat := L.map List.length
theorem lens_len (L : List (List Int)) : (lens L).length = L.length := by simp [lens]
theorem lens_append (L M : List (List Int)) : lens (L ++ M) = lens L ++ lens M := by simp [lens]
theorem lens_take (L : List (List Int)) (i : Nat) : lens (L.take i) = (lens L).take i := by simp [lens]
theorem joinE_len (L : List (List Int)) : (joinE L).length = sizeN (lens L) := by
  induction L with
  | nil => rfl
  | cons x L ih => rw [joinE_cons, List.length_append, List.length_cons, ih]; simp [lens, sizeN_cons]; omega
theorem joinL_len {L : List (List Int)} (h : L ≠ []) : (joinL L).length + 1 = sizeN (lens L) := by
  rw [← joinE_len, joinE_joinL h, List.length_append]; rfl
/-- a row, parted -/
def splitL : List Int → List (List Int)
  | [] => [[]]
  | x :: r => if x = 10 then [] :: splitL r else (x :: (splitL r).headD []) :: (splitL r).tail
theorem splitL_ne (x : List Int) : splitL x ≠ [] := by
  cases x with
  | nil => simp [splitL]
  | cons a r => unfold splitL; split <;> simp
def plainL (L : List (List Int)) : Prop := ∀ x ∈ L, (10 : Int) ∉ x
theorem splitL_hd (x : List Int) : ∃ h t, splitL x = h :: t := by
  cases e : splitL x with
  | nil => exact absurd e (splitL_ne x)
  | cons h t => exact ⟨h, t, rfl⟩
theorem split_plain (x : List Int) : plainL (splitL x) := by
  induction x with
  | nil => intro y hy; simp [splitL] at hy; subst hy; simp
  | cons a r ih =>
    obtain ⟨h, t, e⟩ := splitL_hd r
    unfold splitL
    rw [e] at ih ⊢
    split
    · intro y hy
      simp only [List.mem_cons] at hy
      rcases hy with rfl | hy
      · simp
      · exact ih y (by simpa using hy)
    · next ha =>
      intro y hy
      simp only [List.headD_cons, List.tail_cons, List.mem_cons] at hy
      rcases hy with rfl | hy
      · have := ih h (by simp)
        simp only [List.mem_cons, not_or]
        exact ⟨fun e => ha e.symm, this⟩
      · exact ih y (by simp [hy])
theorem join_split (x : List Int) : joinE (splitL x) = x ++ [10] := by
  induction x with
  | nil => rfl
  | cons a r ih =>
    obtain ⟨h, t, e⟩ := splitL_hd r
    unfold splitL
    rw [e] at ih ⊢
    split
    · next ha => subst ha; rw [joinE_cons, ih]; rfl
    · simp only [List.headD_cons, List.tail_cons]
      rw [joinE_cons] at ih ⊢
      rw [List.cons_append, ih]; rfl
theorem splitL_c {a : Int} (h : a ≠ 10) (r : List Int) : splitL (a :: r) = (a :: (splitL r).headD []) :: (splitL r).tail := by
  conv => lhs; unfold splitL
  rw [if_neg h]
theorem splitL_10 (r : List Int) : splitL (10 :: r) = [] :: splitL r := by
  conv => lhs; unfold splitL
  rw [if_pos rfl]
theorem split_end {x : List Int} (h : (10 : Int) ∉ x) (r : List Int) : splitL (x ++ 10 :: r) = x :: splitL r := by
  induction x with
  | nil => exact splitL_10 r
  | cons a x ih =>
    simp only [List.mem_cons, not_or] at h
    rw [List.cons_append, splitL_c (fun e => h.1 e.symm), ih h.2]
    simp
theorem split_one {x : List Int} (h : (10 : Int) ∉ x) : splitL x = [x] := by
  induction x with
  | nil => rfl
  | cons a x ih =>
    simp only [List.mem_cons, not_or] at h
    rw [splitL_c (fun e => h.1 e.symm), ih h.2]
    simp
theorem split_uniq {L : List (List Int)} (hp : plainL L) {y : List Int} (h : joinE L = y ++ [10]) : L = splitL y := by
  induction L generalizing y with
  | nil => simp [joinE_nil] at h
  | cons x L ih =>
    have hx := hp x (by simp)
    cases L with
    | nil =>
      rw [joinE_one] at h
      obtain rfl := List.append_cancel_right h
      exact (split_one hx).symm
    | cons y' r =>
      have hne : (y' :: r) ≠ [] := by simp
      rw [joinE_cons, joinE_joinL hne] at h
      have e : y = x ++ 10 :: joinL (y' :: r) := by
        have h' : (x ++ 10 :: joinL (y' :: r)) ++ [10] = y ++ [10] := by rw [← h]; simp
        exact (List.append_cancel_right h').symm
      rw [e, split_end hx, ← ih (fun z hz => hp z (by simp [hz])) (joinE_joinL hne)]
theorem split_snoc10 (x : List Int) : splitL (x ++ [10]) = splitL x ++ [[]] := by
  symm
  apply split_uniq
  · intro y hy
    rcases List.mem_append.1 hy with hy | hy
    · exact split_plain x y hy
    · simp at hy; subst hy; simp
  · rw [joinE_append, join_split, joinE_one]; simp
theorem split_snoc (x : List Int) {c : Int} (hc : c ≠ 10) : splitL (x ++ [c]) = (splitL x).dropLast ++ [(splitL x).getLast (splitL_ne x) ++ [c]] := by
  symm
  have e := List.dropLast_concat_getLast (splitL_ne x)
  have hj := join_split x
  have hp := split_plain x
  generalize (splitL x).getLast (splitL_ne x) = l at e ⊢
  generalize (splitL x).dropLast = d at e ⊢
  rw [← e] at hj hp
  apply split_uniq
  · intro y hy
    rcases List.mem_append.1 hy with hy | hy
    · exact hp y (by simp [hy])
    · simp only [List.mem_singleton] at hy
      subst hy
      have := hp l (by simp)
      simp only [List.mem_append, List.mem_singleton, not_or]
      exact ⟨this, fun e => hc e.symm⟩
  · rw [joinE_append, joinE_one] at hj ⊢
    have h1 : joinE d ++ l = x := by
      have : (joinE d ++ l) ++ [10] = x ++ [10] := by rw [← hj]; simp
      exact List.append_cancel_right this
    rw [← h1]; simp
theorem split_sum (x : List Int) : sizeN (lens (splitL x)) = x.length + 1 := by rw [← joinE_len, join_split]; simp
theorem split_count (x : List Int) : (splitL x).length ≤ x.length + 1 := by
  rw [← split_sum, sizeN_sum, lens_len]; omega
/-- what is read lies in the blocks of F -/
def InF (F : Nat → Prop) (a : Option Addr) (n : Nat) : Prop := 0 < n → ∀ ad, a = some ad → F ad.block
theorem InF.mono {F G : Nat → Prop} {a : Option Addr} {n : Nat} (h : InF F a n) (hg : ∀ k, F k → G k) : InF G a n := fun hn ad e => hg _ (h hn ad e)
theorem InF.zero (F : Nat → Prop) (a : Option Addr) : InF F a 0 := fun h => absurd h (by omega)
theorem InF.at_ {F : Nat → Prop} {a : Option Addr} {n b off : Nat} (h : InF F a n) (hn : 0 < n) (e : a = some ⟨b, off, none⟩) : F b := h hn _ e
theorem InF.take {F : Nat → Prop} {a : Option Addr} {n m : Nat} (h : InF F a n) (hm : m ≤ n) : InF F a m := fun hp => h (by omega)
theorem add_block (ad : Addr) (j : Nat) : (ad.add j).block = ad.block := by unfold Addr.add; split <;> rfl
theorem InF.drop {F : Nat → Prop} {a : Option Addr} {n m c : Nat} (h : InF F a n) (hm : m ≤ n) : InF F (if c = m then a else a.map (·.add (m * 1))) (n - m) := by
  intro hp ad e
  split at e
  · exact h (by omega) ad e
  · cases a with
    | none => simp at e
    | some a0 =>
      simp only [Option.map_some, Option.some.injEq] at e
      subst e
      rw [add_block]
      exact h (by omega) _ rfl
theorem InF.own {F : Nat → Prop} {w : World} {B : Nat} {e : TypeId} {s : Nat} {a : Option Addr} {n c m : Nat} {xs : List Value} (h : w.ownsRow B e s (.slice a n c) m xs) (hk : ∀ k, (Value.slice a n c).ownBlock = some k → F k) : InF F a n := by
  intro hn ad e
  obtain ⟨g, rfl⟩ := own_some h hn
  cases e
  exact hk g rfl
theorem Rd.frF {F G : Nat → Prop} {k w w' a n c xs} (h : Rd k w a n c xs) (hi : InF F a n) (hf : Fr G w w') (hd : ∀ k, F k → ¬ G k) : Rd k w' a n c xs := by
  obtain ⟨h1, h2, h3, h4, h6, h5⟩ := h
  refine ⟨h1, h2, h3, h4, h6, fun hp => ?_⟩
  obtain ⟨b, off, ha, hc⟩ := h5 hp
  refine ⟨b, off, ha, fun i hlt => ?_⟩
  rw [World.cell?_of_block (a := ⟨b, off + i, none⟩) (hf.block b (block_lt_of_cell (hc i hlt)) (hd b (hi.at_ hp ha)))]
  exact hc i hlt
/-- A slice of elements of sz cells that can be read. -/
def Rc (w : World) (a : Option Addr) (len cap sz : Nat) (xs : List Value) : Prop :=
  xs.length = len * sz ∧ len ≤ cap ∧ cap ≤ maxLen ∧ (a = none → cap = 0) ∧
  (0 < len → ∃ b off, a = some ⟨b, off, none⟩ ∧ b < w.heap.size ∧ ∀ j u, xs[j]? = some u → w.cell? ⟨b, off + j, none⟩ = some u)
theorem Rc.small {w a len cap sz xs} (h : Rc w a len cap sz xs) : len ≤ 9223372036854775807 := by have := h.2.1; have := h.2.2.1; unfold maxLen at this; omega
theorem Rc.none0 (w : World) (sz : Nat) : Rc w none 0 0 sz [] := ⟨by simp, Nat.le_refl _, Nat.zero_le _, fun _ => rfl, fun h => by omega⟩
theorem Rc.frF {F G : Nat → Prop} {w w' a n c sz xs} (h : Rc w a n c sz xs) (hi : InF F a n) (hf : Fr G w w') (hd : ∀ k, F k → ¬ G k) : Rc w' a n c sz xs := by
  obtain ⟨h1, h2, h3, h6, h5⟩ := h
  refine ⟨h1, h2, h3, h6, fun hp => ?_⟩
  obtain ⟨b, off, ha, hb, hc⟩ := h5 hp
  refine ⟨b, off, ha, Nat.lt_of_lt_of_le hb hf.size, fun j u hu => ?_⟩
  rw [World.cell?_of_block (a := ⟨b, off + j, none⟩) (hf.block b hb (hd b (hi.at_ hp ha)))]
  exact hc j u hu
theorem Rc.below {w w' a n c sz xs} (h : Rc w a n c sz xs) (hb : Below w.heap.size w w') : Rc w' a n c sz xs := by
  obtain ⟨h1, h2, h3, h6, h5⟩ := h
  refine ⟨h1, h2, h3, h6, fun hp => ?_⟩
  obtain ⟨b, off, ha, hbl, hc⟩ := h5 hp
  exact ⟨b, off, ha, Nat.lt_of_lt_of_le hbl hb.size, fun j u hu => (hb.cell (p := ⟨b, off + j, none⟩) hbl).trans (hc j u hu)⟩
theorem Rc.own {w : World} {B : Nat} {e : TypeId} {a : Option Addr} {n cap m sz : Nat} {xs : List Value} (h : w.ownsRow B e sz (.slice a n cap) m xs) : Rc w a n cap sz xs := by
  obtain ⟨h1, h2⟩ := h
  rcases h2 with ⟨hv, hn⟩ | ⟨g, c, cur, hv, hg, hh, hnc, hcm, hcs, hx⟩
  · simp only [Value.slice.injEq] at hv
    obtain ⟨rfl, rfl, rfl⟩ := hv
    exact ⟨by rw [h1, hn], Nat.le_refl _, Nat.zero_le _, fun _ => rfl, fun h => by omega⟩
  · simp only [Value.slice.injEq] at hv
    obtain ⟨rfl, rfl, rfl⟩ := hv
    refine ⟨?_, hnc, hcm, (fun hn0 => by cases hn0), fun hp => ⟨g, 0, rfl, heap_lt hh, fun j u hu => ?_⟩⟩
    · rw [← hx, List.length_take, Array.length_toList, hcs]
      exact Nat.min_eq_left (Nat.mul_le_mul_right _ hnc)
    · have hj := (List.getElem?_eq_some_iff.1 hu).1
      have hxl : xs.length ≤ n * sz := by rw [← hx]; simp; omega
      rw [cell_of_row w g (0 + j) cur e (0, 0) hh, Nat.zero_add, ← hu, ← hx, List.getElem?_take, if_pos (by omega), ← Array.getElem?_toList]
theorem Rc.src {w : World} {a : Option Addr} {n cap sz : Nat} {xs : List Value} (h : Rc w a n cap sz xs) (hn : 0 < n) : ∃ ad, a = some ad ∧ ∀ j u, xs[j]? = some u → w.cell? (ad.add j) = some u := by
  obtain ⟨b, off, ha, hb, hc⟩ := h.2.2.2.2 hn
  exact ⟨_, ha, fun j u hu => by rw [add_lit]; exact hc j u hu⟩
theorem Rc.take {w a n cap xs} (h : Rc w a n cap 1 xs) (m : Nat) (hm : m ≤ n) : Rc w a m cap 1 (xs.take m) := by
  obtain ⟨h1, h2, h3, h6, h5⟩ := h
  refine ⟨by rw [List.length_take]; omega, by omega, h3, h6, fun hp => ?_⟩
  obtain ⟨b, off, ha, hb, hc⟩ := h5 (by omega)
  refine ⟨b, off, ha, hb, fun j u hu => hc j u ?_⟩
  rw [List.getElem?_take] at hu
  split at hu
  · exact hu
  · cases hu
theorem Rc.drop {w a n cap xs} (h : Rc w a n cap 1 xs) (m : Nat) (hm : m ≤ n) : Rc w (if cap = m then a else a.map (·.add (m * 1))) (n - m) (cap - m) 1 (xs.drop m) := by
  obtain ⟨h1, h2, h3, h6, h5⟩ := h
  refine ⟨by rw [List.length_drop]; omega, by omega, by omega, fun hn => ?_, fun hp => ?_⟩
  · have : a = Option.none := by
      split at hn
      · exact hn
      · simpa using hn
    have := h6 this; omega
  obtain ⟨b, off, ha, hb, hc⟩ := h5 (by omega)
  refine ⟨b, off + m, ?_, hb, fun j u hu => ?_⟩
  · rw [if_neg (by omega), ha]; simp [Addr.add]
  · rw [Nat.add_assoc]; exact hc (m + j) u (by rw [List.getElem?_drop] at hu; exact hu)
theorem Rc.at_ {w a n cap sz xs} (h : Rc w a n cap sz xs) (hn : 0 < n) : ∃ b off, a = some ⟨b, off, none⟩ ∧ b < w.heap.size ∧ ∀ j u, xs[j]? = some u → w.cell? ⟨b, off + j, none⟩ = some u := h.2.2.2.2 hn
theorem Rd.rc {k w a n c xs} (h : Rd k w a n c xs) : Rc w a n c 1 (xs.map (Value.int k)) := by
  obtain ⟨h1, h2, h3, h4, h6, h5⟩ := h
  refine ⟨by simp [h1], h2, h3, h6, fun hp => ?_⟩
  obtain ⟨b, off, ha, hc⟩ := h5 hp
  refine ⟨b, off, ha, block_lt_of_cell (hc 0 hp), fun j u hu => ?_⟩
  rw [List.getElem?_map] at hu
  by_cases hj : j < xs.length
  · rw [List.getElem?_eq_getElem hj] at hu
    simp only [Option.map_some, Option.some.injEq] at hu
    subst hu
    have := hc j (by omega)
    rw [List.getD_eq_getElem?_getD, List.getElem?_eq_getElem hj] at this
    exact this
  · rw [List.getElem?_eq_none (by omega)] at hu; simp at hu
/-- cells that are slices of the runes of lines -/
def RowsAt (F : Nat → Prop) (w : World) (vs : List Value) (L : List (List Int)) : Prop :=
  vs.length = L.length ∧ ∀ (i : Nat) (x : List Int), L[i]? = some x → ∃ ra rc, vs[i]? = some (Value.slice ra x.length rc) ∧ Rd .i32 w ra x.length rc x ∧ InF F ra x.length
theorem RowsAt.nil (F : Nat → Prop) (w : World) : RowsAt F w [] [] := ⟨rfl, fun i x h => by simp at h⟩
theorem RowsAt.frF {F G : Nat → Prop} {w w' vs L} (h : RowsAt F w vs L) (hf : Fr G w w') (hd : ∀ k, F k → ¬ G k) : RowsAt F w' vs L :=
  ⟨h.1, fun i x hx => by obtain ⟨ra, rc, h1, h2, h3⟩ := h.2 i x hx; exact ⟨ra, rc, h1, h2.frF h3 hf hd, h3⟩⟩
theorem RowsAt.below {F : Nat → Prop} {w w' vs L} (h : RowsAt F w vs L) (hb : Below w.heap.size w w') : RowsAt F w' vs L := h.frF (Fr.of_below (fun _ => False) hb) (fun _ _ h => h)
theorem RowsAt.mono {F G : Nat → Prop} {w vs L} (h : RowsAt F w vs L) (hg : ∀ k, F k → G k) : RowsAt G w vs L :=
  ⟨h.1, fun i x hx => by obtain ⟨ra, rc, h1, h2, h3⟩ := h.2 i x hx; exact ⟨ra, rc, h1, h2, h3.mono hg⟩⟩
theorem RowsAt.append {F : Nat → Prop} {w vs us L M} (h : RowsAt F w vs L) (k : RowsAt F w us M) : RowsAt F w (vs ++ us) (L ++ M) := by
  refine ⟨by simp [h.1, k.1], fun i x hx => ?_⟩
  by_cases hi : i < L.length
  · rw [List.getElem?_append_left hi] at hx
    obtain ⟨ra, rc, h1, h2, h3⟩ := h.2 i x hx
    exact ⟨ra, rc, by rw [List.getElem?_append_left (by rw [h.1]; exact hi)]; exact h1, h2, h3⟩
  · rw [List.getElem?_append_right (by omega)] at hx
    obtain ⟨ra, rc, h1, h2, h3⟩ := k.2 _ x hx
    exact ⟨ra, rc, by rw [List.getElem?_append_right (by rw [h.1]; omega), h.1]; exact h1, h2, h3⟩
theorem RowsAt.one {F : Nat → Prop} {w : World} {ra : Option Addr} {n rc : Nat} {x : List Int} (h : Rd .i32 w ra n rc x) (hi : InF F ra n) : RowsAt F w [Value.slice ra n rc] [x] := by
  have hn := h.1
  refine ⟨rfl, fun i y hy => ?_⟩
  cases i with
  | zero =>
    simp at hy
    subst hy
    rw [hn]
    exact ⟨ra, rc, rfl, h, hi⟩
  | succ i => simp at hy
theorem RowsAt.take {F : Nat → Prop} {w vs L} (h : RowsAt F w vs L) (m : Nat) : RowsAt F w (vs.take m) (L.take m) := by
  refine ⟨by simp [h.1], fun i x hx => ?_⟩
  rw [List.getElem?_take] at hx
  split at hx
  · next hi =>
    obtain ⟨ra, rc, h1, h2, h3⟩ := h.2 i x hx
    exact ⟨ra, rc, by rw [List.getElem?_take, if_pos hi]; exact h1, h2, h3⟩
  · cases hx
theorem RowsAt.drop {F : Nat → Prop} {w vs L} (h : RowsAt F w vs L) (m : Nat) : RowsAt F w (vs.drop m) (L.drop m) := by
  refine ⟨by simp [h.1], fun i x hx => ?_⟩
  rw [List.getElem?_drop] at hx
  obtain ⟨ra, rc, h1, h2, h3⟩ := h.2 _ x hx
  exact ⟨ra, rc, by rw [List.getElem?_drop]; exact h1, h2, h3⟩
theorem RowsAt.one1 {F : Nat → Prop} {w vs L} (h : RowsAt F w vs L) : ∀ v ∈ vs, v.oneCell' = true := by
  intro v hv
  obtain ⟨i, hi, e⟩ := List.getElem_of_mem hv
  have hx : L[i]? = some (L[i]'(by rw [← h.1]; exact hi)) := List.getElem?_eq_getElem _
  obtain ⟨ra, rc, h1, _⟩ := h.2 i _ hx
  rw [List.getElem?_eq_getElem hi, e] at h1
  injection h1 with h1
  rw [h1]; rfl
/-- a slice of lines that can be read -/
def RdL (F : Nat → Prop) (w : World) (a : Option Addr) (n c : Nat) (L : List (List Int)) : Prop := ∃ vs, Rc w a n c 1 vs ∧ InF F a n ∧ RowsAt F w vs L
theorem RdL.len {F w a n c L} (h : RdL F w a n c L) : L.length = n := by
  obtain ⟨vs, h1, _, h3⟩ := h
  have := h1.1
  rw [← h3.1]; omega
theorem RdL.small {F w a n c L} (h : RdL F w a n c L) : n ≤ 9223372036854775807 := by obtain ⟨vs, h1, _⟩ := h; exact h1.small
theorem RdL.none0 (F : Nat → Prop) (w : World) : RdL F w none 0 0 [] := ⟨[], Rc.none0 w 1, InF.zero _ _, RowsAt.nil _ _⟩
theorem RdL.frF {F G : Nat → Prop} {w w' a n c L} (h : RdL F w a n c L) (hf : Fr G w w') (hd : ∀ k, F k → ¬ G k) : RdL F w' a n c L := by
  obtain ⟨vs, h1, h2, h3⟩ := h
  exact ⟨vs, h1.frF h2 hf hd, h2, h3.frF hf hd⟩
theorem RdL.below {F : Nat → Prop} {w w' a n c L} (h : RdL F w a n c L) (hb : Below w.heap.size w w') : RdL F w' a n c L := h.frF (Fr.of_below (fun _ => False) hb) (fun _ _ h => h)
theorem RdL.mono {F G : Nat → Prop} {w a n c L} (h : RdL F w a n c L) (hg : ∀ k, F k → G k) : RdL G w a n c L := by
  obtain ⟨vs, h1, h2, h3⟩ := h
  exact ⟨vs, h1, h2.mono hg, h3.mono hg⟩
theorem RdL.take {F w a n c L} (h : RdL F w a n c L) (m : Nat) (hm : m ≤ n) : RdL F w a m c (L.take m) := by
  obtain ⟨vs, h1, h2, h3⟩ := h
  exact ⟨vs.take m, h1.take m hm, h2.take hm, h3.take m⟩
theorem RdL.drop {F w a n c L} (h : RdL F w a n c L) (m : Nat) (hm : m ≤ n) : RdL F w (if c = m then a else a.map (·.add (m * 1))) (n - m) (c - m) (L.drop m) := by
  obtain ⟨vs, h1, h2, h3⟩ := h
  exact ⟨vs.drop m, h1.drop m hm, h2.drop hm, h3.drop m⟩
theorem RdL.at_ {F w a n c L} (h : RdL F w a n c L) (hn : 0 < n) : ∃ b off, a = some ⟨b, off, none⟩ ∧ b < w.heap.size ∧ F b ∧ ∀ i x, L[i]? = some x → ∃ ra rc, w.cell? ⟨b, off + i, none⟩ = some (.slice ra x.length rc) ∧ Rd .i32 w ra x.length rc x ∧ InF F ra x.length := by
  obtain ⟨vs, h1, h2, h3⟩ := h
  obtain ⟨b, off, ha, hb, hc⟩ := h1.at_ hn
  exact ⟨b, off, ha, hb, h2.at_ hn ha, fun i x hx => by obtain ⟨ra, rc, e1, e2, e3⟩ := h3.2 i x hx; exact ⟨ra, rc, hc i _ e1, e2, e3⟩⟩
/-- .. in a later world -/
theorem RdL.get {F w W a n c L} {i : Nat} {x : List Int} (h : RdL F w a n c L) (hb : Below w.heap.size w W) (hx : L[i]? = some x) : ∃ b off ra rc, a = some ⟨b, off, none⟩ ∧ b < w.heap.size ∧ F b ∧ W.cell? ⟨b, off + i, none⟩ = some (.slice ra x.length rc) ∧ Rd .i32 W ra x.length rc x ∧ Rd .i32 w ra x.length rc x ∧ InF F ra x.length := by
  have hi := (List.getElem?_eq_some_iff.1 hx).1
  obtain ⟨b, off, ha, hbl, hF, hc⟩ := h.at_ (by rw [← h.len]; omega)
  obtain ⟨ra, rc, e1, e2, e3⟩ := hc i x hx
  exact ⟨b, off, ra, rc, ha, hbl, hF, (hb.cell (p := ⟨b, off + i, none⟩) hbl).trans e1, e2.below hb, e2, e3⟩
theorem results_cell1 {fn : Func} {p : Tmp} {ty : TypeId} (h : fn.results = #[.cell p ty]) (tmps : Array Value) (P : Program) (w : World) :
    (results fn tmps).run P w = ((asAddr (tmps.getD p undef)).run P w).andThen fun a w₁ => (loadVar ty a).run P w₁ := by
  simp only [results, h]
  simp [Sem.run_bind, Result.andThen]
theorem infoS : (Try.prog.info? 35).map (fun i => (i.zero, i.size, i.bytes)) = some (some (.slice none 0 0), 1, 24) := by kernel_rfl
theorem size_take {L : List (List Int)} {k : Nat} {x : List Int} (h : L[k]? = some x) : sizeN (lens (L.take (k + 1))) = sizeN (lens (L.take k)) + (x.length + 1) := by
  obtain ⟨hk, e⟩ := List.getElem?_eq_some_iff.1 h
  rw [List.take_succ_eq_append_getElem hk, lens_append, sizeN_append, e]; simp [lens, sizeN]
theorem size_take_le (L : List (List Int)) (k : Nat) : sizeN (lens (L.take k)) ≤ sizeN (lens L) := by
  rw [lens_take]; exact sizeN_take_le _ _
theorem size_count (L : List (List Int)) : L.length ≤ sizeN (lens L) := by rw [sizeN_sum, lens_len]; omega
theorem cell_set1 {w : World} {g k : Nat} {cur : List Value} {t : TypeId} (h : w.heap[g]? = some (.cells cur.toArray t (0, 0))) (a : Value) : (w.setCell ⟨g, k, none⟩ a).heap[g]? = some (.cells (cur.set k a).toArray t (0, 0)) := by
  have := heap_set h k a
  simpa using this
def has10 (x : List Int) : Bool := x.elem 10
theorem has10_iff {x : List Int} : has10 x = true ↔ (10 : Int) ∈ x := by simp [has10]
theorem take_snocI {L : List (List Int)} {k : Nat} {x : List Int} (h : L[k]? = some x) : L.take (k + 1) = L.take k ++ [x] := by
  obtain ⟨hk, e⟩ := List.getElem?_eq_some_iff.1 h
  rw [List.take_succ_eq_append_getElem hk, e]
theorem plain_iff {L : List (List Int)} : L.any has10 = false ↔ plainL L := by
  unfold plainL
  rw [List.any_eq_false]
  constructor
  · intro h x hx hm
    exact h x hx (has10_iff.2 hm)
  · intro h x hx hh
    exact h x hx (has10_iff.1 hh)
theorem joinL_len_le (L : List (List Int)) : (joinL L).length ≤ sizeN (lens L) := by
  by_cases h : L = []
  · subst h; simp [joinL_nil]
  · have := joinL_len h; omega
theorem results_ct {fn : Func} {p q : Tmp} {ty : TypeId} (h : fn.results = #[.cell p ty, .tmp q]) (tmps : Array Value) (P : Program) (w : World) :
    (results fn tmps).run P w = ((asAddr (tmps.getD p undef)).run P w).andThen fun a w₁ => ((loadVar ty a).run P w₁).andThen fun v w₂ => .ok (.tuple #[v, tmps.getD q undef]) w₂ := by
  simp only [results, h]
  simp [Sem.run_bind, Result.andThen]
theorem rdl_wf {F : Nat → Prop} {w : World} {a : Option Addr} {n c : Nat} {L : List (List Int)} (h : RdL F w a n c L) : ∀ x ∈ joinL L, (Lit.int .i32 x).wf = true := by
  intro v hv
  have h1 : v ∈ joinE L := by
    unfold joinL at hv
    exact List.dropLast_subset _ hv
  unfold joinE at h1
  simp only [List.mem_flatMap, List.mem_append, List.mem_singleton] at h1
  obtain ⟨x, hx, h1⟩ := h1
  rcases h1 with h1 | h1
  · obtain ⟨i, hi, e⟩ := List.getElem_of_mem hx
    obtain ⟨b, off, ra, rc, _, _, _, _, hrd, _⟩ := h.get (Below.refl _ _) (List.getElem?_eq_getElem hi)
    rw [e] at hrd
    exact hrd.2.2.2.1 v h1
  · subst h1; rfl
theorem one_rdl0 (w : World) : RdL (fun k => k = w.heap.size) (w.alloc (.cells #[.slice none 0 0] 35)) (some ⟨w.heap.size, 0, none⟩) 1 1 [[]] := by
  have hg := heap_alloc_new w (.cells #[.slice none 0 0] 35)
  refine ⟨[.slice none 0 0], ⟨rfl, Nat.le_refl _, by unfold maxLen; omega, (fun e => by cases e), fun _ => ⟨_, 0, rfl, heap_lt hg, fun j u hu => ?_⟩⟩, fun _ ad e => by cases e; rfl, RowsAt.one (Rd.none0 _ _) (InF.zero _ _)⟩
  rw [cell_row hg, Nat.zero_add]
  simpa using hu
/-- lines that are the caller's own: each in a row of its own -/
def FreshL (B : Nat) (w : World) (a : Option Addr) (n c : Nat) (L : List (List Int)) : Prop :=
  ∃ vs, w.ownsRow B 35 1 (.slice a n c) n vs ∧ vs.length = L.length ∧ (∀ (i : Nat) (x : List Int), L[i]? = some x → ∃ v, vs[i]? = some v ∧ w.ownsRow B 21 1 v x.length (ints x)) ∧
    (∀ (i j : Nat) (vi vj : Value), i < j → vs[i]? = some vi → vs[j]? = some vj → ∀ k, vi.ownBlock = some k → vj.ownBlock ≠ some k)
theorem FreshL.len {B w a n c L} (h : FreshL B w a n c L) : L.length = n := by
  obtain ⟨vs, h1, h2, _⟩ := h
  have := h1.1
  omega
theorem FreshL.below {B : Nat} {w w' : World} {a : Option Addr} {n c : Nat} {L : List (List Int)} (h : FreshL B w a n c L) (hb : Below w.heap.size w w') : FreshL B w' a n c L := by
  obtain ⟨vs, h1, h2, h3, h4⟩ := h
  exact ⟨vs, own_fr h1 (Fr.of_below (fun _ => False) hb) (fun _ _ h => h), h2, fun i x hx => by obtain ⟨v, e1, e2⟩ := h3 i x hx; exact ⟨v, e1, own_fr e2 (Fr.of_below (fun _ => False) hb) (fun _ _ h => h)⟩, h4⟩
theorem FreshL.rdl {B : Nat} {w : World} {a : Option Addr} {n c : Nat} {L : List (List Int)} (h : FreshL B w a n c L) (hw : ∀ x ∈ L, ∀ y ∈ x, (Lit.int .i32 y).wf = true) : RdL (fun k => B ≤ k) w a n c L := by
  obtain ⟨vs, h1, h2, h3, h4⟩ := h
  refine ⟨vs, Rc.own h1, InF.own h1 (fun k e => (h1.lt k e).1), h2, fun i x hx => ?_⟩
  obtain ⟨v, e1, e2⟩ := h3 i x hx
  obtain ⟨ra, rc, rfl⟩ := own_slice e2
  exact ⟨ra, rc, e1, own_rd e2 (hw x (List.mem_of_getElem? hx)), InF.own e2 (fun k e => (e2.lt k e).1)⟩
theorem lines_wf {L : List (List Int)} (h : ∀ x ∈ joinL L, (Lit.int .i32 x).wf = true) : ∀ x ∈ L, ∀ y ∈ x, (Lit.int .i32 y).wf = true := by
  intro x hx y hy
  have hne : L ≠ [] := by intro e; subst e; cases hx
  have h1 : y ∈ joinE L := by
    unfold joinE
    simp only [List.mem_flatMap, List.mem_append]
    exact ⟨x, hx, .inl hy⟩
  rw [joinE_joinL hne] at h1
  rcases List.mem_append.1 h1 with h1 | h1
  · exact h y h1
  · simp at h1; subst h1; rfl
/-- in the loop that makes lines the caller's: k of them are -/
def AllS (B g n c k : Nat) (F : Nat → Prop) (L : List (List Int)) (w wr : World) : Prop :=
  ∃ cur : List Value, wr.heap[g]? = some (.cells cur.toArray 35 (0, 0)) ∧ cur.length = c ∧
    (∀ (i : Nat) (x : List Int), i < k → L[i]? = some x → ∃ v, cur[i]? = some v ∧ wr.ownsRow B 21 1 v x.length (ints x)) ∧
    (∀ (i j : Nat) (vi vj : Value), i < j → j < k → cur[i]? = some vi → cur[j]? = some vj → ∀ b, vi.ownBlock = some b → vj.ownBlock ≠ some b) ∧
    (∀ (i : Nat) (x : List Int), k ≤ i → L[i]? = some x → ∃ ra rc, cur[i]? = some (Value.slice ra x.length rc) ∧ Rd .i32 wr ra x.length rc x ∧ InF F ra x.length) ∧ Below B w wr
theorem AllS.step {B g n c k : Nat} {F : Nat → Prop} {L : List (List Int)} {w wr W : World} {v : Value} {x : List Int} (h : AllS B g n c k F L w wr) (hk : k < c) (hx : L[k]? = some x) (hv : W.ownsRow wr.heap.size 21 1 v x.length (ints x)) (hb : Below wr.heap.size wr W) (hB : B ≤ g) (hF : ∀ b, F b → b ≠ g) (hs : B ≤ wr.heap.size) (hlen : L.length ≤ c) :
    AllS B g n c (k + 1) F L w (W.setCell ⟨g, k, none⟩ v) := by
  obtain ⟨cur, h1, h2, h3, h4, h5, h6⟩ := h
  have hg := (hb.block g (heap_lt h1)).trans h1
  have hgl := heap_lt h1
  have hf : Fr (fun b => b = g) W (W.setCell ⟨g, k, none⟩ v) := (Fr.refl _ _).setCell _ _ (fun _ => rfl)
  have far : ∀ {B' n' : Nat} {u : Value} {xs : List Value}, W.ownsRow B' 21 1 u n' xs → (W.setCell ⟨g, k, none⟩ v).ownsRow B' 21 1 u n' xs := fun ho => own_fr ho hf (fun b e => row_block_apart ho hg (by decide) e)
  refine ⟨cur.set k v, cell_set1 hg v, by simp [h2], ?_, ?_, ?_, (h6.trans (hb.mono hs)).setCell hB _⟩
  · intro i y hi hy
    by_cases e : i = k
    · subst e
      rw [hx] at hy
      cases hy
      exact ⟨v, by rw [List.getElem?_set_self (by omega)], far (own_mono hv hs)⟩
    · obtain ⟨u, e1, e2⟩ := h3 i y (by omega) hy
      exact ⟨u, by rw [List.getElem?_set_ne (by omega)]; exact e1, far (own_fr e2 (Fr.of_below (fun _ => False) hb) (fun _ _ h => h))⟩
  · intro i j vi vj hij hj hi hvj b hb'
    rw [List.getElem?_set_ne (by omega)] at hi
    by_cases e : j = k
    · subst e
      rw [List.getElem?_set_self (by omega)] at hvj
      cases hvj
      have hil : i < L.length := by
        have := (List.getElem?_eq_some_iff.1 hx).1; omega
      obtain ⟨u, e1, e2⟩ := h3 i _ hij (List.getElem?_eq_getElem hil)
      rw [hi] at e1
      cases e1
      intro e3
      have := (e2.lt b hb').2
      have := (hv.lt b e3).1
      omega
    · rw [List.getElem?_set_ne (by omega)] at hvj
      exact h4 i j vi vj hij (by omega) hi hvj b hb'
  · intro i y hi hy
    obtain ⟨ra, rc, e1, e2, e3⟩ := h5 i y (by omega) hy
    exact ⟨ra, rc, by rw [List.getElem?_set_ne (by omega)]; exact e1, (e2.below hb).frF e3 hf (fun b hb' => hF b hb'), e3⟩
theorem rrunes_any (F : Nat → Prop) (a : Option Addr) (n c : Nat) (L : List (List Int)) (w : World) (h : RdL F w a n c L) (hs : sizeN (lens L) ≤ 4611686018427387904) :
    Calls Try.prog 51 #[.slice a n c] w fun e w' => e = .returned (.int .i64 ((joinL L).length : Nat)) ∧ w = w' := by
  have hl := h.len
  have HL := Lib.hid hl
  have H := Lib.hid h
  have hj : max ((sizeN (lens L) : Int) - 1) 0 = ((joinL L).length : Int) := by
    by_cases e : L = []
    · subst e; simp [joinL_nil, lens, sizeN_nil]; decide
    · have := joinL_len e; omega
  obtain ⟨Z, hZ⟩ : ∃ Z, sizeN (lens L) = Z := ⟨_, rfl⟩
  obtain ⟨R, hR⟩ : ∃ R, (joinL L).length = R := ⟨_, rfl⟩
  have HZ := Lib.hid hZ
  have hnz : n ≤ Z := by rw [← hZ, ← hl]; exact size_count L
  rw [hR, hZ] at hj
  rw [hZ] at hs
  rw [hR]
  have HJ := Lib.hid hj
  clear h hl hZ hR hj
  go_enter Try.func51, Try.ntmps51
  go_wp2_with fail
  go_loop [3, 4] (fun v3 v4 => ∃ k s : Nat, k ≤ n ∧ s ≤ Z ∧ v4 = .int .i64 k ∧ v3 = .int .i64 ((s : Int) - 1) ∧ Hid (s + k = sizeN (lens (L.take k)) + n)) (fun _ v4 => n - (intOf v4).toNat)
  case atStart => exact ⟨0, n, Nat.zero_le _, hnz, rfl, by go_num, by show _ = _; simp [lens, sizeN]⟩
  case round =>
    obtain ⟨k, s, hk, hs', rfl, rfl, he⟩ := hrel
    by_cases hlt : k < n
    · obtain ⟨x, hx⟩ : ∃ x, L[k]? = some x := ⟨_, List.getElem?_eq_getElem (by have := HL.out; omega)⟩
      obtain ⟨b, off, ra, rc, rfl, hb, _, hc, hrd, _⟩ := H.out.get (Below.refl _ _) hx
      have h1 := size_take hx
      have h2 := size_take_le L (k + 1)
      have h4 : sizeN (lens L) = sizeN (lens (L.take (k + 1))) + sizeN (lens (L.drop (k + 1))) := by rw [← sizeN_append, ← lens_append, List.take_append_drop]
      have h5 := size_count (L.drop (k + 1))
      rw [List.length_drop, HL.out] at h5
      obtain ⟨y, hy⟩ : ∃ y, x.length = y := ⟨_, rfl⟩
      rw [hy] at h1 hc
      have hsz : s + y ≤ Z := by have := he.out; have := HZ.out; omega
      have HE : Hid (s + y + (k + 1) = sizeN (lens (L.take (k + 1))) + n) := by show _ = _; have := he.out; omega
      have q1 : IntKind.i64.wrap ((s : Int) - 1 + (y : Int)) = (s : Int) - 1 + (y : Int) := by rw [IntKind.wrap_i64]; omega
      clear hx hrd h1 h2 h4 h5 hy he HJ
      go_wp2_with fail
      go_round
      case rel => exact ⟨k + 1, s + y, by omega, hsz, by go_num, by go_num, HE⟩
      case measure => simp [intOf]; omega
    · obtain rfl : k = n := by omega
      have e : s = Z := by
        have := he.out
        rw [List.take_of_length_le (by have := HL.out; omega), HZ.out] at this
        omega
      subst e
      clear he
      have hj := HJ.out
      clear HJ
      go_wp2_with fail
      all_goals
        go_ret
        refine ⟨?_, rfl⟩
        congr 1
        try go_num
set_option maxHeartbeats 2000000 in
theorem rjoined_any (F : Nat → Prop) (a : Option Addr) (n c : Nat) (L : List (List Int)) (w : World) (h : RdL F w a n c L) (hs : sizeN (lens L) ≤ 1048576) :
    Calls Try.prog 35 #[.slice a n c] w fun e w' => ∃ a' c', e = .returned (.slice a' (joinL L).length c') ∧ w'.ownsRow w.heap.size 21 1 (.slice a' (joinL L).length c') (joinL L).length (ints (joinL L)) ∧ Below w.heap.size w w' := by
  have hl := h.len
  have hsm := h.small
  have HZ : Hid (sizeN (lens L) ≤ 1048576) := hs
  have HL := Lib.hid hl
  have H := Lib.hid h
  clear h hl hs
  go_enter Try.func35, Try.ntmps35
  go_wp2_with fail
  go_loopw [3, 4] (fun v3 v4 wr => ∃ (k m : Nat) (ra : Option Addr) (rc : Nat), v4 = .int .i64 k ∧ v3 = .slice ra m rc ∧ k ≤ n ∧ m ≤ 1048576 ∧ Hid (m = (joinL (L.take k)).length ∧ wr.ownsRow w.heap.size 21 1 (.slice ra m rc) m (ints (joinL (L.take k))) ∧ Below w.heap.size w wr)) (fun _ v4 _ => n - (intOf v4).toNat)
  case atStart => exact ⟨0, 0, _, _, rfl, rfl, Nat.zero_le _, Nat.zero_le _, rfl, World.ownsRow_nil _ _ _ _, Below.refl _ _⟩
  case round =>
    obtain ⟨k, m, ra, rc, rfl, rfl, hk, hm, hst⟩ := hrel
    obtain ⟨hml, ho, hb⟩ := hst.out
    clear hst
    by_cases hlt : k < n
    · obtain ⟨x, hx⟩ : ∃ x, L[k]? = some x := ⟨_, List.getElem?_eq_getElem (by have := HL.out; omega)⟩
      obtain ⟨b, off, xa, xc, rfl, hbl, _, hc, hrd, _⟩ := H.out.get hb hx
      have hbw : b < wr.heap.size := by have := hb.size; omega
      have hjl := joinL_len_le (L.take (k + 1))
      have hsl := size_take_le L (k + 1)
      have hbz := hb.size
      have hzz := HZ.out
      have hsn := joinL_snoc (L.take k) x
      rw [← take_snocI hx] at hsn
      by_cases hk0 : k = 0
      · subst hk0
        rw [List.take_zero, if_pos rfl, List.nil_append] at hsn
        rw [List.take_zero, joinL_nil] at ho hml
        simp only [List.length_nil] at hml
        subst hml
        obtain ⟨a2, c2, w2, hrun, ho2, hb2⟩ := app_rd wr w.heap.size _ 0 [] xa x.length xc x ho hb.size hrd (by rw [hsn] at hjl; omega)
        rw [Nat.zero_add] at hrun ho2
        rw [List.nil_append] at ho2
        have HRUN := Lib.hid hrun
        obtain ⟨y, hy⟩ : ∃ y, x.length = y := ⟨_, rfl⟩
        have hyb : y ≤ 1048576 := by rw [hsn] at hjl; omega
        have HN : Hid (y = (joinL (L.take 1)).length ∧ w2.ownsRow w.heap.size 21 1 (.slice a2 y c2) y (ints (joinL (L.take 1))) ∧ Below w.heap.size w w2) := by
          rw [← hy]
          have hsn' : joinL (L.take 1) = x := hsn
          exact ⟨by rw [hsn'], by rw [hsn']; exact ho2, hb.trans hb2⟩
        rw [hy] at hc HRUN
        clear hx hrd hjl hsl hsn ho hrun ho2 hb2 hy
        rw [Nat.add_zero] at hc
        go_wp2_with (at_builtin; go_must (with_reducible refine Lib.wpList_append_run _ rfl (.tmp 16) (.tmp 20) _ _ rfl _ _ rfl rfl _ _ (HRUN.out _) ?_))
        go_roundw
        case rel => exact ⟨1, y, a2, c2, by go_num, rfl, by omega, hyb, HN⟩
        case measure => simp [intOf]; omega
      · have hne : L.take k ≠ [] := by
          intro e
          have := congrArg List.length e
          rw [List.length_take, HL.out, List.length_nil] at this
          omega
        rw [if_neg hne] at hsn
        have hlen := congrArg List.length hsn
        simp only [List.length_append, List.length_cons, List.length_nil] at hlen
        have hba : Below w.heap.size w (wr.alloc (.cells #[.int .i32 10] 21)) := hb.alloc hb.size _
        have hr10 := Rd_new .i32 wr [10] #[.int .i32 10] 21 1 rfl rfl (by unfold maxLen; omega) (by decide)
        obtain ⟨a2, c2, w2, hrun, ho2, hb2⟩ := app_rd (wr.alloc (.cells #[.int .i32 10] 21)) w.heap.size _ m _ (some ⟨wr.heap.size, 0, none⟩) 1 1 [10] (ho.alloc _) hba.size hr10 (by omega)
        have hb12 := hba.trans hb2
        have hx2 : Rd .i32 w2 xa x.length xc x := by
          obtain ⟨b', off', xa', xc', e1, _, _, e4, e5, _⟩ := H.out.get hb12 hx
          have e6 := (hb12.cell (p := ⟨b, off + k, none⟩) hbl)
          have e7 := (hb.cell (p := ⟨b, off + k, none⟩) hbl)
          cases e1
          rw [e6, ← e7, hc] at e4
          injection e4 with e4
          injection e4 with q1 q2 q3
          subst q1 q3
          exact e5
        obtain ⟨a3, c3, w3, hrun3, ho3, hb3⟩ := app_rd w2 w.heap.size _ (m + 1) _ xa x.length xc x ho2 hb12.size hx2 (by omega)
        have HRUN := Lib.hid hrun
        have HRUN3 := Lib.hid hrun3
        obtain ⟨y, hy⟩ : ∃ y, x.length = y := ⟨_, rfl⟩
        have hyb : m + 1 + y ≤ 1048576 := by omega
        have hc2' := (hb12.cell (p := ⟨b, off + k, none⟩) hbl).trans ((hb.cell (p := ⟨b, off + k, none⟩) hbl).symm.trans hc)
        have hb2l : b < w2.heap.size := by have := hb12.size; omega
        have HN : Hid (m + 1 + y = (joinL (L.take (k + 1))).length ∧ w3.ownsRow w.heap.size 21 1 (.slice a3 (m + 1 + y) c3) (m + 1 + y) (ints (joinL (L.take (k + 1)))) ∧ Below w.heap.size w w3) := by
          rw [← hy]
          exact ⟨by omega, by rw [hsn]; exact ho3, hb12.trans hb3⟩
        rw [hy] at hc HRUN3 hc2'
        have hk0' : 0 < k := by omega
        clear hx hrd hjl hsl hsn ho hrun ho2 hb2 hy hrun3 ho3 hb3 hx2 hr10 hba hb12 hlen hne hml
        go_wp2_with (at_builtin; go_must (first
          | (with_reducible refine Lib.wpList_append_run _ rfl (.tmp 13) (.tmp 14) _ _ rfl _ _ rfl rfl _ _ (HRUN.out _) ?_)
          | (with_reducible refine Lib.wpList_append_run _ rfl (.tmp 16) (.tmp 20) _ _ rfl _ _ rfl rfl _ _ (HRUN3.out _) ?_)))
        go_roundw
        case rel => exact ⟨k + 1, m + 1 + y, a3, c3, by go_num, rfl, by omega, hyb, HN⟩
        case measure => simp [intOf]; omega
    · obtain rfl : k = n := by omega
      rw [List.take_of_length_le (by have := HL.out; omega)] at ho hml
      have HF : Hid (∃ a' c', Ending.returned (.slice ra m rc) = Ending.returned (.slice a' (joinL L).length c') ∧ wr.ownsRow w.heap.size 21 1 (.slice a' (joinL L).length c') (joinL L).length (ints (joinL L)) ∧ Below w.heap.size w wr) := by
        rw [← hml]
        exact ⟨_, _, rfl, ho, hb⟩
      clear ho hml
      go_wp2_with fail
      go_ret
      exact HF.out
/-- two rows of one length: are they the same? -/
theorem runes_eqlen (a1 a2 : Option Addr) (len c1 c2 : Nat) (xs ys : List Int) (w : World) (h1 : Rd .i32 w a1 len c1 xs) (h2 : Rd .i32 w a2 len c2 ys) :
    Calls Try.prog 36 #[.slice a1 len c1, .slice a2 len c2] w fun e w' => e = .returned (.bool (decide (xs = ys))) ∧ Below w.heap.size w w' := by
  have hsm := h1.small
  have hl1 := h1.1
  have hl2 := h2.1
  have heq : ((len : Int) != (len : Int)) = false := by simp
  by_cases h0 : len = 0
  · subst h0
    have e1 : xs = [] := List.eq_nil_of_length_eq_zero hl1
    have e2 : ys = [] := List.eq_nil_of_length_eq_zero hl2
    subst e1 e2
    exact runes_same a1 a2 0 c1 c2 [] w h1 h2
  · obtain ⟨p1, o1, rfl, hc1⟩ := h1.2.2.2.2.2 (by omega)
    obtain ⟨p2, o2, rfl, hc2⟩ := h2.2.2.2.2.2 (by omega)
    have hp1 := block_lt_of_cell (hc1 0 (by omega))
    have hp2 := block_lt_of_cell (hc2 0 (by omega))
    have HC1 := Lib.hid hc1; clear hc1
    have HC2 := Lib.hid hc2; clear hc2
    have HL1 := Lib.hid hl1; clear hl1
    have HL2 := Lib.hid hl2; clear hl2
    clear h1 h2
    go_enter Try.func36, Try.ntmps36
    go_wp2_with fail
    go_loopw [5] (fun i wr => ∃ k : Nat, k ≤ len ∧ i = .int .i64 k ∧ Hid (xs.take k = ys.take k) ∧ Below w.heap.size w wr) (fun i _ => len - (intOf i).toNat)
    case atStart => exact ⟨0, by omega, rfl, rfl, Below.refl _ _⟩
    case round =>
      obtain ⟨k, hk, rfl, hsame, hbl⟩ := hrel
      by_cases hlt : k < len
      · have e1 := (hbl.cell (p := ⟨p1, o1 + k, none⟩) hp1).trans (HC1.out k hlt)
        have e2 := (hbl.cell (p := ⟨p2, o2 + k, none⟩) hp2).trans (HC2.out k hlt)
        have hkx : k < xs.length := by have := HL1.out; omega
        have hky : k < ys.length := by have := HL2.out; omega
        obtain ⟨x, hx⟩ : ∃ x, xs[k]? = some x := ⟨_, List.getElem?_eq_getElem hkx⟩
        obtain ⟨y, hy⟩ : ∃ y, ys[k]? = some y := ⟨_, List.getElem?_eq_getElem hky⟩
        rw [List.getD_eq_getElem?_getD, hx, Option.getD_some] at e1
        rw [List.getD_eq_getElem?_getD, hy, Option.getD_some] at e2
        by_cases hxy : x = y
        · subst hxy
          have hxx : (x != x) = false := by simp
          have HN : Hid (xs.take (k + 1) = ys.take (k + 1)) := by
            have q1 := (List.getElem?_eq_some_iff.1 hx).2
            have q2 := (List.getElem?_eq_some_iff.1 hy).2
            show _ = _
            rw [List.take_succ_eq_append_getElem hkx, List.take_succ_eq_append_getElem hky, q1, q2, hsame.out]
          clear hx hy hsame
          go_wp2_with fail
          go_quiet (fail)
          go_wp2_with fail
          go_roundw
          case rel => exact ⟨k + 1, by omega, by go_num, HN, bdrewN hbl _⟩
          case measure => simp [intOf]; omega
        · have hxx : (x != y) = true := by simpa using hxy
          have HF : Hid (decide (xs = ys) = false) := by
            rw [Hid, decide_eq_false_iff_not]
            intro e
            rw [e, hy] at hx
            injection hx with hx
            exact hxy hx.symm
          clear hx hy hsame
          go_wp2_with fail
          go_quiet (fail)
          go_wp2_with fail
          go_ret
          exact ⟨by rw [HF.out]; rfl, bdrewN hbl _⟩
      · obtain rfl : k = len := by omega
        have HF : Hid (decide (xs = ys) = true) := by
          have := hsame.out
          rw [List.take_of_length_le (by have := HL1.out; omega), List.take_of_length_le (by have := HL2.out; omega)] at this
          rw [Hid, decide_eq_true_eq]
          exact this
        clear hsame
        go_wp2
        go_ret
        exact ⟨by rw [HF.out]; rfl, hbl⟩
theorem runes_any (a1 a2 : Option Addr) (n1 n2 c1 c2 : Nat) (xs ys : List Int) (w : World) (h1 : Rd .i32 w a1 n1 c1 xs) (h2 : Rd .i32 w a2 n2 c2 ys) :
    Calls Try.prog 36 #[.slice a1 n1 c1, .slice a2 n2 c2] w fun e w' => e = .returned (.bool (decide (xs = ys))) ∧ Below w.heap.size w w' := by
  by_cases hn : n1 = n2
  · subst hn; exact runes_eqlen a1 a2 n1 c1 c2 xs ys w h1 h2
  · have hne : ((n1 : Int) != (n2 : Int)) = true := by simp; omega
    have hf : decide (xs = ys) = false := by
      rw [decide_eq_false_iff_not]
      intro e
      have := congrArg List.length e
      have := h1.1
      have := h2.1
      omega
    have s1 := h1.small
    have s2 := h2.small
    rw [hf]
    clear h1 h2 hf
    go_enter Try.func36, Try.ntmps36
    go_wp2_with fail
    go_ret
    exact ⟨rfl, Below.refl _ _⟩
/-- are lines the same? -/
theorem rsame_any (F G : Nat → Prop) (a1 a2 : Option Addr) (n1 n2 c1 c2 : Nat) (L M : List (List Int)) (w : World) (h1 : RdL F w a1 n1 c1 L) (h2 : RdL G w a2 n2 c2 M) :
    Calls Try.prog 16 #[.slice a1 n1 c1, .slice a2 n2 c2] w fun e w' => e = .returned (.bool (decide (L = M))) ∧ Below w.heap.size w w' := by
  have s1 := h1.small
  have s2 := h2.small
  by_cases hn : n1 = n2
  · subst hn
    have hne : ((n1 : Int) != (n1 : Int)) = false := by simp
    have HL1 := Lib.hid h1.len
    have HL2 := Lib.hid h2.len
    have H1 := Lib.hid h1
    have H2 := Lib.hid h2
    clear h1 h2
    go_enter Try.func16, Try.ntmps16
    go_wp2_with fail
    go_loopw [5] (fun i wr => ∃ k : Nat, k ≤ n1 ∧ i = .int .i64 k ∧ Hid (L.take k = M.take k) ∧ Hid (Below w.heap.size w wr)) (fun i _ => n1 - (intOf i).toNat)
    case atStart => exact ⟨0, by omega, rfl, rfl, Below.refl _ _⟩
    case round =>
      obtain ⟨k, hk, rfl, hsame, hbl⟩ := hrel
      by_cases hlt : k < n1
      · have hkx : k < L.length := by have := HL1.out; omega
        have hky : k < M.length := by have := HL2.out; omega
        obtain ⟨x, hx⟩ : ∃ x, L[k]? = some x := ⟨_, List.getElem?_eq_getElem hkx⟩
        obtain ⟨y, hy⟩ : ∃ y, M[k]? = some y := ⟨_, List.getElem?_eq_getElem hky⟩
        obtain ⟨b1, o1, r1, d1, rfl, hb1, _, e1, q1, _⟩ := H1.out.get hbl.out hx
        obtain ⟨b2, o2, r2, d2, rfl, hb2, _, e2, q2, _⟩ := H2.out.get hbl.out hy
        have HR := Lib.hid (runes_any r1 r2 x.length y.length d1 d2 x y wr q1 q2)
        have HRD : Hid (∀ ch, Calls Try.prog 36 #[.slice r1 x.length d1, .slice r2 y.length d2] (wr.drewN ch) fun e w' => e = .returned (.bool (decide (x = y))) ∧ Below wr.heap.size wr w') := by
          intro ch
          refine (runes_any r1 r2 x.length y.length d1 d2 x y (wr.drewN ch) q1 q2).mono ?_
          rintro e w' ⟨rfl, hb⟩
          exact ⟨rfl, (bdrewN (Below.refl _ _) ch).trans hb⟩
        have hw1 : b1 < wr.heap.size := by have := hbl.out.size; omega
        have hw2 : b2 < wr.heap.size := by have := hbl.out.size; omega
        obtain ⟨nx, hnx⟩ : ∃ nx, x.length = nx := ⟨_, rfl⟩
        obtain ⟨ny, hny⟩ : ∃ ny, y.length = ny := ⟨_, rfl⟩
        rw [hnx, hny] at HR HRD
        rw [hnx] at e1
        rw [hny] at e2
        by_cases hxy : x = y
        · have hd : decide (x = y) = true := by simpa using hxy
          rw [hd] at HR HRD
          have HN : Hid (L.take (k + 1) = M.take (k + 1)) := by
            have q1 := (List.getElem?_eq_some_iff.1 hx).2
            have q2 := (List.getElem?_eq_some_iff.1 hy).2
            show _ = _
            rw [List.take_succ_eq_append_getElem hkx, List.take_succ_eq_append_getElem hky, q1, q2, hsame.out, hxy]
          clear hx hy hsame q1 q2 hnx hny hd hxy
          go_wp2_with fail
          go_cut [26] (fun v26 wx => v26 = .bool false ∧ Hid (Below w.heap.size w wx))
          case first =>
            go_region_with (go_at_call 36; first | (refine HR.out.mono ?_; rintro e w1 ⟨rfl, hb⟩) | (refine (HRD.out _).mono ?_; rintro e w1 ⟨rfl, hb⟩))
            all_goals
              go_wp2_with fail
              go_meet
              first
                | exact ⟨rfl, hbl.out.trans (hb.mono hbl.out.size)⟩
                | exact ⟨rfl, hbl.out.trans ((hb.mono hbl.out.size).drew)⟩
          case rest =>
            obtain ⟨rfl, hb2⟩ := hcut
            go_wp2_with fail
            go_roundw
            case rel => exact ⟨k + 1, by omega, by go_num, HN, hb2⟩
            case measure => simp [intOf]; omega
        · have hd : decide (x = y) = false := by simpa using hxy
          rw [hd] at HR HRD
          have HF : Hid (decide (L = M) = false) := by
            rw [Hid, decide_eq_false_iff_not]
            intro e
            rw [e, hy] at hx
            injection hx with hx
            exact hxy hx.symm
          clear hx hy hsame q1 q2 hnx hny hd hxy
          go_wp2_with fail
          go_cut [26] (fun v26 wx => v26 = .bool true ∧ Hid (Below w.heap.size w wx))
          case first =>
            go_region_with (go_at_call 36; first | (refine HR.out.mono ?_; rintro e w1 ⟨rfl, hb⟩) | (refine (HRD.out _).mono ?_; rintro e w1 ⟨rfl, hb⟩))
            all_goals
              go_wp2_with fail
              go_meet
              first
                | exact ⟨rfl, hbl.out.trans (hb.mono hbl.out.size)⟩
                | exact ⟨rfl, hbl.out.trans ((hb.mono hbl.out.size).drew)⟩
          case rest =>
            obtain ⟨rfl, hb2⟩ := hcut
            go_wp2_with fail
            go_ret
            exact ⟨by rw [HF.out]; rfl, hb2.out⟩
      · obtain rfl : k = n1 := by omega
        have HF : Hid (decide (L = M) = true) := by
          have := hsame.out
          rw [List.take_of_length_le (by have := HL1.out; omega), List.take_of_length_le (by have := HL2.out; omega)] at this
          rw [Hid, decide_eq_true_eq]
          exact this
        clear hsame
        go_wp2_with fail
        go_ret
        exact ⟨by rw [HF.out]; rfl, hbl.out⟩
  · have hne : ((n1 : Int) != (n2 : Int)) = true := by simp; omega
    have hf : decide (L = M) = false := by
      rw [decide_eq_false_iff_not]
      intro e
      have := congrArg List.length e
      have := h1.len
      have := h2.len
      omega
    rw [hf]
    clear h1 h2 hf
    go_enter Try.func16, Try.ntmps16
    go_wp2_with fail
    go_ret
    exact ⟨rfl, Below.refl _ _⟩
/-- two lines that are written down -/
theorem rdl_lit2 (w : World) (x y : List Int) (cx cy : Array Value) (n m : Nat) (hcx : cx = (x.map (Value.int .i32)).toArray) (hcy : cy = (y.map (Value.int .i32)).toArray) (hx : x.length = n) (hy : y.length = m) (hn : n ≤ maxLen) (hm : m ≤ maxLen)
    (wx : ∀ z ∈ x, (Lit.int .i32 z).wf = true) (wy : ∀ z ∈ y, (Lit.int .i32 z).wf = true) :
    RdL (fun k => w.heap.size ≤ k ∧ k < w.heap.size + 3) (((w.alloc (.cells cx 21)).alloc (.cells cy 21)).alloc (.cells #[.slice (some ⟨w.heap.size, 0, none⟩) n n, .slice (some ⟨w.heap.size + 1, 0, none⟩) m m] 35)) (some ⟨w.heap.size + 2, 0, none⟩) 2 2 [x, y] := by
  have hg := heap_alloc_new ((w.alloc (.cells cx 21)).alloc (.cells cy 21)) (.cells #[.slice (some ⟨w.heap.size, 0, none⟩) n n, .slice (some ⟨w.heap.size + 1, 0, none⟩) m m] 35)
  have hsz : ((w.alloc (.cells cx 21)).alloc (.cells cy 21)).heap.size = w.heap.size + 2 := by simp
  rw [hsz] at hg
  have r1 := (Rd_new .i32 w x cx 21 n hcx hx hn wx).below (((Below.refl _ _).alloc (Nat.le_refl _) (.cells cy 21)).alloc (by simp) (.cells #[.slice (some ⟨w.heap.size, 0, none⟩) n n, .slice (some ⟨w.heap.size + 1, 0, none⟩) m m] 35))
  have r2 := (Rd_new .i32 (w.alloc (.cells cx 21)) y cy 21 m hcy hy hm wy).below ((Below.refl _ _).alloc (Nat.le_refl _) (.cells #[.slice (some ⟨w.heap.size, 0, none⟩) n n, .slice (some ⟨w.heap.size + 1, 0, none⟩) m m] 35))
  have hs1 : (w.alloc (.cells cx 21)).heap.size = w.heap.size + 1 := by simp
  rw [hs1] at r2
  refine ⟨[.slice (some ⟨w.heap.size, 0, none⟩) n n, .slice (some ⟨w.heap.size + 1, 0, none⟩) m m], ⟨rfl, Nat.le_refl _, by unfold maxLen; omega, (fun e => by cases e), fun _ => ⟨_, 0, rfl, heap_lt hg, fun j u hu => ?_⟩⟩, fun _ ad e => by cases e; exact ⟨by simp, by simp⟩, ?_⟩
  · rw [cell_row hg, Nat.zero_add]
    simpa using hu
  · exact (RowsAt.one r1 (fun _ ad e => by cases e; exact ⟨by simp, by simp⟩)).append (RowsAt.one r2 (fun _ ad e => by cases e; exact ⟨by simp, by simp⟩))
section
open Go.RowKit Go.ChangeShapes Go.WideShapes Go.Deep
/-- A slice as the frame opens it can be read. -/
theorem Rd_of_row {k : IntKind} {w : World} {a : Option Addr} {len cap : Nat} {zs : List Int}
    (h : (a = none ∧ len = 0 ∧ cap = 0 ∧ zs = []) ∨ ∃ x, a = some x ∧ len ≤ cap ∧ cap ≤ maxLen ∧ zs.length = cap ∧ (∀ i, i < zs.length → w.cell? (x.add i) = some (.int k (zs.getD i 0))) ∧ ∀ n ∈ zs, (Lit.int k n).wf = true) :
    Rd k w a len cap (zs.take len) := by
  rcases h with ⟨rfl, rfl, rfl, rfl⟩ | ⟨x, rfl, hl, hm, hz, hc, hw⟩
  · exact Rd.none0 _ _
  · refine ⟨by rw [List.length_take]; omega, hl, hm, fun y hy => hw y (List.mem_of_mem_take hy), (fun h => by cases h), fun hp => ?_⟩
    obtain ⟨b, off, spot⟩ := x
    have h0 := hc 0 (by omega)
    have hspot : spot = none := by simpa [Addr.add] using World.cell?_spot h0
    subst hspot
    refine ⟨b, off, rfl, fun i hi => ?_⟩
    have h1 := hc i (by omega)
    have he : (⟨b, off, none⟩ : Addr).add i = ⟨b, off + i, none⟩ := by
      by_cases h0 : i = 0
      · subst h0; rfl
      · simp [Addr.add]; intro hj; exact absurd hj h0
    rw [he] at h1
    rw [h1]
    simp [List.getD_eq_getElem?_getD, List.getElem?_take, hi]
end
section
open Go.RowKit Go.ChangeShapes Go.WideShapes Go.Deep
/-- what is read lies in the heap -/
theorem Rd.inHeap {k : IntKind} {w : World} {a : Option Addr} {len cap : Nat} {xs : List Int} (h : Rd k w a len cap xs) : InF (fun k => k < w.heap.size) a len := by
  intro hp ad e
  obtain ⟨b, off, e2, hc⟩ := h.2.2.2.2.2 hp
  rw [e] at e2
  cases e2
  exact block_lt_of_cell (hc 0 hp)
end
section
open Go.RowKit Go.ChangeShapes Go.WideShapes Go.Deep
variable {H : Type} {enc : TypeId × Value → H} {w : World} {base : Nat} {held : Bool}
theorem two {α : Type} {l : List α} (h : l.length = 2) : ∃ a b, l = [a, b] := by
  match l, h with
  | [a, b], _ => exact ⟨a, b, rfl⟩
end
def smallL (L : List (List Int)) : Bool := decide (L.length ≤ 300) && decide ((joinL L).length ≤ 3000)
theorem fresh_snoc (wr w1 : World) (B : Nat) (a : Option Addr) (n c : Nat) (L : List (List Int)) (h : FreshL B wr a n c L) (hb : Below wr.heap.size wr w1) (hB : B ≤ wr.heap.size) (ra : Option Addr) (m rc : Nat) (x : List Int) (hx : x.length = m) (hv : w1.ownsRow wr.heap.size 21 1 (.slice ra m rc) m (ints x)) (hn : n ≤ 1099511627776) :
    ∃ a' c' w', (∀ ty, (Builtin.append_ #[22, 22] ty #[.slice a n c, .slice (some ⟨w1.heap.size, 0, none⟩) 1 1]).run Try.prog (w1.alloc (.cells #[.slice ra m rc] 35)) = .ok (.slice a' (n + 1) c') w') ∧ FreshL B w' a' (n + 1) c' (L ++ [x]) ∧ Below B wr w' := by
  obtain ⟨vs, h1, h2, h3, h4⟩ := h
  obtain ⟨i0, hi0, hz0, hz1, hz2⟩ := info_parts infoS
  have hg := heap_alloc_new w1 (.cells #[.slice ra m rc] 35)
  have hb0 : Below w1.heap.size w1 (w1.alloc (.cells #[.slice ra m rc] 35)) := (Below.refl _ _).alloc (Nat.le_refl _) _
  have h11 : w1.ownsRow B 35 1 (.slice a n c) n vs := own_fr h1 (Fr.of_below (fun _ => False) hb) (fun _ _ h => h)
  obtain ⟨v', w', hrun, hown, hfr, hnear⟩ := run_append_own_k (P := Try.prog) (w1.alloc (.cells #[.slice ra m rc] 35)) B 22 35 i0 _ 1 24 Try.underlying22 hi0 hz0 hz1 hz2 rfl (by decide) (.slice a n c) n vs (h11.alloc _) (some ⟨w1.heap.size, 0, none⟩) 1 1 [.slice ra m rc] rfl
    (fun _ => ⟨_, rfl, fun j u hu => by rw [add_lit, cell_row hg]; simpa using hu⟩) (by intro u hu; simp only [List.mem_singleton] at hu; subst hu; rfl) (by unfold maxLen; omega) (by omega) (by simp; have := hb.size; omega)
  obtain ⟨a', c', rfl⟩ := own_slice hown
  have hsz := hb.size
  have hbB : Below B wr w' := ((hb.mono hB).trans (hb0.mono (by omega))).trans (hfr.below (by simp; omega) (fun k e => (h11.lt k e.symm).1))
  have far : ∀ {B' n' : Nat} {u : Value} {xs : List Value}, w1.ownsRow B' 21 1 u n' xs → w'.ownsRow B' 21 1 u n' xs := by
    intro B' n' u xs ho
    refine own_fr (ho.alloc _) hfr (fun k e hk => ?_)
    rcases h11.2 with ⟨hv0, _⟩ | ⟨g, cap, cur, hv0, _, hh, _⟩
    · injection hv0 with e1 e2 e3
      subst e1
      cases hk
    · injection hv0 with e1 e2 e3
      subst e1
      have hkg : k = g := by
        have : some k = some g := hk
        injection this
      exact row_block_apart ho hh (by decide) e hkg
  refine ⟨a', c', w', hrun, ⟨vs ++ [.slice ra m rc], hown, by simp [h2], ?_, ?_⟩, hbB⟩
  · intro i y hy
    by_cases hi : i < L.length
    · rw [List.getElem?_append_left hi] at hy
      obtain ⟨v, e1, e2⟩ := h3 i y hy
      exact ⟨v, by rw [List.getElem?_append_left (by omega)]; exact e1, far (own_fr e2 (Fr.of_below (fun _ => False) hb) (fun _ _ h => h))⟩
    · rw [List.getElem?_append_right (by omega)] at hy
      have hi0 : i - L.length = 0 := by
        have := (List.getElem?_eq_some_iff.1 hy).1
        simp at this; omega
      rw [hi0] at hy
      simp at hy
      subst hy
      exact ⟨.slice ra m rc, by rw [List.getElem?_append_right (by omega), h2, hi0]; rfl, by rw [hx]; exact far (own_mono hv hB)⟩
  · intro i j vi vj hij e1 e2 k ek
    by_cases hj : j < vs.length
    · rw [List.getElem?_append_left (by omega)] at e1
      rw [List.getElem?_append_left hj] at e2
      exact h4 i j vi vj hij e1 e2 k ek
    · have hj2 := (List.getElem?_eq_some_iff.1 e2).1
      simp only [List.length_append, List.length_cons, List.length_nil] at hj2
      have hje : j - vs.length = 0 := by omega
      rw [List.getElem?_append_right (by omega), hje] at e2
      simp at e2
      subst e2
      rw [List.getElem?_append_left (by omega)] at e1
      have hil : i < L.length := by omega
      obtain ⟨v, f1, f2⟩ := h3 i _ (List.getElem?_eq_getElem hil)
      rw [e1] at f1
      injection f1 with f1
      subst f1
      intro e3
      have := (f2.lt k ek).2
      have := (hv.lt k e3).1
      omega
theorem FreshL.nil (B : Nat) (w : World) : FreshL B w none 0 0 [] := ⟨[], World.ownsRow_nil _ _ _ _, rfl, fun i x h => by simp at h, fun i j vi vj _ h => by simp at h⟩
set_option maxHeartbeats 4000000 in
theorem rtwin_any (F : Nat → Prop) (a : Option Addr) (n c : Nat) (L : List (List Int)) (w : World) (h : RdL F w a n c L) (hs : sizeN (lens L) ≤ 1048576) :
    Calls Try.prog 12 #[.slice a n c] w fun e w' => ∃ a' c', e = .returned (.slice a' n c') ∧ FreshL w.heap.size w' a' n c' L ∧ Below w.heap.size w w' := by
  have hl := h.len
  have hsm := h.small
  have hcnt := size_count L
  have HL := Lib.hid hl
  have H := Lib.hid h
  have HS : Hid (sizeN (lens L) ≤ 1048576) := hs
  have hn : n ≤ 1048576 := by omega
  clear h hl hs hcnt
  go_enter Try.func12, Try.ntmps12
  go_wp2_with fail
  go_loopw [3, 4] (fun v3 v4 wr => ∃ (k : Nat) (ra : Option Addr) (rc : Nat), v4 = .int .i64 k ∧ v3 = .slice ra k rc ∧ k ≤ n ∧ Hid (FreshL w.heap.size wr ra k rc (L.take k) ∧ Below w.heap.size w wr)) (fun _ v4 _ => n - (intOf v4).toNat)
  case atStart => exact ⟨0, none, 0, rfl, rfl, Nat.zero_le _, FreshL.nil _ _, Below.refl _ _⟩
  case round =>
    obtain ⟨k, ra, rc, rfl, rfl, hk, hst⟩ := hrel
    obtain ⟨hf, hb⟩ := hst.out
    clear hst
    by_cases hlt : k < n
    · obtain ⟨x, hx⟩ : ∃ x, L[k]? = some x := ⟨_, List.getElem?_eq_getElem (by have := HL.out; omega)⟩
      obtain ⟨b, off, xa, xc, rfl, hbl, _, hc, hrd, _⟩ := H.out.get hb hx
      have hbw : b < wr.heap.size := by have := hb.size; omega
      have hxl : x.length ≤ 1048576 := by
        have h1 := size_take hx
        have h2 := size_take_le L (k + 1)
        have := HS.out
        omega
      have hba : Below wr.heap.size wr (wr.alloc (.cells #[] 21)) := (Below.refl _ _).alloc (Nat.le_refl _) _
      have ho0 : (wr.alloc (.cells #[] 21)).ownsRow wr.heap.size 21 1 (.slice (some ⟨wr.heap.size, 0, none⟩) 0 0) 0 (ints []) := by
        have := own_of (B := wr.heap.size) (n := 0) (cap := 0) (size := 1) (heap_alloc_new wr (.cells #[] 21)) (Nat.le_refl _) (Nat.zero_le _) (by unfold maxLen; omega) rfl
        simpa [ints] using this
      obtain ⟨a2, c2, w2, hrun, ho2, hb2⟩ := app_rd (wr.alloc (.cells #[] 21)) wr.heap.size _ 0 [] xa x.length xc x ho0 (by simp) (hrd.below hba) (by omega)
      rw [Nat.zero_add] at hrun ho2
      rw [List.nil_append] at ho2
      obtain ⟨a3, c3, w3, hrun3, hf3, hb3⟩ := fresh_snoc wr w2 w.heap.size ra k rc (L.take k) hf (hba.trans hb2) hb.size a2 x.length c2 x rfl ho2 (by omega)
      have HRUN := Lib.hid hrun
      have HRUN3 := Lib.hid hrun3
      have HN : Hid (FreshL w.heap.size w3 a3 (k + 1) c3 (L.take (k + 1)) ∧ Below w.heap.size w w3) := by
        rw [take_snocI hx]
        exact ⟨hf3, hb.trans hb3⟩
      obtain ⟨y, hy⟩ : ∃ y, x.length = y := ⟨_, rfl⟩
      rw [hy] at hc HRUN HRUN3 hxl
      clear hx hrd hba ho0 hrun ho2 hb2 hrun3 hf3 hb3 hf hy
      go_wp2_with (at_builtin; go_must (first
        | (with_reducible refine Lib.wpList_append_run _ rfl (.tmp 12) (.tmp 16) _ _ rfl _ _ rfl rfl _ _ (HRUN.out _) ?_)
        | (with_reducible refine Lib.wpList_append_run _ rfl (.tmp 11) (.tmp 18) _ _ rfl _ _ rfl rfl _ _ (HRUN3.out _) ?_)))
      go_roundw
      case rel => exact ⟨k + 1, a3, c3, by go_num, rfl, by omega, HN⟩
      case measure => simp [intOf]; omega
    · obtain rfl : k = n := by omega
      have HF : Hid (FreshL w.heap.size wr ra k rc L ∧ Below w.heap.size w wr) := by
        rw [List.take_of_length_le (by have := HL.out; omega)] at hf
        exact ⟨hf, hb⟩
      clear hf hb
      go_wp2_with fail
      go_ret
      exact ⟨_, _, rfl, HF.out.1, HF.out.2⟩
/-- a row of runes of the caller's own, whatever lies in it; its block lies in [B, s) -/
def AnyRow (B s : Nat) (w : World) (v : Value) (m : Nat) : Prop := ∃ xs, w.ownsRow B 21 1 v m xs ∧ ∀ k, v.ownBlock = some k → k < s
theorem AnyRow.fr {F : Nat → Prop} {B s m : Nat} {w w' : World} {v : Value} (h : AnyRow B s w v m) (hf : Fr F w w') (hk : ∀ k, v.ownBlock = some k → ¬ F k) : AnyRow B s w' v m := by
  obtain ⟨xs, h, h2⟩ := h
  exact ⟨xs, own_fr h hf hk, h2⟩
theorem AnyRow.below {B s m : Nat} {w w' : World} {v : Value} (h : AnyRow B s w v m) (hb : Below w.heap.size w w') : AnyRow B s w' v m := h.fr (Fr.of_below (fun _ => False) hb) (fun _ _ h => h)
theorem AnyRow.set {B s m : Nat} {w : World} {v : Value} (h : AnyRow B s w v m) (g j : Nat) (u : Value) : AnyRow B s (w.setCell ⟨g, j, none⟩ u) v m := by
  obtain ⟨xs, ⟨h1, h2⟩, h3⟩ := h
  rcases h2 with ⟨rfl, rfl⟩ | ⟨g', cap, cur, rfl, hb, hg, hn, hc, hs, ht⟩
  · exact ⟨xs, ⟨h1, .inl ⟨rfl, rfl⟩⟩, h3⟩
  · by_cases e : g' = g
    · subst e
      refine ⟨(cur.setIfInBounds j u).toList.take (m * 1), ⟨?_, .inr ⟨g', cap, _, rfl, hb, heap_set hg j u, hn, hc, by simpa using hs, rfl⟩⟩, h3⟩
      rw [List.length_take, Array.length_toList, Array.size_setIfInBounds]; omega
    · exact ⟨xs, ⟨h1, .inr ⟨g', cap, cur, rfl, hb, (Below.heap_setCell _ _ _ _ (by simp only; omega)).trans hg, hn, hc, hs, ht⟩⟩, h3⟩
theorem AnyRow.get {B s m rc j : Nat} {w : World} {ra : Option Addr} (h : AnyRow B s w (.slice ra m rc) m) (hj : j < m) : ∃ g cur, ra = some ⟨g, 0, none⟩ ∧ B ≤ g ∧ g < s ∧ w.heap[g]? = some (.cells cur 21 (0, 0)) ∧ (∃ u, w.cell? ⟨g, j, none⟩ = some u) ∧ w.frozen? ⟨g, j, none⟩ = false ∧ g < w.heap.size := by
  obtain ⟨xs, ⟨h1, h2⟩, h3⟩ := h
  rcases h2 with ⟨e, rfl⟩ | ⟨g, cap, cur, e, hb, hg, hn, hc, hs, ht⟩
  · omega
  · injection e with e1 e2 e3
    subst e1
    exact ⟨g, cur, rfl, hb, h3 g rfl, hg, ⟨_, (cell_row hg j).trans (Array.getElem?_eq_getElem (by omega))⟩, frozen_row hg j, heap_lt hg⟩
/-- rows of the caller's own, whatever lies in them -/
def MineL (B s : Nat) (w : World) (a : Option Addr) (n c : Nat) (ls : List Nat) : Prop :=
  ∃ vs, w.ownsRow B 35 1 (.slice a n c) n vs ∧ vs.length = ls.length ∧ ∀ (i m : Nat), ls[i]? = some m → ∃ v, vs[i]? = some v ∧ AnyRow B s w v m
theorem FreshL.mine {B n c : Nat} {w : World} {a : Option Addr} {L : List (List Int)} (h : FreshL B w a n c L) : MineL B w.heap.size w a n c (lens L) := by
  obtain ⟨vs, h1, h2, h3, h4⟩ := h
  refine ⟨vs, h1, by rw [lens_len]; exact h2, fun i m hm => ?_⟩
  unfold lens at hm
  rw [List.getElem?_map] at hm
  cases hx : L[i]? with
  | none => rw [hx] at hm; cases hm
  | some x =>
    rw [hx] at hm
    cases hm
    obtain ⟨v, e1, e2⟩ := h3 i x hx
    exact ⟨v, e1, _, e2, fun k e => (e2.lt k e).2⟩
theorem MineL.len {B s n c : Nat} {w : World} {a : Option Addr} {ls : List Nat} (h : MineL B s w a n c ls) : ls.length = n := by
  obtain ⟨vs, h1, h2, _⟩ := h
  have := h1.1
  omega
theorem MineL.below {B s n c : Nat} {w w' : World} {a : Option Addr} {ls : List Nat} (h : MineL B s w a n c ls) (hb : Below w.heap.size w w') : MineL B s w' a n c ls := by
  obtain ⟨vs, h1, h2, h3⟩ := h
  exact ⟨vs, own_fr h1 (Fr.of_below (fun _ => False) hb) (fun _ _ h => h), h2, fun i m hm => by obtain ⟨v, e1, e2⟩ := h3 i m hm; exact ⟨v, e1, e2.below hb⟩⟩
theorem MineL.set {B s n c g : Nat} {w : World} {a : Option Addr} {ls : List Nat} {cur : Array Value} (h : MineL B s w a n c ls) (hg : w.heap[g]? = some (.cells cur 21 (0, 0))) (j : Nat) (u : Value) : MineL B s (w.setCell ⟨g, j, none⟩ u) a n c ls := by
  obtain ⟨vs, h1, h2, h3⟩ := h
  refine ⟨vs, own_fr h1 ((Fr.refl (fun k => k = g) _).setCell _ _ (fun _ => rfl)) (fun k e => row_block_apart h1 hg (by decide) e), h2, fun i m hm => ?_⟩
  obtain ⟨v, e1, e2⟩ := h3 i m hm
  exact ⟨v, e1, e2.set g j u⟩
theorem MineL.get {B s n c i m : Nat} {w : World} {a : Option Addr} {ls : List Nat} (h : MineL B s w a n c ls) (hm : ls[i]? = some m) : ∃ g ra rc, a = some ⟨g, 0, none⟩ ∧ g < w.heap.size ∧ B ≤ g ∧ w.cell? ⟨g, i, none⟩ = some (.slice ra m rc) ∧ AnyRow B s w (.slice ra m rc) m := by
  obtain ⟨vs, h1, h2, h3⟩ := h
  obtain ⟨v, e1, e2⟩ := h3 i m hm
  have hi : i < vs.length := (List.getElem?_eq_some_iff.1 e1).1
  obtain ⟨ra, rc, rfl⟩ : ∃ ra rc, v = .slice ra m rc := by obtain ⟨_, e2, _⟩ := e2; exact own_slice e2
  rcases h1.2 with ⟨e, e0⟩ | ⟨g, cap, cur, e, hb, hg, hn, hc, hs, ht⟩
  · have := h1.1; omega
  · injection e with e3 e4 e5
    subst e3
    refine ⟨g, ra, rc, rfl, heap_lt hg, hb, ?_, e2⟩
    rw [cell_row hg, ← e1, ← ht, List.getElem?_take, if_pos (by have := h1.1; omega)]
    simp
theorem sizeN_mem {l : List Nat} {m : Nat} (h : m ∈ l) : m ≤ sizeN l := by
  induction l with
  | nil => cases h
  | cons a r ih =>
    rw [sizeN_cons]
    rcases List.mem_cons.1 h with rfl | h
    · omega
    · have := ih h; omega
/-- one rune behind the last line -/
theorem fresh_last (w : World) (B k c : Nat) (a : Option Addr) (D : List (List Int)) (y : List Int) (z : Int) (h : FreshL B w a (k + 1) c (D ++ [y])) (hB : B ≤ w.heap.size) (hy : y.length ≤ 1048576) :
    ∃ g ra rc a' c' w3, a = some ⟨g, 0, none⟩ ∧ g < w.heap.size ∧ w.cell? ⟨g, k, none⟩ = some (.slice ra y.length rc) ∧
      (∀ ty, (Builtin.append_ #[35, 35] ty #[.slice ra y.length rc, .slice (some ⟨w.heap.size, 0, none⟩) 1 1]).run Try.prog (w.alloc (.cells #[.int .i32 z] 21)) = .ok (.slice a' (y.length + 1) c') w3) ∧
      (∃ u, w3.cell? ⟨g, k, none⟩ = some u) ∧ w3.frozen? ⟨g, k, none⟩ = false ∧ g < w3.heap.size ∧
      FreshL B (w3.setCell ⟨g, k, none⟩ (.slice a' (y.length + 1) c')) a (k + 1) c (D ++ [y ++ [z]]) ∧ Below B w (w3.setCell ⟨g, k, none⟩ (.slice a' (y.length + 1) c')) := by
  have hDl : D.length = k := by have := h.len; simp at this; omega
  obtain ⟨vs, h1, h2, h3, h4⟩ := h
  obtain ⟨i0, hi0, hz0, hz1, hz2⟩ := info_parts infoI
  have hyk : (D ++ [y])[k]? = some y := by rw [List.getElem?_append_right (by omega), hDl]; simp
  obtain ⟨v, e1, e2⟩ := h3 k y hyk
  obtain ⟨ra, rc, rfl⟩ := own_slice e2
  obtain ⟨w2, hw2⟩ : ∃ w2, w.alloc (.cells #[.int .i32 z] 21) = w2 := ⟨_, rfl⟩
  have hb2 : Below w.heap.size w w2 := by rw [← hw2]; exact (Below.refl _ _).alloc (Nat.le_refl _) _
  have hg2 : w2.heap[w.heap.size]? = some (.cells #[.int .i32 z] 21 (0, 0)) := by rw [← hw2]; exact heap_alloc_new w _
  have hsz2 : w2.heap.size = w.heap.size + 1 := by rw [← hw2]; simp
  have f02 : Fr (fun _ => False) w w2 := Fr.of_below (fun _ => False) hb2
  have e22 := own_fr e2 f02 (fun _ _ h => h)
  have h12 := own_fr h1 f02 (fun _ _ h => h)
  obtain ⟨v', w3, hrun, hown, hfr, hnear⟩ := run_append_own_k (P := Try.prog) w2 B 35 21 i0 _ 1 4 Try.underlying35 hi0 hz0 hz1 hz2 rfl (by decide) (.slice ra y.length rc) y.length (ints y) e22 (some ⟨w.heap.size, 0, none⟩) 1 1 [.int .i32 z] rfl
    (fun _ => ⟨_, rfl, fun j u hu => by rw [add_lit, cell_row hg2, Nat.zero_add]; simpa using hu⟩) (by intro u hu; simp only [List.mem_singleton] at hu; subst hu; rfl) (by unfold maxLen; omega) (by omega) (by omega)
  obtain ⟨a', c', rfl⟩ := own_slice hown
  have h13 := own_fr h12 hfr (fun k e hk => rows_apart h12 e22 (by decide) e hk)
  rcases h1.2 with ⟨_, e0⟩ | ⟨g, cap, cur, ev, hgB, hgw, hnc, hcm, hcs, htk⟩
  · omega
  injection ev with ev1 ev2 ev3
  subst ev1 ev3
  rcases h13.2 with ⟨_, e0⟩ | ⟨g', cap', cur', ev', hgB', hgw3, hnc', hcm', hcs', htk'⟩
  · omega
  injection ev' with ev1 ev2 ev3
  injection ev1 with ev1
  injection ev1 with ev1
  subst ev1 ev3
  have hvl : vs.length = k + 1 := by rw [h2]; simp [hDl]
  have hcell : w.cell? ⟨g, k, none⟩ = some (.slice ra y.length rc) := by
    rw [cell_row hgw, ← e1, ← htk, List.getElem?_take, if_pos (by omega)]
    simp
  refine ⟨g, ra, rc, a', c', w3, rfl, heap_lt hgw, hcell, by rw [hw2]; exact hrun, ⟨_, (cell_row hgw3 k).trans (Array.getElem?_eq_getElem (by omega))⟩, frozen_row hgw3 k, heap_lt hgw3, ?_, ?_⟩
  · have fset : Fr (fun x => x = g) w3 (w3.setCell ⟨g, k, none⟩ (.slice a' (y.length + 1) c')) := (Fr.refl _ _).setCell _ _ (fun _ => rfl)
    have far : ∀ {B' n' : Nat} {u : Value} {xs : List Value}, w3.ownsRow B' 21 1 u n' xs → (w3.setCell ⟨g, k, none⟩ (.slice a' (y.length + 1) c')).ownsRow B' 21 1 u n' xs := fun ho => own_fr ho fset (fun b e => row_block_apart ho hgw3 (by decide) e)
    refine ⟨vs.set k (.slice a' (y.length + 1) c'), ⟨by simp; omega, .inr ⟨g, c, _, rfl, hgB, heap_set hgw3 k _, hnc, hcm, by simpa using hcs', ?_⟩⟩, by simp [h2], ?_, ?_⟩
    · rw [Array.toList_setIfInBounds, List.take_set, htk']
    · intro i x hx
      by_cases hi : i < D.length
      · rw [List.getElem?_append_left hi] at hx
        have hx2 : (D ++ [y])[i]? = some x := by rw [List.getElem?_append_left hi]; exact hx
        obtain ⟨u, f1, f2⟩ := h3 i x hx2
        refine ⟨u, by rw [List.getElem?_set_ne (by omega)]; exact f1, far (own_fr (own_fr f2 f02 (fun _ _ h => h)) hfr (fun b e hb => ?_))⟩
        exact h4 i k _ _ (by omega) f1 e1 b e hb.symm
      · have hie : i = k := by
          have := (List.getElem?_eq_some_iff.1 hx).1
          simp at this; omega
        subst hie
        rw [List.getElem?_append_right (by omega), hDl] at hx
        simp at hx
        subst hx
        refine ⟨_, by rw [List.getElem?_set_self (by omega)], far ?_⟩
        have : (y ++ [z]).length = y.length + 1 := by simp
        rw [this]
        simpa [ints] using hown
    · intro i j vi vj hij f1 f2 b eb
      have hj := (List.getElem?_eq_some_iff.1 f2).1
      rw [List.length_set] at hj
      rw [List.getElem?_set_ne (by omega)] at f1
      by_cases hjk : j = k
      · subst hjk
        rw [List.getElem?_set_self (by omega)] at f2
        cases f2
        have hi : i < D.length := by omega
        rcases hnear with e | e
        · rw [e]; exact h4 i j _ _ hij f1 e1 b eb
        · rw [e]
          intro e3
          injection e3 with e3
          obtain ⟨u, f3, f4⟩ := h3 i _ (List.getElem?_eq_getElem (l := D ++ [y]) (i := i) (by simp; omega))
          rw [f1] at f3
          cases f3
          have := (f4.lt b eb).2
          omega
      · rw [List.getElem?_set_ne (by omega)] at f2
        exact h4 i j vi vj hij f1 f2 b eb
  · exact ((hb2.mono hB).trans (hfr.below (by omega) (fun x e => (e22.lt x e.symm).1))).setCell hgB _
theorem fresh_one (w : World) : FreshL w.heap.size (w.alloc (.cells #[.slice none 0 0] 35)) (some ⟨w.heap.size, 0, none⟩) 1 1 [[]] := by
  have ho := own_of (B := w.heap.size) (n := 1) (cap := 1) (size := 1) (heap_alloc_new w (.cells #[.slice none 0 0] 35)) (Nat.le_refl _) (Nat.le_refl _) (by unfold maxLen; omega) rfl
  refine ⟨_, ho, rfl, fun i x hx => ?_, fun i j vi vj hij e1 e2 b eb => ?_⟩
  · cases i with
    | zero => simp at hx; subst hx; exact ⟨_, rfl, World.ownsRow_nil _ _ _ _⟩
    | succ i => simp at hx
  · have := (List.getElem?_eq_some_iff.1 e2).1
    simp at this
    omega
set_option maxHeartbeats 4000000 in
theorem rsplit_any (a : Option Addr) (n c : Nat) (xs : List Int) (w : World) (h : Rd .i32 w a n c xs) (hn : n ≤ 1048576) :
    Calls Try.prog 92 #[.slice a n c] w fun e w' => ∃ a' c', e = .returned (.slice a' (splitL xs).length c') ∧ FreshL w.heap.size w' a' (splitL xs).length c' (splitL xs) ∧ Below w.heap.size w w' := by
  have hxl := h.1
  have HX := Lib.hid h
  have HXL := Lib.hid hxl
  obtain ⟨B, hB⟩ : ∃ B, w.heap.size = B := ⟨_, rfl⟩
  obtain ⟨w1, hw1⟩ : ∃ w1, w.alloc (.cells #[.slice none 0 0] 35) = w1 := ⟨_, rfl⟩
  have HST : Hid (FreshL B w1 (some ⟨B, 0, none⟩) 1 1 (splitL (xs.take 0)) ∧ Below B w w1) := by
    have h1 := fresh_one w
    have h2 : Below w.heap.size w (w.alloc (.cells #[.slice none 0 0] 35)) := (Below.refl _ _).alloc (Nat.le_refl _) _
    rw [hw1, hB] at h1 h2
    rw [List.take_zero]
    exact ⟨h1, h2⟩
  have HBE := Lib.hid hB
  have HW1 := Lib.hid hw1
  clear h hxl hw1
  rw [hB]
  clear hB
  go_enter Try.func92, Try.ntmps92
  go_upto_region 2 with fail
  (try rw [HBE.out])
  rw [HW1.out]
  go_wp2_with fail
  go_loopw [3, 4] (fun v3 v4 wr => ∃ (i k : Nat) (ra : Option Addr) (rc : Nat), v4 = .int .i64 i ∧ v3 = .slice ra k rc ∧ i ≤ n ∧ Hid (k = (splitL (xs.take i)).length ∧ FreshL B wr ra k rc (splitL (xs.take i)) ∧ Below B w wr)) (fun _ v4 _ => n - (intOf v4).toNat)
  case atStart => exact ⟨0, 1, _, _, rfl, rfl, Nat.zero_le _, by simp [splitL], HST.out.1, HST.out.2⟩
  case round =>
    obtain ⟨i, k, ra, rc, rfl, rfl, hi, hst⟩ := hrel
    clear HST
    by_cases hlt : i < n
    · obtain ⟨hk, hf, hb⟩ := hst.out
      obtain ⟨z, hz⟩ : ∃ z, xs[i]? = some z := ⟨_, List.getElem?_eq_getElem (by have := HXL.out; omega)⟩
      have hts : xs.take (i + 1) = xs.take i ++ [z] := by
        obtain ⟨hl, e⟩ := List.getElem?_eq_some_iff.1 hz
        rw [List.take_succ_eq_append_getElem hl, e]
      have hkb : k ≤ 1048577 := by
        have := split_count (xs.take i)
        rw [List.length_take] at this
        omega
      have hBw : B ≤ wr.heap.size := by have := hb.size; have := HBE.out; omega
      have hbw : Below w.heap.size w wr := by rw [HBE.out]; exact hb
      obtain ⟨xb, xo, rfl, hxc⟩ := (HX.out.below hbw).2.2.2.2.2 (by omega)
      have hx1 := hxc i hlt
      rw [List.getD_eq_getElem?_getD, hz, Option.getD_some] at hx1
      have hxl := block_lt_of_cell hx1
      by_cases hz10 : z = 10
      · subst hz10
        obtain ⟨a3, c3, w3, hrun3, hf3, hb3⟩ := fresh_snoc wr wr B ra k rc _ hf (Below.refl _ _) hBw none 0 0 [] rfl (World.ownsRow_nil _ _ _ _) (by omega)
        have HRUN := Lib.hid hrun3
        have HN : Hid (k + 1 = (splitL (xs.take (i + 1))).length ∧ FreshL B w3 a3 (k + 1) c3 (splitL (xs.take (i + 1))) ∧ Below B w w3) := by
          rw [hts, split_snoc10, List.length_append, ← hk]
          exact ⟨rfl, hf3, hb.trans hb3⟩
        clear hst hk hf hb hz hts hbw hxc hrun3 hf3 hb3
        go_wp2_with (at_builtin; go_must (with_reducible refine Lib.wpList_append_run _ rfl (.tmp 17) (.tmp 18) _ _ rfl _ _ rfl rfl _ _ (HRUN.out _) ?_))
        go_roundw
        case rel => exact ⟨i + 1, k + 1, a3, c3, by go_num, rfl, by omega, HN⟩
        case measure => simp [intOf]; omega
      · have hne := splitL_ne (xs.take i)
        obtain ⟨D, hD⟩ : ∃ D, (splitL (xs.take i)).dropLast = D := ⟨_, rfl⟩
        obtain ⟨y, hy⟩ : ∃ y, (splitL (xs.take i)).getLast hne = y := ⟨_, rfl⟩
        have hDy : splitL (xs.take i) = D ++ [y] := by rw [← hD, ← hy]; exact (List.dropLast_concat_getLast hne).symm
        have hnx : splitL (xs.take (i + 1)) = D ++ [y ++ [z]] := by rw [hts, split_snoc _ hz10, hD, hy]
        obtain ⟨kk, hkk⟩ : ∃ kk, k = kk + 1 := ⟨k - 1, by rw [hDy] at hk; simp at hk; omega⟩
        have hyl : y.length ≤ 1048576 := by
          have h1 : y.length ∈ lens (splitL (xs.take i)) := by rw [hDy]; simp [lens]
          have h2 := sizeN_mem h1
          rw [split_sum, List.length_take] at h2
          have h3 : y.length + 1 ≤ (xs.take i).length + 1 := by
            have h4 := split_sum (xs.take i)
            rw [hDy, lens_append, sizeN_append] at h4
            simp only [lens, List.map_cons, List.map_nil, sizeN_cons, sizeN_nil] at h4
            omega
          rw [List.length_take] at h3
          omega
        have hf2 : FreshL B wr.drew ra (kk + 1) rc (D ++ [y]) := by
          rw [hDy, hkk] at hf
          exact hf.below (Below.refl _ _).drew
        obtain ⟨g, ya, yc, a3, c3, w3, hra, hgl, hgc, hrun, hu, hfz, hgl3, hf3, hb3⟩ := fresh_last wr.drew B kk rc ra D y z hf2 hBw hyl
        obtain ⟨m, hm⟩ : ∃ m, y.length = m := ⟨_, rfl⟩
        rw [hm] at hgc hrun hf3 hb3
        obtain ⟨u, hu⟩ := hu
        subst hra
        have HRUN := Lib.hid hrun
        have HN : Hid (k = (splitL (xs.take (i + 1))).length ∧ FreshL B (w3.setCell ⟨g, kk, none⟩ (.slice a3 (m + 1) c3)) (some ⟨g, 0, none⟩) k rc (splitL (xs.take (i + 1))) ∧ Below B w (w3.setCell ⟨g, kk, none⟩ (.slice a3 (m + 1) c3))) := by
          refine ⟨?_, ?_, (hb.drew).trans hb3⟩
          · rw [hnx, hk, hDy]; simp
          · rw [hnx, hkk]; exact hf3
        have hgc0 : wr.cell? ⟨g, kk, none⟩ = some (.slice ya m yc) := hgc
        have hgl0 : g < wr.heap.size := hgl
        have hx2 : wr.drew.cell? ⟨xb, xo + i, none⟩ = some (.int .i32 z) := hx1
        have hxl2 : xb < wr.drew.heap.size := hxl
        have hk2 : kk < k := by omega
        have y1 : IntKind.i64.wrap ((k : Int) - 1) = (kk : Int) := by rw [IntKind.wrap_i64]; omega
        have y2 : (z == 10) = false := by simpa using hz10
        clear hst hk hf hb hz hts hbw hxc hrun hf3 hb3 hD hy hDy hnx hf2 hm hyl hkk
        go_wp2_with fail
        go_region_law (refine step_append_run rfl (.tmp 29) (.tmp 34) _ _ rfl _ _ (by simp [Act.eval, Act.put]) (by simp [Act.eval, Act.put]) (HRUN.out _) ?_)
        all_goals
          go_wp2_with fail
          go_roundw
          case rel => exact ⟨i + 1, k, _, rc, by go_num, rfl, by omega, HN⟩
          case measure => first | (simp [intOf]; done) | (simp [intOf]; omega)
    · obtain rfl : i = n := by omega
      have HF : Hid (k = (splitL xs).length ∧ FreshL B wr ra k rc (splitL xs) ∧ Below B w wr) := by
        have := hst.out
        rw [List.take_of_length_le (by have := HXL.out; omega)] at this
        exact this
      obtain ⟨hk, _⟩ := HF.out
      subst hk
      clear hst
      go_wp2_with fail
      go_ret
      exact ⟨_, _, rfl, HF.out.2⟩
theorem sizeN_drop_le2 (a : List Nat) (i : Nat) : sizeN (a.drop i) ≤ sizeN a := by
  have h : sizeN (a.take i) + sizeN (a.drop i) = sizeN a := by rw [← sizeN_append, List.take_append_drop]
  omega
/-- rows of the caller's own, in a row of its own -/
def MyL (B : Nat) (w : World) (a : Option Addr) (n c : Nat) (L : List (List Int)) : Prop :=
  ∃ vs, w.ownsRow B 35 1 (.slice a n c) n vs ∧ vs.length = L.length ∧ ∀ (i : Nat) (x : List Int), L[i]? = some x → ∃ v, vs[i]? = some v ∧ w.ownsRow B 21 1 v x.length (ints x)
theorem FreshL.my {B B' n c : Nat} {w : World} {a : Option Addr} {L : List (List Int)} (h : FreshL B w a n c L) (hB : B' ≤ B) : MyL B' w a n c L := by
  obtain ⟨vs, h1, h2, h3, _⟩ := h
  exact ⟨vs, own_mono h1 hB, h2, fun i x hx => by obtain ⟨v, e1, e2⟩ := h3 i x hx; exact ⟨v, e1, own_mono e2 hB⟩⟩
theorem MyL.nil (B : Nat) (w : World) : MyL B w none 0 0 [] := ⟨[], World.ownsRow_nil _ _ _ _, rfl, fun i x h => by simp at h⟩
theorem MyL.below {B n c : Nat} {w w' : World} {a : Option Addr} {L : List (List Int)} (h : MyL B w a n c L) (hb : Below w.heap.size w w') : MyL B w' a n c L := by
  obtain ⟨vs, h1, h2, h3⟩ := h
  exact ⟨vs, own_fr h1 (Fr.of_below (fun _ => False) hb) (fun _ _ h => h), h2, fun i x hx => by obtain ⟨v, e1, e2⟩ := h3 i x hx; exact ⟨v, e1, own_fr e2 (Fr.of_below (fun _ => False) hb) (fun _ _ h => h)⟩⟩
theorem MyL.len {B n c : Nat} {w : World} {a : Option Addr} {L : List (List Int)} (h : MyL B w a n c L) : L.length = n := by
  obtain ⟨vs, h1, h2, _⟩ := h
  have := h1.1
  omega
theorem MyL.rdl {B n c : Nat} {w : World} {a : Option Addr} {L : List (List Int)} (h : MyL B w a n c L) (hw : ∀ x ∈ L, ∀ y ∈ x, (Lit.int .i32 y).wf = true) : RdL (fun k => B ≤ k) w a n c L := by
  obtain ⟨vs, h1, h2, h3⟩ := h
  refine ⟨vs, Rc.own h1, InF.own h1 (fun k e => (h1.lt k e).1), h2, fun i x hx => ?_⟩
  obtain ⟨v, e1, e2⟩ := h3 i x hx
  obtain ⟨ra, rc, rfl⟩ := own_slice e2
  exact ⟨ra, rc, e1, own_rd e2 (hw x (List.mem_of_getElem? hx)), InF.own e2 (fun k e => (e2.lt k e).1)⟩
/-- rows behind rows -/
theorem my_app (w : World) (B : Nat) (a : Option Addr) (n c : Nat) (L : List (List Int)) (b : Option Addr) (m d : Nat) (M : List (List Int)) (h : MyL B w a n c L) (k : MyL B w b m d M) (hB : B ≤ w.heap.size) (hn : n + m ≤ 1099511627776) :
    ∃ a' c' w', (∀ ty, (Builtin.append_ #[22, 22] ty #[.slice a n c, .slice b m d]).run Try.prog w = .ok (.slice a' (n + m) c') w') ∧ MyL B w' a' (n + m) c' (L ++ M) ∧ Below B w w' := by
  obtain ⟨vs, h1, h2, h3⟩ := h
  obtain ⟨us, k1, k2, k3⟩ := k
  obtain ⟨i0, hi0, hz0, hz1, hz2⟩ := info_parts infoS
  have hul : us.length = m * 1 := k1.1
  obtain ⟨v', w', hrun, hown, hfr, hnear⟩ := run_append_own_k (P := Try.prog) w B 22 35 i0 _ 1 24 Try.underlying22 hi0 hz0 hz1 hz2 rfl (by decide) (.slice a n c) n vs h1 b m d us hul
    (fun hp => (Rc.own k1).src hp) (fun u hu => by
      obtain ⟨i, hi, e⟩ := List.getElem_of_mem hu
      have hiM : i < M.length := by omega
      obtain ⟨v, e1, e2⟩ := k3 i _ (List.getElem?_eq_getElem hiM)
      rw [List.getElem?_eq_getElem hi, e] at e1
      cases e1
      obtain ⟨_, _, rfl⟩ := own_slice e2
      rfl) (by unfold maxLen; omega) (by omega) hB
  obtain ⟨a', c', rfl⟩ := own_slice hown
  have far : ∀ {u : Value} {q : Nat} {xs : List Value}, w.ownsRow B 21 1 u q xs → w'.ownsRow B 21 1 u q xs := fun ho => own_fr ho hfr (fun x e hx => rows_apart ho h1 (by decide) e hx)
  refine ⟨a', c', w', hrun, ⟨vs ++ us, hown, by simp [h2, k2], fun i x hx => ?_⟩, hfr.below hB (fun x e => (h1.lt x e.symm).1)⟩
  by_cases hi : i < L.length
  · rw [List.getElem?_append_left hi] at hx
    obtain ⟨v, e1, e2⟩ := h3 i x hx
    exact ⟨v, by rw [List.getElem?_append_left (by omega)]; exact e1, far e2⟩
  · rw [List.getElem?_append_right (by omega)] at hx
    obtain ⟨v, e1, e2⟩ := k3 _ x hx
    exact ⟨v, by rw [List.getElem?_append_right (by omega), h2]; exact e1, far e2⟩
/-- rows of the caller's own from the i0-th on, whatever lies in them, no two of them in one block -/
def MineG (B s : Nat) (w : World) (a : Option Addr) (n c : Nat) (ls : List Nat) (i0 : Nat) : Prop :=
  ∃ vs, w.ownsRow B 35 1 (.slice a n c) n vs ∧ vs.length = ls.length ∧ (∀ (i m : Nat), i0 ≤ i → ls[i]? = some m → ∃ v, vs[i]? = some v ∧ AnyRow B s w v m) ∧
    (∀ (i j : Nat) (vi vj : Value), i0 ≤ i → i < j → vs[i]? = some vi → vs[j]? = some vj → ∀ k, vi.ownBlock = some k → vj.ownBlock ≠ some k)
theorem FreshL.mineG {B n c : Nat} {w : World} {a : Option Addr} {L : List (List Int)} (h : FreshL B w a n c L) : MineG B w.heap.size w a n c (lens L) 0 := by
  have h' := h
  obtain ⟨vs, h1, h2, h3, h4⟩ := h'
  refine ⟨vs, h1, by rw [lens_len]; exact h2, fun i m _ hm => ?_, fun i j vi vj _ => h4 i j vi vj⟩
  unfold lens at hm
  rw [List.getElem?_map] at hm
  cases hx : L[i]? with
  | none => rw [hx] at hm; cases hm
  | some x =>
    rw [hx] at hm
    cases hm
    obtain ⟨v, e1, e2⟩ := h3 i x hx
    exact ⟨v, e1, _, e2, fun k e => (e2.lt k e).2⟩
section
variable {B s n c i0 : Nat} {w w' : World} {a : Option Addr} {ls : List Nat}
theorem MineG.below (h : MineG B s w a n c ls i0) (hb : Below w.heap.size w w') : MineG B s w' a n c ls i0 := by
  obtain ⟨vs, h1, h2, h3, h4⟩ := h
  exact ⟨vs, own_fr h1 (Fr.of_below (fun _ => False) hb) (fun _ _ h => h), h2, fun i m hi hm => by obtain ⟨v, e1, e2⟩ := h3 i m hi hm; exact ⟨v, e1, e2.below hb⟩, h4⟩
end
section
variable {B s n c i0 : Nat} {w w' : World} {a : Option Addr} {ls : List Nat}
theorem MineG.set {g : Nat} {cur : Array Value} (h : MineG B s w a n c ls i0) (hg : w.heap[g]? = some (.cells cur 21 (0, 0))) (j : Nat) (u : Value) : MineG B s (w.setCell ⟨g, j, none⟩ u) a n c ls i0 := by
  obtain ⟨vs, h1, h2, h3, h4⟩ := h
  refine ⟨vs, own_fr h1 ((Fr.refl (fun k => k = g) _).setCell _ _ (fun _ => rfl)) (fun k e => row_block_apart h1 hg (by decide) e), h2, fun i m hi hm => ?_, h4⟩
  obtain ⟨v, e1, e2⟩ := h3 i m hi hm
  exact ⟨v, e1, e2.set g j u⟩
end
section
variable {B s n c i0 : Nat} {w w' : World} {a : Option Addr} {ls : List Nat}
theorem MineG.get {i m : Nat} (h : MineG B s w a n c ls i0) (hi0 : i0 ≤ i) (hm : ls[i]? = some m) : ∃ g ra rc, a = some ⟨g, 0, none⟩ ∧ g < w.heap.size ∧ B ≤ g ∧ w.cell? ⟨g, i, none⟩ = some (.slice ra m rc) ∧ AnyRow B s w (.slice ra m rc) m := by
  obtain ⟨vs, h1, h2, h3, _⟩ := h
  obtain ⟨v, e1, e2⟩ := h3 i m hi0 hm
  have hi : i < vs.length := (List.getElem?_eq_some_iff.1 e1).1
  obtain ⟨ra, rc, rfl⟩ : ∃ ra rc, v = .slice ra m rc := by obtain ⟨_, e2, _⟩ := e2; exact own_slice e2
  rcases h1.2 with ⟨e, e0⟩ | ⟨g, cap, cur, e, hb, hg, hn, hc, hs, ht⟩
  · have := h1.1; omega
  · injection e with e3 e4 e5
    subst e3
    refine ⟨g, ra, rc, rfl, heap_lt hg, hb, ?_, e2⟩
    rw [cell_row hg, ← e1, ← ht, List.getElem?_take, if_pos (by have := h1.1; omega)]
    simp
end
section
variable {B s n c i0 : Nat} {w w' : World} {a : Option Addr} {ls : List Nat}
/-- one rune more behind the i-th row -/
theorem MineG.app {i m : Nat} (h : MineG B s w a n c ls i) (hm : ls[i]? = some m) (hB : B ≤ w.heap.size) (hs : s ≤ w.heap.size) (hmb : m ≤ 1048576) (z : Int) :
    ∃ g ra rc a' c' w3, a = some ⟨g, 0, none⟩ ∧ g < w.heap.size ∧ w.cell? ⟨g, i, none⟩ = some (.slice ra m rc) ∧
      (∀ ty, (Builtin.append_ #[35, 35] ty #[.slice ra m rc, .slice (some ⟨w.heap.size, 0, none⟩) 1 1]).run Try.prog (w.alloc (.cells #[.int .i32 z] 21)) = .ok (.slice a' (m + 1) c') w3) ∧
      (∃ u, w3.cell? ⟨g, i, none⟩ = some u) ∧ w3.frozen? ⟨g, i, none⟩ = false ∧ g < w3.heap.size ∧
      MineG B s (w3.setCell ⟨g, i, none⟩ (.slice a' (m + 1) c')) a n c ls (i + 1) ∧ Below B w (w3.setCell ⟨g, i, none⟩ (.slice a' (m + 1) c')) := by
  obtain ⟨g, ra, rc, rfl, hgl, hgB, hcell, _⟩ := h.get (Nat.le_refl _) hm
  obtain ⟨vs, h1, h2, h3, h4⟩ := h
  obtain ⟨i0, hi0, hz0, hz1, hz2⟩ := info_parts infoI
  obtain ⟨v, e1, xs, e2, _⟩ := h3 i m (Nat.le_refl _) hm
  have hil : i < vs.length := (List.getElem?_eq_some_iff.1 e1).1
  rcases h1.2 with ⟨ev, e0⟩ | ⟨g', cap, cur, ev, hgB', hgw, hnc, hcm, hcs, htk⟩
  · injection ev with ev1; cases ev1
  injection ev with ev1 ev2 ev3
  injection ev1 with ev1
  injection ev1 with ev1
  subst ev1 ev3
  have hv : v = .slice ra m rc := by
    have h9 : w.cell? ⟨g, i, none⟩ = some v := by
      rw [cell_row hgw, ← e1, ← htk, List.getElem?_take, if_pos (by have := h1.1; omega)]
      simp
    rw [hcell] at h9
    cases h9
    rfl
  subst hv
  obtain ⟨w2, hw2⟩ : ∃ w2, w.alloc (.cells #[.int .i32 z] 21) = w2 := ⟨_, rfl⟩
  have hb2 : Below w.heap.size w w2 := by rw [← hw2]; exact (Below.refl _ _).alloc (Nat.le_refl _) _
  have hg2 : w2.heap[w.heap.size]? = some (.cells #[.int .i32 z] 21 (0, 0)) := by rw [← hw2]; exact heap_alloc_new w _
  have hsz2 : w2.heap.size = w.heap.size + 1 := by rw [← hw2]; simp
  have f02 : Fr (fun _ => False) w w2 := Fr.of_below (fun _ => False) hb2
  have e22 := own_fr e2 f02 (fun _ _ h => h)
  have h12 := own_fr h1 f02 (fun _ _ h => h)
  obtain ⟨v', w3, hrun, hown, hfr, hnear⟩ := run_append_own_k (P := Try.prog) w2 B 35 21 i0 _ 1 4 Try.underlying35 hi0 hz0 hz1 hz2 rfl (by decide) (.slice ra m rc) m xs e22 (some ⟨w.heap.size, 0, none⟩) 1 1 [.int .i32 z] rfl
    (fun _ => ⟨_, rfl, fun j u hu => by rw [add_lit, cell_row hg2, Nat.zero_add]; simpa using hu⟩) (by intro u hu; simp only [List.mem_singleton] at hu; subst hu; rfl) (by unfold maxLen; omega) (by omega) (by omega)
  obtain ⟨a', c', rfl⟩ := own_slice hown
  have h13 := own_fr h12 hfr (fun k e hk => rows_apart h12 e22 (by decide) e hk)
  rcases h13.2 with ⟨ev', e0⟩ | ⟨g', cap', cur', ev', hgB', hgw3, hnc', hcm', hcs', htk'⟩
  · injection ev' with ev1; cases ev1
  injection ev' with ev1 ev2 ev3
  injection ev1 with ev1
  injection ev1 with ev1
  subst ev1 ev3
  have hvl : vs.length = n := by have := h1.1; omega
  refine ⟨g, ra, rc, a', c', w3, rfl, hgl, hcell, by rw [hw2]; exact hrun, ⟨_, (cell_row hgw3 i).trans (Array.getElem?_eq_getElem (by omega))⟩, frozen_row hgw3 i, heap_lt hgw3, ?_, ?_⟩
  · have fset : Fr (fun x => x = g) w3 (w3.setCell ⟨g, i, none⟩ (.slice a' (m + 1) c')) := (Fr.refl _ _).setCell _ _ (fun _ => rfl)
    refine ⟨vs.set i (.slice a' (m + 1) c'), ⟨by simp; omega, .inr ⟨g, c, _, rfl, hgB, heap_set hgw3 i _, hnc, hcm, by simpa using hcs', ?_⟩⟩, by simp [h2], ?_, ?_⟩
    · rw [Array.toList_setIfInBounds, List.take_set, htk']
    · intro j q hj hq
      obtain ⟨u, f1, ys, f2, f3⟩ := h3 j q (by omega) hq
      refine ⟨u, by rw [List.getElem?_set_ne (by omega)]; exact f1, ys, ?_, f3⟩
      have f4 := own_fr (own_fr f2 f02 (fun _ _ h => h)) hfr (fun b e hb => h4 i j _ _ (Nat.le_refl _) (by omega) e1 f1 b hb.symm e)
      exact own_fr f4 fset (fun b e => row_block_apart f4 hgw3 (by decide) e)
    · intro j j' vj vj' hj hjj f1 f2
      rw [List.getElem?_set_ne (by omega)] at f1 f2
      exact h4 j j' vj vj' (by omega) hjj f1 f2
  · exact ((hb2.mono hB).trans (hfr.below (by omega) (fun x e => (e22.lt x e.symm).1))).setCell hgB _
end
section
open Go.RowKit Go.ChangeShapes Go.WideShapes Go.Deep
/-- each line is within the reach -/
def WideL (L : List (List Int)) : Prop := ∀ x ∈ L, x.length ≤ 35184372088832
end
section
open Go.RowKit Go.ChangeShapes Go.WideShapes Go.Deep
theorem WideL.size {L : List (List Int)} (h : WideL L) (hn : L.length ≤ 300) : sizeN (lens L) ≤ 4611686018427387904 := by
  have h1 : ∀ (M : List (List Int)), (∀ x ∈ M, x.length ≤ 35184372088832) → sizeN (lens M) ≤ M.length * 35184372088833 := by
    intro M hM
    induction M with
    | nil => simp [lens, sizeN_nil]
    | cons a r ih =>
      have h2 := ih (fun x hx => hM x (by simp [hx]))
      have h3 := hM a (by simp)
      simp only [lens, List.map_cons, sizeN_cons, List.length_cons] at h2 ⊢
      rw [Nat.succ_mul]
      omega
  have := h1 L h
  have h4 : L.length * 35184372088833 ≤ 300 * 35184372088833 := Nat.mul_le_mul_right _ hn
  omega
end
section
open Go.RowKit Go.ChangeShapes Go.WideShapes Go.Deep
theorem smallL_wide {L : List (List Int)} (h : smallL L = true) : sizeN (lens L) ≤ 262144 := by
  unfold smallL at h
  rw [Bool.and_eq_true, decide_eq_true_eq, decide_eq_true_eq] at h
  by_cases hne : L = []
  · subst hne; simp [lens, sizeN_nil]
  · have := joinL_len hne
    omega
end
section
open Go.RowKit Go.ChangeShapes Go.WideShapes Go.Deep
theorem small_wide (F : Nat → Prop) (a : Option Addr) (n c : Nat) (L : List (List Int)) (w : World) (h : RdL F w a n c L) (hw : WideL L) :
    Calls Try.prog 20 #[.slice a n c] w fun e w' => e = .returned (.bool (smallL L)) ∧ w = w' := by
  have hl := h.len
  have hsm := h.small
  by_cases h1 : n ≤ 300
  · have hsz := hw.size (by omega)
    have HR := Lib.hid (rrunes_any F a n c L w h hsz)
    unfold smallL
    rw [hl]
    have hjl := joinL_len_le L
    obtain ⟨R, hR⟩ : ∃ R, (joinL L).length = R := ⟨_, rfl⟩
    rw [hR] at HR hjl ⊢
    clear h hl hR hw
    have t1 : decide ((n : Int) ≤ 300) = true := by simp; omega
    have d1 : decide (n ≤ 300) = true := by simp; omega
    have t1' : (n : Int) ≤ 300 := by omega
    rw [d1, Bool.true_and]
    by_cases h2 : R ≤ 3000
    · have t2 : decide ((R : Int) ≤ 3000) = true := by simp; omega
      have d2 : decide (R ≤ 3000) = true := by simp; omega
      rw [d2]
      clear d1 d2
      go_enter Try.func20, Try.ntmps20
      go_wp2_with (go_at_call 51; refine HR.out.mono ?_; rintro e w' ⟨rfl, rfl⟩)
      go_ret
      exact ⟨by first | rfl | (simp; omega), rfl⟩
    · have t2 : decide ((R : Int) ≤ 3000) = false := by simp; omega
      have d2 : decide (R ≤ 3000) = false := by simp; omega
      rw [d2]
      clear d1 d2
      go_enter Try.func20, Try.ntmps20
      go_wp2_with (go_at_call 51; refine HR.out.mono ?_; rintro e w' ⟨rfl, rfl⟩)
      go_ret
      exact ⟨by first | rfl | (simp; omega), rfl⟩
  · unfold smallL
    rw [hl]
    clear h hl hw
    have t1 : decide ((n : Int) ≤ 300) = false := by simp; omega
    have d1 : decide (n ≤ 300) = false := by simp; omega
    rw [d1, Bool.false_and]
    clear d1
    go_enter Try.func20, Try.ntmps20
    go_wp2_with fail
    go_ret
    exact ⟨by first | rfl | (simp; omega), rfl⟩
end
section
open Go.RowKit Go.ChangeShapes Go.WideShapes Go.Deep
variable {H : Type} {enc : TypeId × Value → H} {w : World} {base : Nat} {held : Bool}
/-- all that is read weighs no more than the reach -/
def Lite (t : TypeId) (d : DataW H) : Prop := ∀ n ∈ d.weights Try.prog t, n ≤ reachBytes
end
section
open Go.RowKit Go.ChangeShapes Go.WideShapes Go.Deep
variable {H : Type} {enc : TypeId × Value → H} {w : World} {base : Nat} {held : Bool}
theorem bytesI : Try.prog.bytesOf 21 = 4 := by kernel_rfl
end
section
open Go.RowKit Go.ChangeShapes Go.WideShapes Go.Deep
variable {H : Type} {enc : TypeId × Value → H} {w : World} {base : Nat} {held : Bool}
theorem weights_all {e : TypeId} {l : List (DataW H)} {d : DataW H} (h : d ∈ l) : ∀ n ∈ d.weights Try.prog e, n ∈ DataW.weightsAll Try.prog e l := by
  induction l with
  | nil => cases h
  | cons x r ih =>
    intro n hn
    rw [DataW.weightsAll, List.mem_append]
    rcases List.mem_cons.1 h with rfl | h
    · exact .inl hn
    · exact .inr (ih h n hn)
end
section
open Go.RowKit Go.ChangeShapes Go.WideShapes Go.Deep
variable {H : Type} {enc : TypeId × Value → H} {w : World} {base : Nat} {held : Bool}
theorem open_LW {m : Nat} {v : Value} {y : DataW H × List MemPlace} (h : DataW.trod enc Try.prog w base (fun _ => true) held m 35 [v] = some y) :
    ∃ a len cap zs, v = .slice a len cap ∧ Rd .i32 w a len cap zs ∧ (Lite 35 y.1 → len ≤ 35184372088832) := by
  rcases open_ints Try.underlying35 Try.underlying21 (by kernel_rfl) h with ⟨hcs, hx⟩ | ⟨x, l, c, zs, hcs, _, hl, hm, hz, hx, hcell, hwz⟩
  · simp at hcs
    exact ⟨none, 0, 0, [], hcs, Rd.none0 _ _, fun _ => by omega⟩
  · simp at hcs
    refine ⟨some x, l, c, zs.take l, hcs, Rd_of_row (.inr ⟨_, rfl, hl, hm, by simpa using hz, hcell, hwz⟩), fun hL => ?_⟩
    rw [hx] at hL
    have h1 := hL (((lits (H := H) .i32 (zs.take l)).length + (lits (H := H) .i32 (zs.drop l)).length) * Try.prog.bytesOf 21) (by simp [DataW.weights, Try.underlying35])
    rw [bytesI] at h1
    have hz' : zs.length = c := by simpa using hz
    simp only [lits, List.length_map, List.length_take, List.length_drop, reachBytes] at h1
    omega
end
section
open Go.RowKit Go.ChangeShapes Go.WideShapes Go.Deep
variable {H : Type} {enc : TypeId × Value → H} {w : World} {base : Nat} {held : Bool}
theorem open_linesW {m : Nat} {v : Value} {y : DataW H × List MemPlace} (h : DataW.trod enc Try.prog w base (fun _ => true) held m 22 [v] = some y) :
    ∃ a len cap L, v = .slice a len cap ∧ RdL (fun k => k < w.heap.size) w a len cap L ∧ (Lite 22 y.1 → WideL L) := by
  rcases open_slice1 Try.underlying22 (by kernel_rfl) h with ⟨hcs, hx⟩ | ⟨ad, len, cap, mm, n, V, D, Pl, hcs, _, hl, hm, hmm, hx, hi⟩
  · simp at hcs
    exact ⟨none, 0, 0, [], hcs, RdL.none0 _ _, fun _ x hx => by cases hx⟩
  · simp at hcs
    simp at hmm
    have one : ∀ i, i < len → ∃ x : List Int, (∃ ra rc, V i = .slice ra x.length rc ∧ Rd .i32 w ra x.length rc x) ∧ (Lite 35 (D i) → x.length ≤ 35184372088832) := by
      intro i hlt
      obtain ⟨ra, n', rc, zs, e1, e2, e3⟩ := open_LW (hi i (by omega)).2
      have e4 := e2.1
      subst e4
      exact ⟨zs, ⟨ra, rc, e1, e2⟩, e3⟩
    obtain ⟨X, hX⟩ : ∃ X : Nat → List Int, ∀ i, i < len → (∃ ra rc, V i = .slice ra (X i).length rc ∧ Rd .i32 w ra (X i).length rc (X i)) ∧ (Lite 35 (D i) → (X i).length ≤ 35184372088832) := by
      refine ⟨fun i => if h : i < len then Classical.choose (one i h) else [], fun i h => ?_⟩
      simp only [h, ↓reduceDIte]
      exact Classical.choose_spec (one i h)
    refine ⟨some ad, len, cap, (List.range len).map X, hcs, ⟨(List.range len).map V, ⟨by simp, hl, hm, (fun e => by cases e), fun hp => ?_⟩, ?_, by simp, fun i x hx => ?_⟩, fun hL x hx => ?_⟩
    · obtain ⟨b, off, spot⟩ := ad
      have h0 := (hi 0 (by omega)).1
      have hspot : spot = none := by simpa [Addr.add] using World.cell?_spot h0
      subst hspot
      have he : ∀ j, (⟨b, off, none⟩ : Addr).add j = ⟨b, off + j, none⟩ := by
        intro j
        by_cases h0 : j = 0
        · subst h0; rfl
        · simp [Addr.add]; intro hj; exact absurd hj h0
      rw [he] at h0
      refine ⟨b, off, rfl, block_lt_of_cell h0, fun j u hu => ?_⟩
      have hj := (List.getElem?_eq_some_iff.1 hu).1
      simp only [List.length_map, List.length_range] at hj
      have h1 := (hi j (by omega)).1
      rw [he] at h1
      rw [h1]
      simpa [List.getElem?_map, List.getElem?_range hj] using hu
    · intro hp a0 e
      cases e
      have h0 := (hi 0 (by omega)).1
      obtain ⟨b, off, spot⟩ := ad
      have hspot : spot = none := by simpa [Addr.add] using World.cell?_spot h0
      subst hspot
      have he : (⟨b, off, none⟩ : Addr).add 0 = ⟨b, off, none⟩ := rfl
      rw [he] at h0
      exact block_lt_of_cell h0
    · have hl2 := (List.getElem?_eq_some_iff.1 hx).1
      simp only [List.length_map, List.length_range] at hl2
      have hxe : X i = x := by simpa [List.getElem?_map, List.getElem?_range hl2] using hx
      obtain ⟨⟨ra, rc, e1, e2⟩, _⟩ := hX i hl2
      rw [hxe] at e1 e2
      exact ⟨ra, rc, by simp [List.getElem?_map, List.getElem?_range hl2, e1], e2, e2.inHeap⟩
    · rw [List.mem_map] at hx
      obtain ⟨i, hi2, rfl⟩ := hx
      rw [List.mem_range] at hi2
      refine (hX i hi2).2 (fun n hn => hL n ?_)
      rw [hx]
      have h1 := weights_all (H := H) (e := 35) (l := (List.range len).map D) (d := D i) (List.mem_map.2 ⟨i, by simpa using hi2, rfl⟩) n hn
      simp only [DataW.weights, Try.underlying22, List.mem_cons, List.mem_append]
      exact .inr (.inl h1)
end
section
open Go.RowKit Go.ChangeShapes Go.WideShapes Go.Deep
variable {H : Type} {enc : TypeId × Value → H} {w : World} {base : Nat} {held : Bool}
/-- lines, as an argument -/
theorem open_lines_argW {r : Reach} {b0 : Nat} {v : Value} {d : DataW H} {p : List MemPlace} (hv : Value.okWide Try.prog w r b0 22 v) (h : DataW.Trod enc Try.prog w base (fun _ => true) held 22 v d p) (hL : Lite 22 d) :
    ∃ a len cap L, v = .slice a len cap ∧ RdL (fun k => k < w.heap.size) w a len cap L ∧ WideL L := by
  obtain ⟨a, len, cap, rfl⟩ := okWide_slice Try.underlying22 hv
  obtain ⟨fuel, hf⟩ := h
  obtain ⟨a', l', c', L, h1, h2, h3⟩ := open_linesW (y := (d, p)) (by simpa [Value.cells] using hf)
  exact ⟨a', l', c', L, h1, h2, h3 hL⟩
end
section
open Go.RowKit Go.ChangeShapes Go.WideShapes Go.Deep
variable {H : Type} {enc : TypeId × Value → H} {w : World} {base : Nat} {held : Bool}
/-- what a row's reading weighs, argument by argument -/
theorem lite_of {ts : List TypeId} {ds : List (DataW H)} (h : (DataW.weightsEach Try.prog ts ds).all (· ≤ reachBytes) = true) {j : Nat} {t : TypeId} {d : DataW H} (ht : ts[j]? = some t) (hd : ds[j]? = some d) : Lite t d := fun n hn => by
  have := List.all_eq_true.1 h n (DataW.weights_mem_each ht hd n hn)
  simpa using this
end
/-- a place -/
structure Po where
  l : Int
  c : Int
  deriving DecidableEq, Inhabited
def Po.v (p : Po) : Value := .agg #[.int .i64 p.l, .int .i64 p.c]
def po0 : Po := ⟨0, 0⟩
def i64p (p : Po) : Prop := i64b p.l ∧ i64b p.c
def Po.cells (p : Po) : List Value := [.int .i64 p.l, .int .i64 p.c]
def fl (ps : List Po) : List Value := ps.flatMap Po.cells
theorem fl_cons (p : Po) (ps : List Po) : fl (p :: ps) = p.cells ++ fl ps := by simp [fl]
theorem fl_len (ps : List Po) : (fl ps).length = ps.length * 2 := by
  induction ps with
  | nil => rfl
  | cons x r ih => rw [fl_cons, List.length_append, ih]; simp [Po.cells]; omega
theorem fl_drop : ∀ (ps : List Po) (i : Nat), (fl ps).drop (i * 2) = fl (ps.drop i)
  | [], i => by simp [fl]
  | p :: r, 0 => by simp [fl]
  | p :: r, i + 1 => by
    rw [fl_cons, List.drop_succ_cons, show (i + 1) * 2 = p.cells.length + i * 2 from by simp [Po.cells]; omega, List.drop_length_add_append, fl_drop r i]
theorem fl_at (ps : List Po) (i j : Nat) (p : Po) (hp : ps[i]? = some p) (hj : j < 2) : (fl ps)[i * 2 + j]? = p.cells[j]? := by
  have h : (fl ps).drop (i * 2) = p.cells ++ fl (ps.drop (i + 1)) := by
    obtain ⟨hi, e⟩ := List.getElem?_eq_some_iff.1 hp
    rw [fl_drop, List.drop_eq_getElem_cons hi, fl_cons, e]
  rw [← List.getElem?_drop, h, List.getElem?_append_left (by simp [Po.cells]; omega)]
/-- the i-th place of a row that is read -/
theorem Rc.po {w W : World} {a : Option Addr} {n c i : Nat} {ps : List Po} (h : Rc w a n c 2 (fl ps)) (hb : Below w.heap.size w W) (hi : i < n) :
    ∃ b off, a = some ⟨b, off, none⟩ ∧ b < w.heap.size ∧ ps.length = n ∧ W.cell? ⟨b, off + i * 2, none⟩ = some (.int .i64 (ps.getD i po0).l) ∧ W.cell? ⟨b, off + i * 2 + 1, none⟩ = some (.int .i64 (ps.getD i po0).c) := by
  have hl := h.1
  rw [fl_len] at hl
  have hl : ps.length = n := by omega
  obtain ⟨b, off, rfl, hbl, hc⟩ := h.at_ (by omega)
  have hp : ps[i]? = some (ps.getD i po0) := by rw [List.getD_eq_getElem?_getD, List.getElem?_eq_getElem (by omega)]; rfl
  have c0 := hc (i * 2) _ (by simpa [Po.cells] using fl_at ps i 0 _ hp (by omega))
  have c1 := hc (i * 2 + 1) _ (by simpa [Po.cells] using fl_at ps i 1 _ hp (by omega))
  rw [← Nat.add_assoc] at c1
  exact ⟨b, off, rfl, hbl, hl, (hb.cell (p := ⟨b, off + i * 2, none⟩) hbl).trans c0, (hb.cell (p := ⟨b, off + i * 2 + 1, none⟩) hbl).trans c1⟩
section
open Go.RowKit Go.ChangeShapes Go.WideShapes Go.Deep
theorem twoL {α : Type} {l : List α} (h : l.length = 2) : ∃ a b, l = [a, b] := by
  match l, h with
  | [a, b], _ => exact ⟨a, b, rfl⟩
end
section
open Go.RowKit Go.ChangeShapes Go.WideShapes Go.Deep
variable {H : Type} {enc : TypeId × Value → H} {w : World} {base : Nat} {held : Bool}
theorem po_of {m : Nat} {cs : List Value} {y : DataW H × List MemPlace} (h : DataW.trod enc Try.prog w base (fun _ => true) held m 24 cs = some y) : ∃ q : Po, cs = q.cells ∧ i64p q := by
  have hC : Try.prog.cellsOf 24 = 2 := by kernel_rfl
  obtain ⟨ys, n', _, hy, hcl, hyl, hf⟩ := DataW.trod_struct Try.underlying24 h
  rw [hC] at hcl
  obtain ⟨v0, v1, rfl⟩ := twoL hcl
  obtain ⟨y0, y1, rfl⟩ := twoL (l := ys) hyl
  have g0 : DataW.trod enc Try.prog w base (fun _ => true) held n' 3 [v0] = some y0 := hf 0 _ rfl
  have g1 : DataW.trod enc Try.prog w base (fun _ => true) held n' 3 [v1] = some y1 := hf 1 _ rfl
  obtain ⟨p, e0, _, w0⟩ := DataW.trod_int Try.underlying3 g0
  obtain ⟨r, e1, _, w1⟩ := DataW.trod_int Try.underlying3 g1
  simp at e0 e1
  subst e0 e1
  exact ⟨⟨p, r⟩, rfl, wf_i64b w0, wf_i64b w1⟩
end
section
open Go.RowKit Go.ChangeShapes Go.WideShapes Go.Deep
variable {H : Type} {enc : TypeId × Value → H} {w : World} {base : Nat} {held : Bool}
theorem open_pos {r : Reach} {b0 : Nat} {v : Value} {d : DataW H} {p : List MemPlace} (hv : Value.okWide Try.prog w r b0 24 v) (h : DataW.Trod enc Try.prog w base (fun _ => true) held 24 v d p) :
    ∃ q : Po, v = q.v ∧ i64p q := by
  obtain ⟨cs, rfl, hsz⟩ := okWide_struct Try.underlying24 hv
  obtain ⟨fuel, hf⟩ := h
  obtain ⟨q, e, hc⟩ := po_of (y := (d, p)) (cs := cs.toList) (by simpa [Value.cells] using hf)
  refine ⟨q, ?_, hc⟩
  unfold Po.v
  congr 1
  apply Array.toList_inj.1
  rw [e]
  rfl
end
theorem btr {a b c : World} (h : Below a.heap.size a b) (k : Below b.heap.size b c) : Below a.heap.size a c := h.trans (k.mono h.size)
theorem rword_any (c : Int) (w : World) :
    Calls Try.prog 96 #[.int .i32 c] w fun e w' => e = .returned (.bool (wordR c)) ∧ w = w' := by
  have hall : c ≤ 47 ∨ (48 ≤ c ∧ c ≤ 57) ∨ (58 ≤ c ∧ c ≤ 64) ∨ (65 ≤ c ∧ c ≤ 90) ∨ (91 ≤ c ∧ c ≤ 94) ∨ c = 95 ∨ c = 96 ∨ (97 ≤ c ∧ c ≤ 122) ∨ (123 ≤ c ∧ c ≤ 127) ∨ 128 ≤ c := by omega
  rcases hall with ha | ha | ha | ha | ha | ha | ha | ha | ha | ha
  · have ha1 := ha
    have t0 : ¬ 48 ≤ c := by omega
    have d0 : decide (48 ≤ c) = false := by simp; omega
    have t1 : c ≤ 57 := by omega
    have d1 : decide (c ≤ 57) = true := by simp; omega
    have t2 : ¬ 65 ≤ c := by omega
    have d2 : decide (65 ≤ c) = false := by simp; omega
    have t3 : c ≤ 90 := by omega
    have d3 : decide (c ≤ 90) = true := by simp; omega
    have t4 : ¬ 97 ≤ c := by omega
    have d4 : decide (97 ≤ c) = false := by simp; omega
    have t5 : c ≤ 122 := by omega
    have d5 : decide (c ≤ 122) = true := by simp; omega
    have t6 : ¬ 128 ≤ c := by omega
    have d6 : decide (128 ≤ c) = false := by simp; omega
    have e1 : (c == 95) = false := by simp; omega
    have e2 : decide (c = 95) = false := by simp; omega
    have hw : wordR c = false := by simp [wordR]; omega
    rw [hw]
    clear hw e2
    go_enter Try.func96, Try.ntmps96
    go_wp2
    go_ret
    exact ⟨rfl, rfl⟩
  · obtain ⟨ha1, ha2⟩ := ha
    have t0 : 48 ≤ c := by omega
    have d0 : decide (48 ≤ c) = true := by simp; omega
    have t1 : c ≤ 57 := by omega
    have d1 : decide (c ≤ 57) = true := by simp; omega
    have t2 : ¬ 65 ≤ c := by omega
    have d2 : decide (65 ≤ c) = false := by simp; omega
    have t3 : c ≤ 90 := by omega
    have d3 : decide (c ≤ 90) = true := by simp; omega
    have t4 : ¬ 97 ≤ c := by omega
    have d4 : decide (97 ≤ c) = false := by simp; omega
    have t5 : c ≤ 122 := by omega
    have d5 : decide (c ≤ 122) = true := by simp; omega
    have t6 : ¬ 128 ≤ c := by omega
    have d6 : decide (128 ≤ c) = false := by simp; omega
    have e1 : (c == 95) = false := by simp; omega
    have e2 : decide (c = 95) = false := by simp; omega
    have hw : wordR c = true := by simp [wordR]; omega
    rw [hw]
    clear hw e2
    go_enter Try.func96, Try.ntmps96
    go_wp2
    go_ret
    exact ⟨rfl, rfl⟩
  · obtain ⟨ha1, ha2⟩ := ha
    have t0 : 48 ≤ c := by omega
    have d0 : decide (48 ≤ c) = true := by simp; omega
    have t1 : ¬ c ≤ 57 := by omega
    have d1 : decide (c ≤ 57) = false := by simp; omega
    have t2 : ¬ 65 ≤ c := by omega
    have d2 : decide (65 ≤ c) = false := by simp; omega
    have t3 : c ≤ 90 := by omega
    have d3 : decide (c ≤ 90) = true := by simp; omega
    have t4 : ¬ 97 ≤ c := by omega
    have d4 : decide (97 ≤ c) = false := by simp; omega
    have t5 : c ≤ 122 := by omega
    have d5 : decide (c ≤ 122) = true := by simp; omega
    have t6 : ¬ 128 ≤ c := by omega
    have d6 : decide (128 ≤ c) = false := by simp; omega
    have e1 : (c == 95) = false := by simp; omega
    have e2 : decide (c = 95) = false := by simp; omega
    have hw : wordR c = false := by simp [wordR]; omega
    rw [hw]
    clear hw e2
    go_enter Try.func96, Try.ntmps96
    go_wp2
    go_ret
    exact ⟨rfl, rfl⟩
  · obtain ⟨ha1, ha2⟩ := ha
    have t0 : 48 ≤ c := by omega
    have d0 : decide (48 ≤ c) = true := by simp; omega
    have t1 : ¬ c ≤ 57 := by omega
    have d1 : decide (c ≤ 57) = false := by simp; omega
    have t2 : 65 ≤ c := by omega
    have d2 : decide (65 ≤ c) = true := by simp; omega
    have t3 : c ≤ 90 := by omega
    have d3 : decide (c ≤ 90) = true := by simp; omega
    have t4 : ¬ 97 ≤ c := by omega
    have d4 : decide (97 ≤ c) = false := by simp; omega
    have t5 : c ≤ 122 := by omega
    have d5 : decide (c ≤ 122) = true := by simp; omega
    have t6 : ¬ 128 ≤ c := by omega
    have d6 : decide (128 ≤ c) = false := by simp; omega
    have e1 : (c == 95) = false := by simp; omega
    have e2 : decide (c = 95) = false := by simp; omega
    have hw : wordR c = true := by simp [wordR]; omega
    rw [hw]
    clear hw e2
    go_enter Try.func96, Try.ntmps96
    go_wp2
    go_ret
    exact ⟨rfl, rfl⟩
  · obtain ⟨ha1, ha2⟩ := ha
    have t0 : 48 ≤ c := by omega
    have d0 : decide (48 ≤ c) = true := by simp; omega
    have t1 : ¬ c ≤ 57 := by omega
    have d1 : decide (c ≤ 57) = false := by simp; omega
    have t2 : 65 ≤ c := by omega
    have d2 : decide (65 ≤ c) = true := by simp; omega
    have t3 : ¬ c ≤ 90 := by omega
    have d3 : decide (c ≤ 90) = false := by simp; omega
    have t4 : ¬ 97 ≤ c := by omega
    have d4 : decide (97 ≤ c) = false := by simp; omega
    have t5 : c ≤ 122 := by omega
    have d5 : decide (c ≤ 122) = true := by simp; omega
    have t6 : ¬ 128 ≤ c := by omega
    have d6 : decide (128 ≤ c) = false := by simp; omega
    have e1 : (c == 95) = false := by simp; omega
    have e2 : decide (c = 95) = false := by simp; omega
    have hw : wordR c = false := by simp [wordR]; omega
    rw [hw]
    clear hw e2
    go_enter Try.func96, Try.ntmps96
    go_wp2
    go_ret
    exact ⟨rfl, rfl⟩
  · have ha1 := ha
    have t0 : 48 ≤ c := by omega
    have d0 : decide (48 ≤ c) = true := by simp; omega
    have t1 : ¬ c ≤ 57 := by omega
    have d1 : decide (c ≤ 57) = false := by simp; omega
    have t2 : 65 ≤ c := by omega
    have d2 : decide (65 ≤ c) = true := by simp; omega
    have t3 : ¬ c ≤ 90 := by omega
    have d3 : decide (c ≤ 90) = false := by simp; omega
    have t4 : ¬ 97 ≤ c := by omega
    have d4 : decide (97 ≤ c) = false := by simp; omega
    have t5 : c ≤ 122 := by omega
    have d5 : decide (c ≤ 122) = true := by simp; omega
    have t6 : ¬ 128 ≤ c := by omega
    have d6 : decide (128 ≤ c) = false := by simp; omega
    have e1 : (c == 95) = true := by simp; omega
    have e2 : decide (c = 95) = true := by simp; omega
    have hw : wordR c = true := by simp [wordR]; omega
    rw [hw]
    clear hw e2
    go_enter Try.func96, Try.ntmps96
    go_wp2
    go_ret
    exact ⟨rfl, rfl⟩
  · have ha1 := ha
    have t0 : 48 ≤ c := by omega
    have d0 : decide (48 ≤ c) = true := by simp; omega
    have t1 : ¬ c ≤ 57 := by omega
    have d1 : decide (c ≤ 57) = false := by simp; omega
    have t2 : 65 ≤ c := by omega
    have d2 : decide (65 ≤ c) = true := by simp; omega
    have t3 : ¬ c ≤ 90 := by omega
    have d3 : decide (c ≤ 90) = false := by simp; omega
    have t4 : ¬ 97 ≤ c := by omega
    have d4 : decide (97 ≤ c) = false := by simp; omega
    have t5 : c ≤ 122 := by omega
    have d5 : decide (c ≤ 122) = true := by simp; omega
    have t6 : ¬ 128 ≤ c := by omega
    have d6 : decide (128 ≤ c) = false := by simp; omega
    have e1 : (c == 95) = false := by simp; omega
    have e2 : decide (c = 95) = false := by simp; omega
    have hw : wordR c = false := by simp [wordR]; omega
    rw [hw]
    clear hw e2
    go_enter Try.func96, Try.ntmps96
    go_wp2
    go_ret
    exact ⟨rfl, rfl⟩
  · obtain ⟨ha1, ha2⟩ := ha
    have t0 : 48 ≤ c := by omega
    have d0 : decide (48 ≤ c) = true := by simp; omega
    have t1 : ¬ c ≤ 57 := by omega
    have d1 : decide (c ≤ 57) = false := by simp; omega
    have t2 : 65 ≤ c := by omega
    have d2 : decide (65 ≤ c) = true := by simp; omega
    have t3 : ¬ c ≤ 90 := by omega
    have d3 : decide (c ≤ 90) = false := by simp; omega
    have t4 : 97 ≤ c := by omega
    have d4 : decide (97 ≤ c) = true := by simp; omega
    have t5 : c ≤ 122 := by omega
    have d5 : decide (c ≤ 122) = true := by simp; omega
    have t6 : ¬ 128 ≤ c := by omega
    have d6 : decide (128 ≤ c) = false := by simp; omega
    have e1 : (c == 95) = false := by simp; omega
    have e2 : decide (c = 95) = false := by simp; omega
    have hw : wordR c = true := by simp [wordR]; omega
    rw [hw]
    clear hw e2
    go_enter Try.func96, Try.ntmps96
    go_wp2
    go_ret
    exact ⟨rfl, rfl⟩
  · obtain ⟨ha1, ha2⟩ := ha
    have t0 : 48 ≤ c := by omega
    have d0 : decide (48 ≤ c) = true := by simp; omega
    have t1 : ¬ c ≤ 57 := by omega
    have d1 : decide (c ≤ 57) = false := by simp; omega
    have t2 : 65 ≤ c := by omega
    have d2 : decide (65 ≤ c) = true := by simp; omega
    have t3 : ¬ c ≤ 90 := by omega
    have d3 : decide (c ≤ 90) = false := by simp; omega
    have t4 : 97 ≤ c := by omega
    have d4 : decide (97 ≤ c) = true := by simp; omega
    have t5 : ¬ c ≤ 122 := by omega
    have d5 : decide (c ≤ 122) = false := by simp; omega
    have t6 : ¬ 128 ≤ c := by omega
    have d6 : decide (128 ≤ c) = false := by simp; omega
    have e1 : (c == 95) = false := by simp; omega
    have e2 : decide (c = 95) = false := by simp; omega
    have hw : wordR c = false := by simp [wordR]; omega
    rw [hw]
    clear hw e2
    go_enter Try.func96, Try.ntmps96
    go_wp2
    go_ret
    exact ⟨rfl, rfl⟩
  · have ha1 := ha
    have t0 : 48 ≤ c := by omega
    have d0 : decide (48 ≤ c) = true := by simp; omega
    have t1 : ¬ c ≤ 57 := by omega
    have d1 : decide (c ≤ 57) = false := by simp; omega
    have t2 : 65 ≤ c := by omega
    have d2 : decide (65 ≤ c) = true := by simp; omega
    have t3 : ¬ c ≤ 90 := by omega
    have d3 : decide (c ≤ 90) = false := by simp; omega
    have t4 : 97 ≤ c := by omega
    have d4 : decide (97 ≤ c) = true := by simp; omega
    have t5 : ¬ c ≤ 122 := by omega
    have d5 : decide (c ≤ 122) = false := by simp; omega
    have t6 : 128 ≤ c := by omega
    have d6 : decide (128 ≤ c) = true := by simp; omega
    have e1 : (c == 95) = false := by simp; omega
    have e2 : decide (c = 95) = false := by simp; omega
    have hw : wordR c = true := by simp [wordR]; omega
    rw [hw]
    clear hw e2
    go_enter Try.func96, Try.ntmps96
    go_wp2
    go_ret
    exact ⟨rfl, rfl⟩
theorem rclass_any (c : Int) (big : Bool) (w : World) :
    Calls Try.prog 72 #[.int .i32 c, .bool big] w fun e w' => e = .returned (.int .i64 (cls big c)) ∧ w = w' := by
  by_cases h1 : c = 32
  · have e1 : (c == 32) = true := by simp [h1]
    have hc : cls big c = 0 := by simp [cls, h1]
    rw [hc]
    clear hc h1
    go_enter Try.func72, Try.ntmps72
    go_wp2
    go_ret
    exact ⟨rfl, rfl⟩
  have e1 : (c == 32) = false := by simp [h1]
  by_cases h2 : c = 9
  · have e2 : (c == 9) = true := by simp [h2]
    have hc : cls big c = 0 := by simp [cls, h2]
    rw [hc]
    clear hc h1 h2
    go_enter Try.func72, Try.ntmps72
    go_wp2
    go_ret
    exact ⟨rfl, rfl⟩
  have e2 : (c == 9) = false := by simp [h2]
  cases big with
  | true =>
    have hc : cls true c = 1 := by simp [cls, h1, h2]
    rw [hc]
    clear hc h1 h2
    go_enter Try.func72, Try.ntmps72
    go_wp2
    go_ret
    exact ⟨rfl, rfl⟩
  | false =>
    obtain ⟨b, hb⟩ : ∃ b, wordR c = b := ⟨_, rfl⟩
    have hc : cls false c = if b = true then 1 else 2 := by simp [cls, h1, h2, hb]
    rw [hc]
    have HW := Lib.hid (rword_any c)
    rw [hb] at HW
    clear hc h1 h2 hb
    go_enter Try.func72, Try.ntmps72
    cases b
    · go_wp2_with (go_at_call 96; refine (HW.out _).mono ?_; rintro e w' ⟨rfl, rfl⟩)
      go_ret
      exact ⟨rfl, rfl⟩
    · go_wp2_with (go_at_call 96; refine (HW.out _).mono ?_; rintro e w' ⟨rfl, rfl⟩)
      go_ret
      exact ⟨rfl, rfl⟩
/-- a place as the program has it -/
def plV (p : Pl) : Value := .agg #[.int .i64 (p.1 : Nat), .int .i64 (p.2 : Nat)]
theorem rahead_any (p q : Pl) (w : World) :
    Calls Try.prog 33 #[plV p, plV q] w fun e w' => e = .returned (.bool (aheadP p q)) ∧ Below w.heap.size w w' := by
  obtain ⟨a, b⟩ := p
  obtain ⟨c, d⟩ := q
  show Calls Try.prog 33 #[.agg #[.int .i64 (a : Nat), .int .i64 (b : Nat)], .agg #[.int .i64 (c : Nat), .int .i64 (d : Nat)]] w _
  by_cases h1 : a < c
  · have d1 : decide ((a : Int) < (c : Int)) = true := by simp; omega
    have hr : aheadP (a, b) (c, d) = true := by rw [aheadP_iff]; exact Or.inl h1
    rw [hr]
    clear hr
    go_enter Try.func33, Try.ntmps33
    go_wp2
    go_ret
    exact ⟨ret_bool (by first | rfl | (simp; omega)), ((Below.refl _ w).alloc (Nat.le_refl _) _).alloc (by simp) _⟩
  have d1 : decide ((a : Int) < (c : Int)) = false := by simp; omega
  by_cases h2 : a = c
  · subst h2
    have e1 : ((a : Int) == (a : Int)) = true := by simp
    by_cases h3 : b < d
    · have d2 : decide ((b : Int) < (d : Int)) = true := by simp; omega
      have hr : aheadP (a, b) (a, d) = true := by rw [aheadP_iff]; exact Or.inr ⟨rfl, h3⟩
      rw [hr]
      clear hr
      go_enter Try.func33, Try.ntmps33
      go_wp2
      go_ret
      exact ⟨ret_bool (by first | rfl | (simp; omega)), ((Below.refl _ w).alloc (Nat.le_refl _) _).alloc (by simp) _⟩
    · have d2 : decide ((b : Int) < (d : Int)) = false := by simp; omega
      have hr : aheadP (a, b) (a, d) = false := by simp [aheadP]; omega
      rw [hr]
      clear hr
      go_enter Try.func33, Try.ntmps33
      go_wp2
      go_ret
      exact ⟨ret_bool (by first | rfl | (simp; omega)), ((Below.refl _ w).alloc (Nat.le_refl _) _).alloc (by simp) _⟩
  · have e1 : ((a : Int) == (c : Int)) = false := by simp; omega
    have hr : aheadP (a, b) (c, d) = false := by simp [aheadP]; omega
    rw [hr]
    clear hr
    go_enter Try.func33, Try.ntmps33
    go_wp2
    go_ret
    exact ⟨ret_bool (by first | rfl | (simp; omega)), ((Below.refl _ w).alloc (Nat.le_refl _) _).alloc (by simp) _⟩
theorem row2 {w : World} {b : Nat} {ty : TypeId} {v0 v1 : Value} (h : w.heap[b]? = some (.cells #[v0, v1] ty (0, 0))) : w.cell? ⟨b, 0, none⟩ = some v0 ∧ w.cell? ⟨b, 1, none⟩ = some v1 ∧ w.frozen? ⟨b, 0, none⟩ = false ∧ w.frozen? ⟨b, 1, none⟩ = false :=
  ⟨by rw [cell_row h]; rfl, by rw [cell_row h]; rfl, frozen_row h 0, frozen_row h 1⟩
theorem bal (W : World) (o : Obj) : Below W.heap.size W (W.alloc o) := (Below.refl _ W).alloc (Nat.le_refl _) o
theorem setCell_below {B : Nat} {a b : World} (h : Below B a b) (k i : Nat) (v : Value) (hk : B ≤ k) : Below B a (b.setCell ⟨k, i, none⟩ v) := h.setCell hk v
theorem rclip_any (F : Nat → Prop) (a : Option Addr) (n c : Nat) (L : List (List Int)) (q : Po) (w : World) (h : RdL F w a n c L) (hq : i64p q) :
    Calls Try.prog 32 #[.slice a n c, q.v] w fun e w' => e = .returned (plV (clipP L q.l q.c)) ∧ Below w.heap.size w w' := by
  obtain ⟨u, v⟩ := q
  show Calls Try.prog 32 #[.slice a n c, .agg #[.int .i64 u, .int .i64 v]] w fun e w' => e = .returned (plV (clipP L u v)) ∧ Below w.heap.size w w'
  obtain ⟨⟨hu1, hu2⟩, hv1, hv2⟩ := hq
  simp only at hu1 hu2 hv1 hv2
  have hl := h.len
  have hsm := h.small
  by_cases h0 : n = 0
  · subst h0
    have hL : L = [] := List.eq_nil_of_length_eq_zero hl
    have hr : clipP L u v = (0, 0) := by rw [hL]; rfl
    rw [hr]
    clear h hl hL hr
    go_enter Try.func32, Try.ntmps32
    go_wp2
    refine bodyPost_ret (v := plV (0, 0)) ?_ rfl ⟨rfl, ?_⟩
    · rw [results_cell1 rfl]
      go_simp
      rfl
    · (repeat' (refine setCell_below ?_ _ _ _ ?_)) <;> first | exact ((Below.refl _ w).alloc (Nat.le_refl _) _).alloc (by simp) _ | omega
  · have hne : ((n : Int) == 0) = false := by simp; omega
    have hne2 : ¬ n = 0 := h0
    have hL : L ≠ [] := by rintro rfl; simp at hl; omega
    obtain ⟨k, hk⟩ : ∃ k, clipN n u = k := ⟨_, rfl⟩
    have hkn : k < n := by rw [← hk]; exact clipN_lt u (by omega)
    obtain ⟨x, hx⟩ : ∃ x, L[k]? = some x := ⟨L[k]'(by omega), List.getElem?_eq_getElem _⟩
    obtain ⟨b, off, ra, rc, rfl, hbl, hF, e0, hrd, -, -⟩ := h.get (Below.refl _ w) hx
    have hxs := hrd.small
    obtain ⟨m, hm⟩ : ∃ m, x.length = m := ⟨_, rfl⟩
    rw [hm] at e0 hxs
    have hr : clipP L u v = (k, clipN m v) := by
      unfold clipP
      rw [if_neg hL, hl, hk, ← hm]
      simp [lnL, List.getD_eq_getElem?_getD, hx]
    rw [hr]
    obtain ⟨j, hj⟩ : ∃ j, clipN m v = j := ⟨_, rfl⟩
    rw [hj]
    clear h hl hL hr hrd hx hm h0
    obtain ⟨w1, hw1⟩ : ∃ w1, (w.alloc (.cells #[.int .i64 u, .int .i64 v] 24)).alloc (.cells #[.int .i64 0, .int .i64 0] 24) = w1 := ⟨_, rfl⟩
    have hb1 : Below w.heap.size w w1 := by rw [← hw1]; exact ((Below.refl _ w).alloc (Nat.le_refl _) _).alloc (by simp) _
    have g1 : w1.heap[w.heap.size]? = some (.cells #[.int .i64 u, .int .i64 v] 24 (0, 0)) := by
      rw [← hw1, ((Below.refl _ (w.alloc _)).alloc (Nat.le_refl _) _).block _ (by simp)]
      exact heap_alloc_new w _
    have g2 : w1.heap[w.heap.size + 1]? = some (.cells #[.int .i64 0, .int .i64 0] 24 (0, 0)) := by
      rw [← hw1]
      have := heap_alloc_new (w.alloc (.cells #[.int .i64 u, .int .i64 v] 24)) (.cells #[.int .i64 0, .int .i64 0] 24)
      simpa using this
    have e1 := (hb1.cell (p := ⟨b, off + k, none⟩) hbl).trans e0
    obtain ⟨a0, a1, z0, z1⟩ := row2 g1
    obtain ⟨a2, a3, z2, z3⟩ := row2 g2
    have HW1 := Lib.hid hw1
    have G1 := Lib.hid g1
    have G2 := Lib.hid g2
    have HB1 := Lib.hid hb1
    have nb : ¬ b = w.heap.size := by omega
    have nb2 : ¬ b = w.heap.size + 1 := by omega
    have hcu : (max 0 (min u ((n : Int) - 1)) = (k : Int)) := by rw [← hk]; unfold clipN; omega
    have hcv : (max 0 (min v ((m : Int) - 1)) = (j : Int)) := by rw [← hj]; unfold clipN; omega
    clear g1 g2 hw1 hb1 e0 hk hj
    go_enter Try.func32, Try.ntmps32
    go_upto_region 1 with fail
    rw [HW1.out]
    go_upto_region 4 with fail
    obtain ⟨w2, hw2⟩ : ∃ w2, w1.setCell ⟨w.heap.size, 0, none⟩ (.int .i64 (k : Int)) = w2 := ⟨_, rfl⟩
    rw [hw2]
    have hb2 : Below w.heap.size w w2 := by rw [← hw2]; exact setCell_below HB1.out _ _ _ (Nat.le_refl _)
    have q0 : w2.heap[w.heap.size]? = some (.cells #[.int .i64 (k : Int), .int .i64 v] 24 (0, 0)) := by rw [← hw2]; exact heap_set G1.out 0 _
    have q1 : w2.heap[w.heap.size + 1]? = some (.cells #[.int .i64 0, .int .i64 0] 24 (0, 0)) := by rw [← hw2, Below.heap_setCell _ _ _ _ (by show ¬ _ = _; simp)]; exact G2.out
    have q2 : w2.cell? ⟨b, off + k, none⟩ = some (.slice ra m rc) := by rw [World.cell?_of_block (a := ⟨b, off + k, none⟩) (w := w1) (by rw [← hw2]; exact Below.heap_setCell _ _ _ _ (by show ¬ _ = _; exact nb))]; exact e1
    obtain ⟨b0, b1, y0, y1⟩ := row2 q0
    obtain ⟨b2, b3, y2, y3⟩ := row2 q1
    have HB2 := Lib.hid hb2
    clear q0 q1 hb2 hw2 a0 a1 a2 a3 z0 z1 z2 z3 e1 G1 G2 HW1 HB1 hcu
    go_region
    all_goals
      go_wp2
      refine bodyPost_ret (v := plV (k, j)) ?_ rfl ⟨rfl, ?_⟩
      · rw [results_cell1 rfl]
        go_simp
        rfl
      · have h2 := HB2.out
        (repeat' (first | exact h2 | omega | refine setCell_below ?_ _ _ _ ?_ | refine Below.drew ?_ | refine bdrewN ?_ _))
/-- the line of a place, and the runes beside it -/
theorem okP.line {F : Nat → Prop} {w : World} {a : Option Addr} {n c : Nat} {L : List (List Int)} {p : Pl} (h : RdL F w a n c L) (hp : okP L p) {W : World} (hb : Below w.heap.size w W) :
    ∃ b off ra rc, a = some ⟨b, off, none⟩ ∧ p.1 < n ∧ b < w.heap.size ∧ W.cell? ⟨b, off + p.1, none⟩ = some (.slice ra (lnL L p.1).length rc) ∧ Rd .i32 W ra (lnL L p.1).length rc (lnL L p.1) := by
  have hl := h.len
  have hlt := hp.1
  have hx : L[p.1]? = some (lnL L p.1) := by unfold lnL; rw [List.getD_eq_getElem?_getD, List.getElem?_eq_getElem hlt]; rfl
  obtain ⟨b, off, ra, rc, rfl, hbl, hF, e0, hrd, -, -⟩ := h.get hb hx
  exact ⟨b, off, ra, rc, rfl, by omega, hbl, e0, hrd⟩
theorem Rd.at_ {w : World} {a : Option Addr} {n c : Nat} {p : List Int} (h : Rd .i32 w a n c p) {i : Nat} (hi : i < n) : ∃ b off, a = some ⟨b, off, none⟩ ∧ b < w.heap.size ∧ w.cell? ⟨b, off + i, none⟩ = some (.int .i32 (p.getD i 0)) := by
  obtain ⟨h1, h2, h3, h4, h6, h5⟩ := h
  obtain ⟨b, off, rfl, hc⟩ := h5 (by omega)
  exact ⟨b, off, rfl, block_lt_of_cell (hc i hi), hc i hi⟩
theorem Rd.all_ {w : World} {a : Option Addr} {n c : Nat} {p : List Int} (h : Rd .i32 w a n c p) (hn : 0 < n) : ∃ b off, a = some ⟨b, off, none⟩ ∧ b < w.heap.size ∧ ∀ i, i < n → w.cell? ⟨b, off + i, none⟩ = some (.int .i32 (p.getD i 0)) := by
  obtain ⟨h1, h2, h3, h4, h6, h5⟩ := h
  obtain ⟨b, off, rfl, hc⟩ := h5 (by omega)
  exact ⟨b, off, rfl, block_lt_of_cell (hc 0 hn), hc⟩
/-- lines that have just been laid: one row of rows that can be read -/
theorem rdl_new (w : World) (vs : List Value) (L : List (List Int)) (n : Nat) (hn : vs.length = n) (hm : n ≤ 1000) (h : RowsAt (fun k => k < w.heap.size) w vs L) (cs : Array Value) (hc : cs = vs.toArray) :
    RdL (fun k => k < w.heap.size + 1) (w.alloc (.cells cs 35)) (some ⟨w.heap.size, 0, none⟩) n n L := by
  subst hc
  have hg := heap_alloc_new w (.cells vs.toArray 35)
  refine ⟨vs, ⟨by omega, Nat.le_refl _, by unfold maxLen; omega, (fun e => by cases e), fun _ => ⟨_, 0, rfl, heap_lt hg, fun j u hu => ?_⟩⟩, fun _ ad e => by cases e; exact Nat.lt_succ_self _, ?_⟩
  · rw [cell_row hg, Nat.zero_add]; simpa using hu
  · exact (h.frF (Fr.of_below (fun _ => False) (bal w _)) (fun _ _ h => h)).mono (fun k hk => by omega)
/-- the first rune of a line that is not blank; the last one -/
def firstR (x : List Int) : Nat := (x.findIdx? fun c => cls false c != 0).getD (x.length - 1)
def sizeR (L : List (List Int)) : Nat := sizeN (lens L)
theorem ret_boolG {a b : Bool} (h : a = b) : Ending.returned (.bool a) = Ending.returned (.bool b) := by rw [h]
theorem FreshL.fr {F : Nat → Prop} {B : Nat} {w w' : World} {a : Option Addr} {n c : Nat} {L : List (List Int)} (h : FreshL B w a n c L) (hf : Fr F w w') (hd : ∀ k, B ≤ k → ¬ F k) : FreshL B w' a n c L := by
  obtain ⟨vs, h1, h2, h3, h4⟩ := h
  exact ⟨vs, own_fr h1 hf (fun k e => hd k (h1.lt k e).1), h2, fun i x hx => by obtain ⟨v, e1, e2⟩ := h3 i x hx; exact ⟨v, e1, own_fr e2 hf (fun k e => hd k (e2.lt k e).1)⟩, h4⟩
theorem FreshL.mono {B B' : Nat} {w : World} {a : Option Addr} {n c : Nat} {L : List (List Int)} (h : FreshL B w a n c L) (hB : B' ≤ B) : FreshL B' w a n c L := by
  obtain ⟨vs, h1, h2, h3, h4⟩ := h
  exact ⟨vs, own_mono h1 hB, h2, fun i x hx => by obtain ⟨v, e1, e2⟩ := h3 i x hx; exact ⟨v, e1, own_mono e2 hB⟩, h4⟩
/-- what a register holds, as a value -/
def rgV (k : Int) (a : Option Addr) (n c : Nat) : Value := .agg #[.int .i64 k, .slice a n c]
/-- a box with a register in it at b, another one behind it -/
structure Fou (b : Nat) (v0 v1 u0 u1 : Value) (W : World) : Prop where
  c0 : W.cell? ⟨b, 0, none⟩ = some v0
  c1 : W.cell? ⟨b, 1, none⟩ = some v1
  d0 : W.cell? ⟨b + 1, 0, none⟩ = some u0
  d1 : W.cell? ⟨b + 1, 1, none⟩ = some u1
  y0 : W.frozen? ⟨b, 0, none⟩ = false
  y1 : W.frozen? ⟨b, 1, none⟩ = false
  z0 : W.frozen? ⟨b + 1, 0, none⟩ = false
  z1 : W.frozen? ⟨b + 1, 1, none⟩ = false
  l0 : b < W.heap.size
  l1 : b + 1 < W.heap.size
theorem fou_new (w : World) (v0 v1 u0 u1 : Value) : ∀ W, Below (w.heap.size + 2) ((w.alloc (.cells #[v0, v1] 30)).alloc (.cells #[u0, u1] 30)) W → Fou w.heap.size v0 v1 u0 u1 W := by
  intro W hW
  have g1 : ((w.alloc (.cells #[v0, v1] 30)).alloc (.cells #[u0, u1] 30)).heap[w.heap.size]? = some (.cells #[v0, v1] 30 (0, 0)) := by
    rw [Below.heap_alloc _ _ _ (by simp), heap_alloc_new]
  have g2 : ((w.alloc (.cells #[v0, v1] 30)).alloc (.cells #[u0, u1] 30)).heap[w.heap.size + 1]? = some (.cells #[u0, u1] 30 (0, 0)) := by
    have := heap_alloc_new (w.alloc (.cells #[v0, v1] 30)) (.cells #[u0, u1] 30)
    simpa using this
  have h1 := (hW.block w.heap.size (by omega)).trans g1
  have h2 := (hW.block (w.heap.size + 1) (by omega)).trans g2
  exact ⟨cell_row h1 0, cell_row h1 1, cell_row h2 0, cell_row h2 1, frozen_row h1 0, frozen_row h1 1, frozen_row h2 0, frozen_row h2 1, heap_lt h1, heap_lt h2⟩
set_option maxHeartbeats 1000000 in
theorem rtwinR_any (F : Nat → Prop) (k : Int) (a : Option Addr) (n c : Nat) (L : List (List Int)) (w : World) (h : RdL F w a n c L) (hs : sizeR L ≤ 1048576) :
    Calls Try.prog 21 #[rgV k a n c] w fun e w' => ∃ a' c', e = .returned (rgV k a' n c') ∧ FreshL w.heap.size w' a' n c' L ∧ Below w.heap.size w w' := by
  unfold rgV
  obtain ⟨wb, hwb⟩ : ∃ wb, (w.alloc (.cells #[.int .i64 k, .slice a n c] 30)).alloc (.cells #[.int .i64 0, .slice none 0 0] 30) = wb := ⟨_, rfl⟩
  have hfou := fou_new w (.int .i64 k) (.slice a n c) (.int .i64 0) (.slice none 0 0)
  rw [hwb] at hfou
  have hsz : wb.heap.size = w.heap.size + 2 := by rw [← hwb]; simp
  have hB : Below w.heap.size w wb := by rw [← hwb]; exact ((Below.refl _ _).alloc (Nat.le_refl _) _).alloc (by simp) _
  rw [← hsz] at hfou
  have HT : Hid (∀ W, Hid (Below wb.heap.size wb W) → Calls Try.prog 12 #[.slice a n c] W fun e w' => ∃ a' c', e = .returned (.slice a' n c') ∧ Fou w.heap.size (.int .i64 k) (.slice a n c) (.int .i64 0) (.slice none 0 0) w' ∧ Hid (FreshL wb.heap.size w' a' n c' L ∧ Below wb.heap.size wb w')) := by
    intro W hW
    have hs1 := hW.out.size
    refine (rtwin_any F a n c L W (h.below (hB.trans (hW.out.mono (by omega)))) hs).mono ?_
    rintro e w' ⟨a1, c1, rfl, hf, hb⟩
    have hb2 := hW.out.trans (hb.mono hs1)
    exact ⟨a1, c1, rfl, hfou w' hb2, hf.mono hs1, hb2⟩
  have hx := hfou wb (Below.refl _ _)
  have hxd := hfou wb.drew (Below.refl _ _).drew
  have HR0 : Hid (Below wb.heap.size wb wb) := Below.refl _ _
  have HR1 : Hid (Below wb.heap.size wb wb.drew) := (Below.refl _ _).drew
  have HB := Lib.hid (And.intro hB hsz)
  have HW := Lib.hid hwb
  clear h hwb hB hfou hsz
  obtain ⟨b, hbe⟩ : ∃ b, w.heap.size = b := ⟨_, rfl⟩
  have HBE := Lib.hid hbe
  rw [hbe] at hx hxd HT
  clear hbe
  obtain ⟨c0, c1, d0, d1, y0, y1, z0, z1, l0, l1⟩ := hx
  go_enter Try.func21, Try.ntmps21
  go_upto_region 1 with fail
  rw [HW.out, HBE.out]
  go_region_with (go_at_call 12; (with_reducible refine (HT.out _ (by first | exact HR0 | exact HR1)).mono ?_); rintro e w1 ⟨a1, m1, rfl, ⟨e0, e1, f0, f1, x0, x1, x2, x3, j0, j1⟩, q1⟩)
  all_goals
    go_wp2_with fail
    (try simp only [Exit.inBlock, Exit.then])
    refine bodyPost_ret (v := .agg #[.int .i64 k, .slice a1 n m1]) ?_ rfl ⟨_, _, rfl, ?_⟩
    · rw [results_cell1 rfl]
      go_simp
    · rw [← HBE.out]
      have hf : Fr (fun k => k = w.heap.size + 1) w1 ((w1.setCell ⟨w.heap.size + 1, 0, none⟩ (.int .i64 k)).setCell ⟨w.heap.size + 1, 1, none⟩ (.slice a1 n m1)) := ((Fr.refl (fun k => k = w.heap.size + 1) w1).setCell ⟨w.heap.size + 1, 0, none⟩ _ (fun _ => rfl)).setCell ⟨w.heap.size + 1, 1, none⟩ _ (fun _ => rfl)
      refine ⟨(q1.out.1.fr hf (fun k h1 h2 => by have := HB.out.2; omega)).mono (by have := HB.out.2; omega), ?_⟩
      have h2 := HB.out
      refine Below.setCell (Below.setCell (h2.1.trans (q1.out.2.mono (by omega))) ?_ _) ?_ _ <;> simp
set_option maxHeartbeats 1000000 in
theorem rsameR_any (F G : Nat → Prop) (k1 k2 : Int) (a1 a2 : Option Addr) (n1 n2 c1 c2 : Nat) (L M : List (List Int)) (w : World) (h1 : RdL F w a1 n1 c1 L) (h2 : RdL G w a2 n2 c2 M) :
    Calls Try.prog 15 #[rgV k1 a1 n1 c1, rgV k2 a2 n2 c2] w fun e w' => e = .returned (.bool (decide (k1 = k2) && decide (L = M))) ∧ Below w.heap.size w w' := by
  unfold rgV
  obtain ⟨wb, hwb⟩ : ∃ wb, (w.alloc (.cells #[.int .i64 k1, .slice a1 n1 c1] 30)).alloc (.cells #[.int .i64 k2, .slice a2 n2 c2] 30) = wb := ⟨_, rfl⟩
  have hfou := fou_new w (.int .i64 k1) (.slice a1 n1 c1) (.int .i64 k2) (.slice a2 n2 c2)
  rw [hwb] at hfou
  have hsz : wb.heap.size = w.heap.size + 2 := by rw [← hwb]; simp
  have hB : Below w.heap.size w wb := by rw [← hwb]; exact ((Below.refl _ _).alloc (Nat.le_refl _) _).alloc (by simp) _
  rw [← hsz] at hfou
  have HS := Lib.hid (rsame_any F G a1 a2 n1 n2 c1 c2 L M wb (h1.below hB) (h2.below hB))
  have hx := hfou wb (Below.refl _ _)
  have HB := Lib.hid (And.intro hB hsz)
  have HW := Lib.hid hwb
  clear h1 h2 hwb hB hfou hsz
  obtain ⟨b, hbe⟩ : ∃ b, w.heap.size = b := ⟨_, rfl⟩
  have HBE := Lib.hid hbe
  rw [hbe] at hx
  clear hbe
  obtain ⟨c0, c1', d0, d1, y0, y1, z0, z1, l0, l1⟩ := hx
  by_cases hk : k1 = k2
  · have q : (k1 == k2) = true := by simpa using hk
    have HK := Lib.hid hk
    clear hk
    go_enter Try.func15, Try.ntmps15
    go_upto_region 1 with fail
    rw [HW.out, HBE.out]
    go_wp2_with (go_at_call 16; refine HS.out.mono ?_; rintro e w1 ⟨rfl, hbw⟩)
    go_ret
    exact ⟨ret_boolG (by simp [HK.out]), HB.out.1.trans (hbw.mono (by have := HB.out.2; omega))⟩
  · have q : (k1 == k2) = false := by simpa using hk
    have HK := Lib.hid hk
    clear hk
    go_enter Try.func15, Try.ntmps15
    go_upto_region 1 with fail
    rw [HW.out, HBE.out]
    go_wp2_with fail
    go_ret
    exact ⟨ret_boolG (by simp [HK.out]), HB.out.1⟩
section
open Go.RowKit Go.ChangeShapes Go.WideShapes Go.Deep
def i64bG (i : Int) : Prop := -9223372036854775808 ≤ i ∧ i ≤ 9223372036854775807
end
section
open Go.RowKit Go.ChangeShapes Go.WideShapes Go.Deep
theorem wf_i64bG {i : Int} (h : (Lit.int .i64 i).wf = true) : i64bG i := wf_i64_in h
end
section
open Go.RowKit Go.ChangeShapes Go.WideShapes Go.Deep
/-- what a register holds, in two cells -/
def IsRg (w : World) (cs : List Value) : Prop := ∃ (k : Int) (a : Option Addr) (n c : Nat) (L : List (List Int)), cs = [.int .i64 k, .slice a n c] ∧ i64bG k ∧ RdL (fun k => k < w.heap.size) w a n c L ∧ WideL L
end
section
open Go.RowKit Go.ChangeShapes Go.WideShapes Go.Deep
variable {H : Type} {enc : TypeId × Value → H} {w : World} {base : Nat} {held : Bool}
theorem reg_ofW {m : Nat} {cs : List Value} {y : DataW H × List MemPlace} (h : DataW.trod enc Try.prog w base (fun _ => true) held m 30 cs = some y) (hL : Lite 30 y.1) : IsRg w cs := by
  have hC : Try.prog.cellsOf 30 = 2 := by kernel_rfl
  obtain ⟨ys, n', _, hy, hcl, hyl, hf⟩ := DataW.trod_struct Try.underlying30 h
  rw [hC] at hcl
  obtain ⟨v0, v1, rfl⟩ := two hcl
  obtain ⟨y0, y1, rfl⟩ := two (l := ys) hyl
  have g0 : DataW.trod enc Try.prog w base (fun _ => true) held n' 3 [v0] = some y0 := hf 0 _ rfl
  have g1 : DataW.trod enc Try.prog w base (fun _ => true) held n' 22 [v1] = some y1 := hf 1 _ rfl
  obtain ⟨p, e0, _, w0⟩ := DataW.trod_int Try.underlying3 g0
  obtain ⟨a, n, c, L, rfl, hLr, s1⟩ := open_linesW g1
  simp at e0
  subst e0
  rw [hy] at hL
  have l1 : Lite 22 y1.1 := fun x hx => hL x (by
    simp only [DataW.weights, Try.underlying30]
    exact DataW.weights_mem_each (j := 1) (t := 22) (d := y1.1) rfl rfl x hx)
  exact ⟨p, a, n, c, L, rfl, wf_i64bG w0, hLr, s1 l1⟩
end
end Go.Proofs.Ytfldjoiohejilaa.U
