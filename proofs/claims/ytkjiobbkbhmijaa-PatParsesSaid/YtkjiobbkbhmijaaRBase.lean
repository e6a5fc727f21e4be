/-
  Picked by wip/tools/pick.py: what other layers use of lines, rows and their readings.
-/
import Derived.Test.YtkjiobbkbhmijaaChecked
import Derived.Test.YtkjiobbkbhmijaaUBase
import Derived.Test.YtkjiobbkbhmijaaPFr
import Derived.RegionTactic
import Derived.Deep.RegionWith
import Derived.Deep.RegionLaw
import Derived.Deep.QuietTactic
import Derived.BigQuiet
import Derived.Deep.RegionHeld3
import Derived.BigRegion
import Derived.Deep.DeepCutAuto
import Derived.Lib.AppendZeros
import Derived.StillTailTactics
import Derived.ChangeSlices
import Derived.ChangeSame
import Derived.Deep.Slices
import Derived.Deep.Fields
import Derived.Lib.SmallJoins
import Derived.SizedLaws
namespace Go.Proofs.Ytkjiobbkbhmijaa.U
open Go.RowKit
set_option linter.unusedVariables false
set_option linter.unusedSimpArgs false
set_option maxRecDepth 100000

theorem own_some {w : World} {B : Nat} {e : TypeId} {s : Nat} {a : Option Addr} {n c m : Nat} {xs : List Value} (h : w.ownsRow B e s (.slice a n c) m xs) (hn : 0 < n) : ∃ g, a = some ⟨g, 0, none⟩ := by
  rcases h.2 with ⟨hv, _⟩ | ⟨g, cap, cur, hv, _⟩
  · simp only [Value.slice.injEq] at hv; omega
  · simp only [Value.slice.injEq] at hv; exact ⟨g, hv.1⟩
theorem infoI : (Try.prog.info? 21).map (fun i => (i.zero, i.size, i.bytes)) = some (some (.int .i32 0), 1, 4) := by kernel_rfl
/-- what can be read, as cells -/
theorem Rd_cells {k : IntKind} {w : World} {a : Option Addr} {n c : Nat} {ys : List Int} (h : Rd k w a n c ys) (hp : 0 < n) : ∃ ad, a = some ad ∧ ∀ j v, (ys.map (Value.int k))[j]? = some v → w.cell? (ad.add j) = some v := by
  obtain ⟨r1, r2, r3, r4, r6, r5⟩ := h
  obtain ⟨b, off, ha, hc⟩ := r5 hp
  refine ⟨_, ha, fun j u hu => ?_⟩
  rw [List.getElem?_map] at hu
  by_cases hj : j < ys.length
  · rw [List.getElem?_eq_getElem hj] at hu
    simp only [Option.map_some, Option.some.injEq] at hu
    subst hu
    have := hc j (by omega)
    rw [List.getD_eq_getElem?_getD, List.getElem?_eq_getElem hj] at this
    rw [add_lit]
    exact this
  · rw [List.getElem?_eq_none (by omega)] at hu; simp at hu
theorem ints1 (k : IntKind) (xs : List Int) : ∀ v ∈ xs.map (Value.int k), v.oneCell' = true := by
  intro v hv
  simp only [List.mem_map] at hv
  obtain ⟨x, _, rfl⟩ := hv
  rfl
def ints (xs : List Int) : List Value := xs.map (Value.int .i32)
/-- append of what can be read onto what was made since block B -/
theorem app_rd (w : World) (B : Nat) (v : Value) (n : Nat) (xs : List Int) (a : Option Addr) (m c : Nat) (ys : List Int) (h : w.ownsRow B 21 1 v n (ints xs)) (hB : B ≤ w.heap.size) (hr : Rd .i32 w a m c ys) (hb : n + m ≤ 17592186044416) :
    ∃ a' c' w', (∀ ty, (Builtin.append_ #[22, 22] ty #[v, .slice a m c]).run Try.prog w = .ok (.slice a' (n + m) c') w') ∧ w'.ownsRow B 21 1 (.slice a' (n + m) c') (n + m) (ints (xs ++ ys)) ∧ Below B w w' := by
  obtain ⟨i0, hi0, hz0, hz1, hz2⟩ := info_parts infoI
  obtain ⟨v', w', hrun, hown, hfr, hnear⟩ := run_append_own_k (P := Try.prog) w B 22 21 i0 _ 1 4 Try.underlying22 hi0 hz0 hz1 hz2 rfl (by decide) v n _ h a m c (ints ys) (by simpa [ints] using hr.1) (fun hp => Rd_cells hr hp) (ints1 _ _) (by unfold maxLen; omega) (by omega) hB
  obtain ⟨a', c', rfl⟩ := own_slice hown
  refine ⟨a', c', w', hrun, ?_, hfr.below hB (fun k e => (h.lt k e.symm).1)⟩
  unfold ints at hown ⊢
  rw [List.map_append]
  exact hown
/-- append of what can be read onto a fresh empty row -/
theorem app_lit (w : World) (a : Option Addr) (m c : Nat) (ys : List Int) (hr : Rd .i32 w a m c ys) (hb : m ≤ 17592186044416) :
    ∃ a' c' w', (∀ ty, (Builtin.append_ #[22, 22] ty #[.slice (some ⟨w.heap.size, 0, none⟩) 0 0, .slice a m c]).run Try.prog (w.alloc (.cells #[] 21)) = .ok (.slice a' m c') w') ∧ w'.ownsRow w.heap.size 21 1 (.slice a' m c') m (ints ys) ∧ Below w.heap.size w w' := by
  have hb0 : Below w.heap.size w (w.alloc (.cells #[] 21)) := (Below.refl _ w).alloc (Nat.le_refl _) _
  obtain ⟨a', c', w', hrun, ho, hb'⟩ := app_rd (w.alloc (.cells #[] 21)) w.heap.size (.slice (some ⟨w.heap.size, 0, none⟩) 0 0) 0 [] a m c ys (World.ownsRow_lit w #[] 0 (Nat.le_refl _) (Nat.zero_le _) rfl) (by simp) (hr.below hb0) (by omega)
  rw [Nat.zero_add] at hrun ho
  exact ⟨a', c', w', hrun, by simpa using ho, hb0.trans hb'⟩
theorem Rd_new (k : IntKind) (w : World) (xs : List Int) (cs : Array Value) (e : TypeId) (n : Nat) (hc : cs = (xs.map (Value.int k)).toArray) (hn : xs.length = n) (hm : n ≤ maxLen) (hw : ∀ x ∈ xs, (Lit.int k x).wf = true) :
    Rd k (w.alloc (.cells cs e)) (some ⟨w.heap.size, 0, none⟩) n n xs := by
  subst hc
  refine ⟨hn, Nat.le_refl _, hm, hw, (fun h => by cases h), fun _ => ⟨_, 0, rfl, fun i hi => ?_⟩⟩
  rw [cell_of_row _ _ _ _ _ _ (heap_alloc_new w _), Nat.zero_add]
  simp only [List.getElem?_toArray, List.getElem?_map]
  rw [List.getElem?_eq_getElem (by omega), List.getD_eq_getElem?_getD, List.getElem?_eq_getElem (by omega)]
  rfl
theorem runes_same (a1 a2 : Option Addr) (len c1 c2 : Nat) (xs : List Int) (w : World) (h1 : Rd .i32 w a1 len c1 xs) (h2 : Rd .i32 w a2 len c2 xs) :
    Calls Try.prog 13 #[.slice a1 len c1, .slice a2 len c2] w fun e w' => e = .returned (.bool true) ∧ Below w.heap.size w w' := by
  have hsm := h1.small
  have heq : ((len : Int) != (len : Int)) = false := by simp
  by_cases h0 : len = 0
  · subst h0
    go_enter Try.func13, Try.ntmps13
    go_wp2_with fail
    go_loopw [5] (fun i wr => i = .int .i64 0 ∧ wr = w) (fun _ _ => 0)
    case atStart => exact ⟨rfl, rfl⟩
    case round =>
      obtain ⟨rfl, rfl⟩ := hrel
      go_wp2
      go_ret
      exact ⟨rfl, Below.refl _ _⟩
  · obtain ⟨p1, o1, rfl, hc1⟩ := h1.2.2.2.2.2 (by omega)
    obtain ⟨p2, o2, rfl, hc2⟩ := h2.2.2.2.2.2 (by omega)
    have hp1 := block_lt_of_cell (hc1 0 (by omega))
    have hp2 := block_lt_of_cell (hc2 0 (by omega))
    have HC1 := Lib.hid hc1; clear hc1
    have HC2 := Lib.hid hc2; clear hc2
    clear h1 h2
    go_enter Try.func13, Try.ntmps13
    go_wp2_with fail
    go_loopw [5] (fun i wr => ∃ k : Nat, k ≤ len ∧ i = .int .i64 k ∧ Below w.heap.size w wr) (fun i _ => len - (intOf i).toNat)
    case atStart => exact ⟨0, by omega, rfl, Below.refl _ _⟩
    case round =>
      obtain ⟨k, hk, rfl, hbl⟩ := hrel
      by_cases hlt : k < len
      · have e1 := (hbl.cell (p := ⟨p1, o1 + k, none⟩) hp1).trans (HC1.out k hlt)
        have e2 := (hbl.cell (p := ⟨p2, o2 + k, none⟩) hp2).trans (HC2.out k hlt)
        obtain ⟨x, hx⟩ : ∃ x, xs.getD k 0 = x := ⟨_, rfl⟩
        rw [hx] at e1 e2
        clear hx
        have hxx : (x != x) = false := by simp
        go_wp2_with fail
        go_quiet (fail)
        go_wp2_with fail
        go_roundw
        case rel => exact ⟨k + 1, by omega, by go_num, bdrewN hbl _⟩
        case measure => simp [intOf]; omega
      · obtain rfl : k = len := by omega
        go_wp2
        go_ret
        exact ⟨rfl, hbl⟩
/-- what is read lies in the blocks of F -/
def InF (F : Nat → Prop) (a : Option Addr) (n : Nat) : Prop := 0 < n → ∀ ad, a = some ad → F ad.block
theorem InF.mono {F G : Nat → Prop} {a : Option Addr} {n : Nat} (h : InF F a n) (hg : ∀ k, F k → G k) : InF G a n := fun hn ad e => hg _ (h hn ad e)
theorem InF.zero (F : Nat → Prop) (a : Option Addr) : InF F a 0 := fun h => absurd h (by omega)
theorem InF.at_ {F : Nat → Prop} {a : Option Addr} {n b off : Nat} (h : InF F a n) (hn : 0 < n) (e : a = some ⟨b, off, none⟩) : F b := h hn _ e
theorem InF.take {F : Nat → Prop} {a : Option Addr} {n m : Nat} (h : InF F a n) (hm : m ≤ n) : InF F a m := fun hp => h (by omega)
theorem add_block (ad : Addr) (j : Nat) : (ad.add j).block = ad.block := by unfold Addr.add; split <;> rfl
theorem InF.drop {F : Nat → Prop} {a : Option Addr} {n m c : Nat} (h : InF F a n) (hm : m ≤ n) : InF F (if c = m then a else a.map (·.add (m * 1))) (n - m) := by
  intro hp ad e
  split at e
  · exact h (by omega) ad e
  · cases a with
    | none => simp at e
    | some a0 =>
      simp only [Option.map_some, Option.some.injEq] at e
      subst e
      rw [add_block]
      exact h (by omega) _ rfl
theorem InF.own {F : Nat → Prop} {w : World} {B : Nat} {e : TypeId} {s : Nat} {a : Option Addr} {n c m : Nat} {xs : List Value} (h : w.ownsRow B e s (.slice a n c) m xs) (hk : ∀ k, (Value.slice a n c).ownBlock = some k → F k) : InF F a n := by
  intro hn ad e
  obtain ⟨g, rfl⟩ := own_some h hn
  cases e
  exact hk g rfl
theorem Rd.frF {F G : Nat → Prop} {k w w' a n c xs} (h : Rd k w a n c xs) (hi : InF F a n) (hf : Fr G w w') (hd : ∀ k, F k → ¬ G k) : Rd k w' a n c xs := by
  obtain ⟨h1, h2, h3, h4, h6, h5⟩ := h
  refine ⟨h1, h2, h3, h4, h6, fun hp => ?_⟩
  obtain ⟨b, off, ha, hc⟩ := h5 hp
  refine ⟨b, off, ha, fun i hlt => ?_⟩
  rw [World.cell?_of_block (a := ⟨b, off + i, none⟩) (hf.block b (block_lt_of_cell (hc i hlt)) (hd b (hi.at_ hp ha)))]
  exact hc i hlt
/-- A slice of elements of sz cells that can be read. -/
def Rc (w : World) (a : Option Addr) (len cap sz : Nat) (xs : List Value) : Prop :=
  xs.length = len * sz ∧ len ≤ cap ∧ cap ≤ maxLen ∧ (a = none → cap = 0) ∧
  (0 < len → ∃ b off, a = some ⟨b, off, none⟩ ∧ b < w.heap.size ∧ ∀ j u, xs[j]? = some u → w.cell? ⟨b, off + j, none⟩ = some u)
theorem Rc.small {w a len cap sz xs} (h : Rc w a len cap sz xs) : len ≤ 9223372036854775807 := by have := h.2.1; have := h.2.2.1; unfold maxLen at this; omega
theorem Rc.none0 (w : World) (sz : Nat) : Rc w none 0 0 sz [] := ⟨by simp, Nat.le_refl _, Nat.zero_le _, fun _ => rfl, fun h => by omega⟩
theorem Rc.frF {F G : Nat → Prop} {w w' a n c sz xs} (h : Rc w a n c sz xs) (hi : InF F a n) (hf : Fr G w w') (hd : ∀ k, F k → ¬ G k) : Rc w' a n c sz xs := by
  obtain ⟨h1, h2, h3, h6, h5⟩ := h
  refine ⟨h1, h2, h3, h6, fun hp => ?_⟩
  obtain ⟨b, off, ha, hb, hc⟩ := h5 hp
  refine ⟨b, off, ha, Nat.lt_of_lt_of_le hb hf.size, fun j u hu => ?_⟩
  rw [World.cell?_of_block (a := ⟨b, off + j, none⟩) (hf.block b hb (hd b (hi.at_ hp ha)))]
  exact hc j u hu
theorem Rc.below {w w' a n c sz xs} (h : Rc w a n c sz xs) (hb : Below w.heap.size w w') : Rc w' a n c sz xs := by
  obtain ⟨h1, h2, h3, h6, h5⟩ := h
  refine ⟨h1, h2, h3, h6, fun hp => ?_⟩
  obtain ⟨b, off, ha, hbl, hc⟩ := h5 hp
  exact ⟨b, off, ha, Nat.lt_of_lt_of_le hbl hb.size, fun j u hu => (hb.cell (p := ⟨b, off + j, none⟩) hbl).trans (hc j u hu)⟩
theorem Rc.own {w : World} {B : Nat} {e : TypeId} {a : Option Addr} {n cap m sz : Nat} {xs : List Value} (h : w.ownsRow B e sz (.slice a n cap) m xs) : Rc w a n cap sz xs := by
  obtain ⟨h1, h2⟩ := h
  rcases h2 with ⟨hv, hn⟩ | ⟨g, c, cur, hv, hg, hh, hnc, hcm, hcs, hx⟩
  · simp only [Value.slice.injEq] at hv
    obtain ⟨rfl, rfl, rfl⟩ := hv
    exact ⟨by rw [h1, hn], Nat.le_refl _, Nat.zero_le _, fun _ => rfl, fun h => by omega⟩
  · simp only [Value.slice.injEq] at hv
    obtain ⟨rfl, rfl, rfl⟩ := hv
    refine ⟨?_, hnc, hcm, (fun hn0 => by cases hn0), fun hp => ⟨g, 0, rfl, heap_lt hh, fun j u hu => ?_⟩⟩
    · rw [← hx, List.length_take, Array.length_toList, hcs]
      exact Nat.min_eq_left (Nat.mul_le_mul_right _ hnc)
    · have hj := (List.getElem?_eq_some_iff.1 hu).1
      have hxl : xs.length ≤ n * sz := by rw [← hx]; simp; omega
      rw [cell_of_row w g (0 + j) cur e (0, 0) hh, Nat.zero_add, ← hu, ← hx, List.getElem?_take, if_pos (by omega), ← Array.getElem?_toList]
theorem Rc.src {w : World} {a : Option Addr} {n cap sz : Nat} {xs : List Value} (h : Rc w a n cap sz xs) (hn : 0 < n) : ∃ ad, a = some ad ∧ ∀ j u, xs[j]? = some u → w.cell? (ad.add j) = some u := by
  obtain ⟨b, off, ha, hb, hc⟩ := h.2.2.2.2 hn
  exact ⟨_, ha, fun j u hu => by rw [add_lit]; exact hc j u hu⟩
theorem Rc.take {w a n cap xs} (h : Rc w a n cap 1 xs) (m : Nat) (hm : m ≤ n) : Rc w a m cap 1 (xs.take m) := by
  obtain ⟨h1, h2, h3, h6, h5⟩ := h
  refine ⟨by rw [List.length_take]; omega, by omega, h3, h6, fun hp => ?_⟩
  obtain ⟨b, off, ha, hb, hc⟩ := h5 (by omega)
  refine ⟨b, off, ha, hb, fun j u hu => hc j u ?_⟩
  rw [List.getElem?_take] at hu
  split at hu
  · exact hu
  · cases hu
theorem Rc.drop {w a n cap xs} (h : Rc w a n cap 1 xs) (m : Nat) (hm : m ≤ n) : Rc w (if cap = m then a else a.map (·.add (m * 1))) (n - m) (cap - m) 1 (xs.drop m) := by
  obtain ⟨h1, h2, h3, h6, h5⟩ := h
  refine ⟨by rw [List.length_drop]; omega, by omega, by omega, fun hn => ?_, fun hp => ?_⟩
  · have : a = Option.none := by
      split at hn
      · exact hn
      · simpa using hn
    have := h6 this; omega
  obtain ⟨b, off, ha, hb, hc⟩ := h5 (by omega)
  refine ⟨b, off + m, ?_, hb, fun j u hu => ?_⟩
  · rw [if_neg (by omega), ha]; simp [Addr.add]
  · rw [Nat.add_assoc]; exact hc (m + j) u (by rw [List.getElem?_drop] at hu; exact hu)
theorem Rc.at_ {w a n cap sz xs} (h : Rc w a n cap sz xs) (hn : 0 < n) : ∃ b off, a = some ⟨b, off, none⟩ ∧ b < w.heap.size ∧ ∀ j u, xs[j]? = some u → w.cell? ⟨b, off + j, none⟩ = some u := h.2.2.2.2 hn
theorem Rd.rc {k w a n c xs} (h : Rd k w a n c xs) : Rc w a n c 1 (xs.map (Value.int k)) := by
  obtain ⟨h1, h2, h3, h4, h6, h5⟩ := h
  refine ⟨by simp [h1], h2, h3, h6, fun hp => ?_⟩
  obtain ⟨b, off, ha, hc⟩ := h5 hp
  refine ⟨b, off, ha, block_lt_of_cell (hc 0 hp), fun j u hu => ?_⟩
  rw [List.getElem?_map] at hu
  by_cases hj : j < xs.length
  · rw [List.getElem?_eq_getElem hj] at hu
    simp only [Option.map_some, Option.some.injEq] at hu
    subst hu
    have := hc j (by omega)
    rw [List.getD_eq_getElem?_getD, List.getElem?_eq_getElem hj] at this
    exact this
  · rw [List.getElem?_eq_none (by omega)] at hu; simp at hu
theorem results_ct {fn : Func} {p q : Tmp} {ty : TypeId} (h : fn.results = #[.cell p ty, .tmp q]) (tmps : Array Value) (P : Program) (w : World) :
    (results fn tmps).run P w = ((asAddr (tmps.getD p undef)).run P w).andThen fun a w₁ => ((loadVar ty a).run P w₁).andThen fun v w₂ => .ok (.tuple #[v, tmps.getD q undef]) w₂ := by
  simp only [results, h]
  simp [Sem.run_bind, Result.andThen]
/-- two rows of one length: are they the same? -/
theorem runes_eqlen (a1 a2 : Option Addr) (len c1 c2 : Nat) (xs ys : List Int) (w : World) (h1 : Rd .i32 w a1 len c1 xs) (h2 : Rd .i32 w a2 len c2 ys) :
    Calls Try.prog 13 #[.slice a1 len c1, .slice a2 len c2] w fun e w' => e = .returned (.bool (decide (xs = ys))) ∧ Below w.heap.size w w' := by
  have hsm := h1.small
  have hl1 := h1.1
  have hl2 := h2.1
  have heq : ((len : Int) != (len : Int)) = false := by simp
  by_cases h0 : len = 0
  · subst h0
    have e1 : xs = [] := List.eq_nil_of_length_eq_zero hl1
    have e2 : ys = [] := List.eq_nil_of_length_eq_zero hl2
    subst e1 e2
    exact runes_same a1 a2 0 c1 c2 [] w h1 h2
  · obtain ⟨p1, o1, rfl, hc1⟩ := h1.2.2.2.2.2 (by omega)
    obtain ⟨p2, o2, rfl, hc2⟩ := h2.2.2.2.2.2 (by omega)
    have hp1 := block_lt_of_cell (hc1 0 (by omega))
    have hp2 := block_lt_of_cell (hc2 0 (by omega))
    have HC1 := Lib.hid hc1; clear hc1
    have HC2 := Lib.hid hc2; clear hc2
    have HL1 := Lib.hid hl1; clear hl1
    have HL2 := Lib.hid hl2; clear hl2
    clear h1 h2
    go_enter Try.func13, Try.ntmps13
    go_wp2_with fail
    go_loopw [5] (fun i wr => ∃ k : Nat, k ≤ len ∧ i = .int .i64 k ∧ Hid (xs.take k = ys.take k) ∧ Below w.heap.size w wr) (fun i _ => len - (intOf i).toNat)
    case atStart => exact ⟨0, by omega, rfl, rfl, Below.refl _ _⟩
    case round =>
      obtain ⟨k, hk, rfl, hsame, hbl⟩ := hrel
      by_cases hlt : k < len
      · have e1 := (hbl.cell (p := ⟨p1, o1 + k, none⟩) hp1).trans (HC1.out k hlt)
        have e2 := (hbl.cell (p := ⟨p2, o2 + k, none⟩) hp2).trans (HC2.out k hlt)
        have hkx : k < xs.length := by have := HL1.out; omega
        have hky : k < ys.length := by have := HL2.out; omega
        obtain ⟨x, hx⟩ : ∃ x, xs[k]? = some x := ⟨_, List.getElem?_eq_getElem hkx⟩
        obtain ⟨y, hy⟩ : ∃ y, ys[k]? = some y := ⟨_, List.getElem?_eq_getElem hky⟩
        rw [List.getD_eq_getElem?_getD, hx, Option.getD_some] at e1
        rw [List.getD_eq_getElem?_getD, hy, Option.getD_some] at e2
        by_cases hxy : x = y
        · subst hxy
          have hxx : (x != x) = false := by simp
          have HN : Hid (xs.take (k + 1) = ys.take (k + 1)) := by
            have q1 := (List.getElem?_eq_some_iff.1 hx).2
            have q2 := (List.getElem?_eq_some_iff.1 hy).2
            show _ = _
            rw [List.take_succ_eq_append_getElem hkx, List.take_succ_eq_append_getElem hky, q1, q2, hsame.out]
          clear hx hy hsame
          go_wp2_with fail
          go_quiet (fail)
          go_wp2_with fail
          go_roundw
          case rel => exact ⟨k + 1, by omega, by go_num, HN, bdrewN hbl _⟩
          case measure => simp [intOf]; omega
        · have hxx : (x != y) = true := by simpa using hxy
          have HF : Hid (decide (xs = ys) = false) := by
            rw [Hid, decide_eq_false_iff_not]
            intro e
            rw [e, hy] at hx
            injection hx with hx
            exact hxy hx.symm
          clear hx hy hsame
          go_wp2_with fail
          go_quiet (fail)
          go_wp2_with fail
          go_ret
          exact ⟨by rw [HF.out]; rfl, bdrewN hbl _⟩
      · obtain rfl : k = len := by omega
        have HF : Hid (decide (xs = ys) = true) := by
          have := hsame.out
          rw [List.take_of_length_le (by have := HL1.out; omega), List.take_of_length_le (by have := HL2.out; omega)] at this
          rw [Hid, decide_eq_true_eq]
          exact this
        clear hsame
        go_wp2
        go_ret
        exact ⟨by rw [HF.out]; rfl, hbl⟩
theorem runes_any (a1 a2 : Option Addr) (n1 n2 c1 c2 : Nat) (xs ys : List Int) (w : World) (h1 : Rd .i32 w a1 n1 c1 xs) (h2 : Rd .i32 w a2 n2 c2 ys) :
    Calls Try.prog 13 #[.slice a1 n1 c1, .slice a2 n2 c2] w fun e w' => e = .returned (.bool (decide (xs = ys))) ∧ Below w.heap.size w w' := by
  by_cases hn : n1 = n2
  · subst hn; exact runes_eqlen a1 a2 n1 c1 c2 xs ys w h1 h2
  · have hne : ((n1 : Int) != (n2 : Int)) = true := by simp; omega
    have hf : decide (xs = ys) = false := by
      rw [decide_eq_false_iff_not]
      intro e
      have := congrArg List.length e
      have := h1.1
      have := h2.1
      omega
    have s1 := h1.small
    have s2 := h2.small
    rw [hf]
    clear h1 h2 hf
    go_enter Try.func13, Try.ntmps13
    go_wp2_with fail
    go_ret
    exact ⟨rfl, Below.refl _ _⟩
section
open Go.RowKit Go.ChangeShapes Go.WideShapes Go.Deep
/-- A slice as the frame opens it can be read. -/
theorem Rd_of_row {k : IntKind} {w : World} {a : Option Addr} {len cap : Nat} {zs : List Int}
    (h : (a = none ∧ len = 0 ∧ cap = 0 ∧ zs = []) ∨ ∃ x, a = some x ∧ len ≤ cap ∧ cap ≤ maxLen ∧ zs.length = cap ∧ (∀ i, i < zs.length → w.cell? (x.add i) = some (.int k (zs.getD i 0))) ∧ ∀ n ∈ zs, (Lit.int k n).wf = true) :
    Rd k w a len cap (zs.take len) := by
  rcases h with ⟨rfl, rfl, rfl, rfl⟩ | ⟨x, rfl, hl, hm, hz, hc, hw⟩
  · exact Rd.none0 _ _
  · refine ⟨by rw [List.length_take]; omega, hl, hm, fun y hy => hw y (List.mem_of_mem_take hy), (fun h => by cases h), fun hp => ?_⟩
    obtain ⟨b, off, spot⟩ := x
    have h0 := hc 0 (by omega)
    have hspot : spot = none := by simpa [Addr.add] using World.cell?_spot h0
    subst hspot
    refine ⟨b, off, rfl, fun i hi => ?_⟩
    have h1 := hc i (by omega)
    have he : (⟨b, off, none⟩ : Addr).add i = ⟨b, off + i, none⟩ := by
      by_cases h0 : i = 0
      · subst h0; rfl
      · simp [Addr.add]; intro hj; exact absurd hj h0
    rw [he] at h1
    rw [h1]
    simp [List.getD_eq_getElem?_getD, List.getElem?_take, hi]
end
section
open Go.RowKit Go.ChangeShapes Go.WideShapes Go.Deep
open Go.RowKit Go.ChangeShapes Go.WideShapes Go.Deep
open Go.RowKit Go.ChangeShapes Go.WideShapes Go.Deep
/-- what is read lies in the heap -/
theorem Rd.inHeap {k : IntKind} {w : World} {a : Option Addr} {len cap : Nat} {xs : List Int} (h : Rd k w a len cap xs) : InF (fun k => k < w.heap.size) a len := by
  intro hp ad e
  obtain ⟨b, off, e2, hc⟩ := h.2.2.2.2.2 hp
  rw [e] at e2
  cases e2
  exact block_lt_of_cell (hc 0 hp)
end
section
open Go.RowKit Go.ChangeShapes Go.WideShapes Go.Deep
open Go.RowKit Go.ChangeShapes Go.WideShapes Go.Deep
open Go.RowKit Go.ChangeShapes Go.WideShapes Go.Deep
open Go.RowKit Go.ChangeShapes Go.WideShapes Go.Deep
open Go.RowKit Go.ChangeShapes Go.WideShapes Go.Deep
open Go.RowKit Go.ChangeShapes Go.WideShapes Go.Deep
variable {H : Type} {enc : TypeId × Value → H} {w : World} {base : Nat} {held : Bool}
theorem two {α : Type} {l : List α} (h : l.length = 2) : ∃ a b, l = [a, b] := by
  match l, h with
  | [a, b], _ => exact ⟨a, b, rfl⟩
end
section
open Go.RowKit Go.ChangeShapes Go.WideShapes Go.Deep
open Go.RowKit Go.ChangeShapes Go.WideShapes Go.Deep
open Go.RowKit Go.ChangeShapes Go.WideShapes Go.Deep
open Go.RowKit Go.ChangeShapes Go.WideShapes Go.Deep
open Go.RowKit Go.ChangeShapes Go.WideShapes Go.Deep
open Go.RowKit Go.ChangeShapes Go.WideShapes Go.Deep
open Go.RowKit Go.ChangeShapes Go.WideShapes Go.Deep
open Go.RowKit Go.ChangeShapes Go.WideShapes Go.Deep
open Go.RowKit Go.ChangeShapes Go.WideShapes Go.Deep
open Go.RowKit Go.ChangeShapes Go.WideShapes Go.Deep
open Go.RowKit Go.ChangeShapes Go.WideShapes Go.Deep
open Go.RowKit Go.ChangeShapes Go.WideShapes Go.Deep
open Go.RowKit Go.ChangeShapes Go.WideShapes Go.Deep
open Go.RowKit Go.ChangeShapes Go.WideShapes Go.Deep
open Go.RowKit Go.ChangeShapes Go.WideShapes Go.Deep
open Go.RowKit Go.ChangeShapes Go.WideShapes Go.Deep
open Go.RowKit Go.ChangeShapes Go.WideShapes Go.Deep
open Go.RowKit Go.ChangeShapes Go.WideShapes Go.Deep
open Go.RowKit Go.ChangeShapes Go.WideShapes Go.Deep
open Go.RowKit Go.ChangeShapes Go.WideShapes Go.Deep
open Go.RowKit Go.ChangeShapes Go.WideShapes Go.Deep
open Go.RowKit Go.ChangeShapes Go.WideShapes Go.Deep
open Go.RowKit Go.ChangeShapes Go.WideShapes Go.Deep
variable {H : Type} {enc : TypeId × Value → H} {w : World} {base : Nat} {held : Bool}
/-- all that is read weighs no more than the reach -/
def Lite (t : TypeId) (d : DataW H) : Prop := ∀ n ∈ d.weights Try.prog t, n ≤ reachBytes
end
section
open Go.RowKit Go.ChangeShapes Go.WideShapes Go.Deep
open Go.RowKit Go.ChangeShapes Go.WideShapes Go.Deep
open Go.RowKit Go.ChangeShapes Go.WideShapes Go.Deep
open Go.RowKit Go.ChangeShapes Go.WideShapes Go.Deep
open Go.RowKit Go.ChangeShapes Go.WideShapes Go.Deep
open Go.RowKit Go.ChangeShapes Go.WideShapes Go.Deep
open Go.RowKit Go.ChangeShapes Go.WideShapes Go.Deep
open Go.RowKit Go.ChangeShapes Go.WideShapes Go.Deep
open Go.RowKit Go.ChangeShapes Go.WideShapes Go.Deep
open Go.RowKit Go.ChangeShapes Go.WideShapes Go.Deep
open Go.RowKit Go.ChangeShapes Go.WideShapes Go.Deep
open Go.RowKit Go.ChangeShapes Go.WideShapes Go.Deep
open Go.RowKit Go.ChangeShapes Go.WideShapes Go.Deep
open Go.RowKit Go.ChangeShapes Go.WideShapes Go.Deep
open Go.RowKit Go.ChangeShapes Go.WideShapes Go.Deep
open Go.RowKit Go.ChangeShapes Go.WideShapes Go.Deep
open Go.RowKit Go.ChangeShapes Go.WideShapes Go.Deep
open Go.RowKit Go.ChangeShapes Go.WideShapes Go.Deep
open Go.RowKit Go.ChangeShapes Go.WideShapes Go.Deep
open Go.RowKit Go.ChangeShapes Go.WideShapes Go.Deep
open Go.RowKit Go.ChangeShapes Go.WideShapes Go.Deep
open Go.RowKit Go.ChangeShapes Go.WideShapes Go.Deep
open Go.RowKit Go.ChangeShapes Go.WideShapes Go.Deep
open Go.RowKit Go.ChangeShapes Go.WideShapes Go.Deep
open Go.RowKit Go.ChangeShapes Go.WideShapes Go.Deep
open Go.RowKit Go.ChangeShapes Go.WideShapes Go.Deep
open Go.RowKit Go.ChangeShapes Go.WideShapes Go.Deep
open Go.RowKit Go.ChangeShapes Go.WideShapes Go.Deep
open Go.RowKit Go.ChangeShapes Go.WideShapes Go.Deep
open Go.RowKit Go.ChangeShapes Go.WideShapes Go.Deep
open Go.RowKit Go.ChangeShapes Go.WideShapes Go.Deep
open Go.RowKit Go.ChangeShapes Go.WideShapes Go.Deep
variable {H : Type} {enc : TypeId × Value → H} {w : World} {base : Nat} {held : Bool}
theorem bytesI : Try.prog.bytesOf 21 = 4 := by kernel_rfl
end
section
open Go.RowKit Go.ChangeShapes Go.WideShapes Go.Deep
open Go.RowKit Go.ChangeShapes Go.WideShapes Go.Deep
open Go.RowKit Go.ChangeShapes Go.WideShapes Go.Deep
open Go.RowKit Go.ChangeShapes Go.WideShapes Go.Deep
open Go.RowKit Go.ChangeShapes Go.WideShapes Go.Deep
open Go.RowKit Go.ChangeShapes Go.WideShapes Go.Deep
open Go.RowKit Go.ChangeShapes Go.WideShapes Go.Deep
open Go.RowKit Go.ChangeShapes Go.WideShapes Go.Deep
open Go.RowKit Go.ChangeShapes Go.WideShapes Go.Deep
open Go.RowKit Go.ChangeShapes Go.WideShapes Go.Deep
open Go.RowKit Go.ChangeShapes Go.WideShapes Go.Deep
open Go.RowKit Go.ChangeShapes Go.WideShapes Go.Deep
open Go.RowKit Go.ChangeShapes Go.WideShapes Go.Deep
open Go.RowKit Go.ChangeShapes Go.WideShapes Go.Deep
open Go.RowKit Go.ChangeShapes Go.WideShapes Go.Deep
open Go.RowKit Go.ChangeShapes Go.WideShapes Go.Deep
open Go.RowKit Go.ChangeShapes Go.WideShapes Go.Deep
open Go.RowKit Go.ChangeShapes Go.WideShapes Go.Deep
open Go.RowKit Go.ChangeShapes Go.WideShapes Go.Deep
open Go.RowKit Go.ChangeShapes Go.WideShapes Go.Deep
open Go.RowKit Go.ChangeShapes Go.WideShapes Go.Deep
open Go.RowKit Go.ChangeShapes Go.WideShapes Go.Deep
open Go.RowKit Go.ChangeShapes Go.WideShapes Go.Deep
open Go.RowKit Go.ChangeShapes Go.WideShapes Go.Deep
open Go.RowKit Go.ChangeShapes Go.WideShapes Go.Deep
open Go.RowKit Go.ChangeShapes Go.WideShapes Go.Deep
open Go.RowKit Go.ChangeShapes Go.WideShapes Go.Deep
open Go.RowKit Go.ChangeShapes Go.WideShapes Go.Deep
open Go.RowKit Go.ChangeShapes Go.WideShapes Go.Deep
open Go.RowKit Go.ChangeShapes Go.WideShapes Go.Deep
open Go.RowKit Go.ChangeShapes Go.WideShapes Go.Deep
open Go.RowKit Go.ChangeShapes Go.WideShapes Go.Deep
open Go.RowKit Go.ChangeShapes Go.WideShapes Go.Deep
open Go.RowKit Go.ChangeShapes Go.WideShapes Go.Deep
open Go.RowKit Go.ChangeShapes Go.WideShapes Go.Deep
open Go.RowKit Go.ChangeShapes Go.WideShapes Go.Deep
open Go.RowKit Go.ChangeShapes Go.WideShapes Go.Deep
open Go.RowKit Go.ChangeShapes Go.WideShapes Go.Deep
open Go.RowKit Go.ChangeShapes Go.WideShapes Go.Deep
open Go.RowKit Go.ChangeShapes Go.WideShapes Go.Deep
open Go.RowKit Go.ChangeShapes Go.WideShapes Go.Deep
open Go.RowKit Go.ChangeShapes Go.WideShapes Go.Deep
open Go.RowKit Go.ChangeShapes Go.WideShapes Go.Deep
open Go.RowKit Go.ChangeShapes Go.WideShapes Go.Deep
open Go.RowKit Go.ChangeShapes Go.WideShapes Go.Deep
open Go.RowKit Go.ChangeShapes Go.WideShapes Go.Deep
open Go.RowKit Go.ChangeShapes Go.WideShapes Go.Deep
open Go.RowKit Go.ChangeShapes Go.WideShapes Go.Deep
open Go.RowKit Go.ChangeShapes Go.WideShapes Go.Deep
open Go.RowKit Go.ChangeShapes Go.WideShapes Go.Deep
open Go.RowKit Go.ChangeShapes Go.WideShapes Go.Deep
open Go.RowKit Go.ChangeShapes Go.WideShapes Go.Deep
open Go.RowKit Go.ChangeShapes Go.WideShapes Go.Deep
open Go.RowKit Go.ChangeShapes Go.WideShapes Go.Deep
open Go.RowKit Go.ChangeShapes Go.WideShapes Go.Deep
open Go.RowKit Go.ChangeShapes Go.WideShapes Go.Deep
open Go.RowKit Go.ChangeShapes Go.WideShapes Go.Deep
open Go.RowKit Go.ChangeShapes Go.WideShapes Go.Deep
open Go.RowKit Go.ChangeShapes Go.WideShapes Go.Deep
open Go.RowKit Go.ChangeShapes Go.WideShapes Go.Deep
open Go.RowKit Go.ChangeShapes Go.WideShapes Go.Deep
open Go.RowKit Go.ChangeShapes Go.WideShapes Go.Deep
open Go.RowKit Go.ChangeShapes Go.WideShapes Go.Deep
open Go.RowKit Go.ChangeShapes Go.WideShapes Go.Deep
open Go.RowKit Go.ChangeShapes Go.WideShapes Go.Deep
open Go.RowKit Go.ChangeShapes Go.WideShapes Go.Deep
open Go.RowKit Go.ChangeShapes Go.WideShapes Go.Deep
open Go.RowKit Go.ChangeShapes Go.WideShapes Go.Deep
open Go.RowKit Go.ChangeShapes Go.WideShapes Go.Deep
open Go.RowKit Go.ChangeShapes Go.WideShapes Go.Deep
open Go.RowKit Go.ChangeShapes Go.WideShapes Go.Deep
open Go.RowKit Go.ChangeShapes Go.WideShapes Go.Deep
open Go.RowKit Go.ChangeShapes Go.WideShapes Go.Deep
open Go.RowKit Go.ChangeShapes Go.WideShapes Go.Deep
open Go.RowKit Go.ChangeShapes Go.WideShapes Go.Deep
open Go.RowKit Go.ChangeShapes Go.WideShapes Go.Deep
open Go.RowKit Go.ChangeShapes Go.WideShapes Go.Deep
open Go.RowKit Go.ChangeShapes Go.WideShapes Go.Deep
open Go.RowKit Go.ChangeShapes Go.WideShapes Go.Deep
variable {H : Type} {enc : TypeId × Value → H} {w : World} {base : Nat} {held : Bool}
/-- what a row's reading weighs, argument by argument -/
theorem lite_of {ts : List TypeId} {ds : List (DataW H)} (h : (DataW.weightsEach Try.prog ts ds).all (· ≤ reachBytes) = true) {j : Nat} {t : TypeId} {d : DataW H} (ht : ts[j]? = some t) (hd : ds[j]? = some d) : Lite t d := fun n hn => by
  have := List.all_eq_true.1 h n (DataW.weights_mem_each ht hd n hn)
  simpa using this
end
section
open Go.RowKit Go.ChangeShapes Go.WideShapes Go.Deep
open Go.RowKit Go.ChangeShapes Go.WideShapes Go.Deep
open Go.RowKit Go.ChangeShapes Go.WideShapes Go.Deep
open Go.RowKit Go.ChangeShapes Go.WideShapes Go.Deep
open Go.RowKit Go.ChangeShapes Go.WideShapes Go.Deep
open Go.RowKit Go.ChangeShapes Go.WideShapes Go.Deep
open Go.RowKit Go.ChangeShapes Go.WideShapes Go.Deep
open Go.RowKit Go.ChangeShapes Go.WideShapes Go.Deep
open Go.RowKit Go.ChangeShapes Go.WideShapes Go.Deep
open Go.RowKit Go.ChangeShapes Go.WideShapes Go.Deep
open Go.RowKit Go.ChangeShapes Go.WideShapes Go.Deep
open Go.RowKit Go.ChangeShapes Go.WideShapes Go.Deep
open Go.RowKit Go.ChangeShapes Go.WideShapes Go.Deep
open Go.RowKit Go.ChangeShapes Go.WideShapes Go.Deep
open Go.RowKit Go.ChangeShapes Go.WideShapes Go.Deep
open Go.RowKit Go.ChangeShapes Go.WideShapes Go.Deep
open Go.RowKit Go.ChangeShapes Go.WideShapes Go.Deep
open Go.RowKit Go.ChangeShapes Go.WideShapes Go.Deep
open Go.RowKit Go.ChangeShapes Go.WideShapes Go.Deep
open Go.RowKit Go.ChangeShapes Go.WideShapes Go.Deep
open Go.RowKit Go.ChangeShapes Go.WideShapes Go.Deep
open Go.RowKit Go.ChangeShapes Go.WideShapes Go.Deep
open Go.RowKit Go.ChangeShapes Go.WideShapes Go.Deep
open Go.RowKit Go.ChangeShapes Go.WideShapes Go.Deep
open Go.RowKit Go.ChangeShapes Go.WideShapes Go.Deep
open Go.RowKit Go.ChangeShapes Go.WideShapes Go.Deep
open Go.RowKit Go.ChangeShapes Go.WideShapes Go.Deep
open Go.RowKit Go.ChangeShapes Go.WideShapes Go.Deep
open Go.RowKit Go.ChangeShapes Go.WideShapes Go.Deep
open Go.RowKit Go.ChangeShapes Go.WideShapes Go.Deep
open Go.RowKit Go.ChangeShapes Go.WideShapes Go.Deep
open Go.RowKit Go.ChangeShapes Go.WideShapes Go.Deep
open Go.RowKit Go.ChangeShapes Go.WideShapes Go.Deep
open Go.RowKit Go.ChangeShapes Go.WideShapes Go.Deep
open Go.RowKit Go.ChangeShapes Go.WideShapes Go.Deep
open Go.RowKit Go.ChangeShapes Go.WideShapes Go.Deep
open Go.RowKit Go.ChangeShapes Go.WideShapes Go.Deep
open Go.RowKit Go.ChangeShapes Go.WideShapes Go.Deep
open Go.RowKit Go.ChangeShapes Go.WideShapes Go.Deep
open Go.RowKit Go.ChangeShapes Go.WideShapes Go.Deep
open Go.RowKit Go.ChangeShapes Go.WideShapes Go.Deep
open Go.RowKit Go.ChangeShapes Go.WideShapes Go.Deep
open Go.RowKit Go.ChangeShapes Go.WideShapes Go.Deep
open Go.RowKit Go.ChangeShapes Go.WideShapes Go.Deep
open Go.RowKit Go.ChangeShapes Go.WideShapes Go.Deep
open Go.RowKit Go.ChangeShapes Go.WideShapes Go.Deep
open Go.RowKit Go.ChangeShapes Go.WideShapes Go.Deep
open Go.RowKit Go.ChangeShapes Go.WideShapes Go.Deep
open Go.RowKit Go.ChangeShapes Go.WideShapes Go.Deep
open Go.RowKit Go.ChangeShapes Go.WideShapes Go.Deep
open Go.RowKit Go.ChangeShapes Go.WideShapes Go.Deep
open Go.RowKit Go.ChangeShapes Go.WideShapes Go.Deep
open Go.RowKit Go.ChangeShapes Go.WideShapes Go.Deep
open Go.RowKit Go.ChangeShapes Go.WideShapes Go.Deep
open Go.RowKit Go.ChangeShapes Go.WideShapes Go.Deep
open Go.RowKit Go.ChangeShapes Go.WideShapes Go.Deep
open Go.RowKit Go.ChangeShapes Go.WideShapes Go.Deep
open Go.RowKit Go.ChangeShapes Go.WideShapes Go.Deep
open Go.RowKit Go.ChangeShapes Go.WideShapes Go.Deep
open Go.RowKit Go.ChangeShapes Go.WideShapes Go.Deep
open Go.RowKit Go.ChangeShapes Go.WideShapes Go.Deep
open Go.RowKit Go.ChangeShapes Go.WideShapes Go.Deep
open Go.RowKit Go.ChangeShapes Go.WideShapes Go.Deep
open Go.RowKit Go.ChangeShapes Go.WideShapes Go.Deep
open Go.RowKit Go.ChangeShapes Go.WideShapes Go.Deep
open Go.RowKit Go.ChangeShapes Go.WideShapes Go.Deep
open Go.RowKit Go.ChangeShapes Go.WideShapes Go.Deep
open Go.RowKit Go.ChangeShapes Go.WideShapes Go.Deep
open Go.RowKit Go.ChangeShapes Go.WideShapes Go.Deep
open Go.RowKit Go.ChangeShapes Go.WideShapes Go.Deep
open Go.RowKit Go.ChangeShapes Go.WideShapes Go.Deep
open Go.RowKit Go.ChangeShapes Go.WideShapes Go.Deep
open Go.RowKit Go.ChangeShapes Go.WideShapes Go.Deep
open Go.RowKit Go.ChangeShapes Go.WideShapes Go.Deep
open Go.RowKit Go.ChangeShapes Go.WideShapes Go.Deep
open Go.RowKit Go.ChangeShapes Go.WideShapes Go.Deep
open Go.RowKit Go.ChangeShapes Go.WideShapes Go.Deep
open Go.RowKit Go.ChangeShapes Go.WideShapes Go.Deep
open Go.RowKit Go.ChangeShapes Go.WideShapes Go.Deep
theorem five {α : Type} {l : List α} (h : l.length = 5) : ∃ a b c d e, l = [a, b, c, d, e] := by
  match l, h with
  | [a, b, c, d, e], _ => exact ⟨a, b, c, d, e, rfl⟩
end
section
open Go.RowKit Go.ChangeShapes Go.WideShapes Go.Deep
open Go.RowKit Go.ChangeShapes Go.WideShapes Go.Deep
open Go.RowKit Go.ChangeShapes Go.WideShapes Go.Deep
open Go.RowKit Go.ChangeShapes Go.WideShapes Go.Deep
open Go.RowKit Go.ChangeShapes Go.WideShapes Go.Deep
open Go.RowKit Go.ChangeShapes Go.WideShapes Go.Deep
open Go.RowKit Go.ChangeShapes Go.WideShapes Go.Deep
open Go.RowKit Go.ChangeShapes Go.WideShapes Go.Deep
open Go.RowKit Go.ChangeShapes Go.WideShapes Go.Deep
open Go.RowKit Go.ChangeShapes Go.WideShapes Go.Deep
open Go.RowKit Go.ChangeShapes Go.WideShapes Go.Deep
open Go.RowKit Go.ChangeShapes Go.WideShapes Go.Deep
open Go.RowKit Go.ChangeShapes Go.WideShapes Go.Deep
open Go.RowKit Go.ChangeShapes Go.WideShapes Go.Deep
open Go.RowKit Go.ChangeShapes Go.WideShapes Go.Deep
open Go.RowKit Go.ChangeShapes Go.WideShapes Go.Deep
open Go.RowKit Go.ChangeShapes Go.WideShapes Go.Deep
open Go.RowKit Go.ChangeShapes Go.WideShapes Go.Deep
open Go.RowKit Go.ChangeShapes Go.WideShapes Go.Deep
open Go.RowKit Go.ChangeShapes Go.WideShapes Go.Deep
open Go.RowKit Go.ChangeShapes Go.WideShapes Go.Deep
open Go.RowKit Go.ChangeShapes Go.WideShapes Go.Deep
open Go.RowKit Go.ChangeShapes Go.WideShapes Go.Deep
open Go.RowKit Go.ChangeShapes Go.WideShapes Go.Deep
open Go.RowKit Go.ChangeShapes Go.WideShapes Go.Deep
open Go.RowKit Go.ChangeShapes Go.WideShapes Go.Deep
open Go.RowKit Go.ChangeShapes Go.WideShapes Go.Deep
open Go.RowKit Go.ChangeShapes Go.WideShapes Go.Deep
open Go.RowKit Go.ChangeShapes Go.WideShapes Go.Deep
open Go.RowKit Go.ChangeShapes Go.WideShapes Go.Deep
open Go.RowKit Go.ChangeShapes Go.WideShapes Go.Deep
open Go.RowKit Go.ChangeShapes Go.WideShapes Go.Deep
open Go.RowKit Go.ChangeShapes Go.WideShapes Go.Deep
open Go.RowKit Go.ChangeShapes Go.WideShapes Go.Deep
open Go.RowKit Go.ChangeShapes Go.WideShapes Go.Deep
open Go.RowKit Go.ChangeShapes Go.WideShapes Go.Deep
open Go.RowKit Go.ChangeShapes Go.WideShapes Go.Deep
open Go.RowKit Go.ChangeShapes Go.WideShapes Go.Deep
open Go.RowKit Go.ChangeShapes Go.WideShapes Go.Deep
open Go.RowKit Go.ChangeShapes Go.WideShapes Go.Deep
open Go.RowKit Go.ChangeShapes Go.WideShapes Go.Deep
open Go.RowKit Go.ChangeShapes Go.WideShapes Go.Deep
open Go.RowKit Go.ChangeShapes Go.WideShapes Go.Deep
open Go.RowKit Go.ChangeShapes Go.WideShapes Go.Deep
open Go.RowKit Go.ChangeShapes Go.WideShapes Go.Deep
open Go.RowKit Go.ChangeShapes Go.WideShapes Go.Deep
open Go.RowKit Go.ChangeShapes Go.WideShapes Go.Deep
open Go.RowKit Go.ChangeShapes Go.WideShapes Go.Deep
open Go.RowKit Go.ChangeShapes Go.WideShapes Go.Deep
open Go.RowKit Go.ChangeShapes Go.WideShapes Go.Deep
open Go.RowKit Go.ChangeShapes Go.WideShapes Go.Deep
open Go.RowKit Go.ChangeShapes Go.WideShapes Go.Deep
open Go.RowKit Go.ChangeShapes Go.WideShapes Go.Deep
open Go.RowKit Go.ChangeShapes Go.WideShapes Go.Deep
open Go.RowKit Go.ChangeShapes Go.WideShapes Go.Deep
open Go.RowKit Go.ChangeShapes Go.WideShapes Go.Deep
open Go.RowKit Go.ChangeShapes Go.WideShapes Go.Deep
open Go.RowKit Go.ChangeShapes Go.WideShapes Go.Deep
open Go.RowKit Go.ChangeShapes Go.WideShapes Go.Deep
open Go.RowKit Go.ChangeShapes Go.WideShapes Go.Deep
open Go.RowKit Go.ChangeShapes Go.WideShapes Go.Deep
open Go.RowKit Go.ChangeShapes Go.WideShapes Go.Deep
open Go.RowKit Go.ChangeShapes Go.WideShapes Go.Deep
open Go.RowKit Go.ChangeShapes Go.WideShapes Go.Deep
open Go.RowKit Go.ChangeShapes Go.WideShapes Go.Deep
open Go.RowKit Go.ChangeShapes Go.WideShapes Go.Deep
open Go.RowKit Go.ChangeShapes Go.WideShapes Go.Deep
open Go.RowKit Go.ChangeShapes Go.WideShapes Go.Deep
open Go.RowKit Go.ChangeShapes Go.WideShapes Go.Deep
open Go.RowKit Go.ChangeShapes Go.WideShapes Go.Deep
open Go.RowKit Go.ChangeShapes Go.WideShapes Go.Deep
open Go.RowKit Go.ChangeShapes Go.WideShapes Go.Deep
open Go.RowKit Go.ChangeShapes Go.WideShapes Go.Deep
open Go.RowKit Go.ChangeShapes Go.WideShapes Go.Deep
open Go.RowKit Go.ChangeShapes Go.WideShapes Go.Deep
open Go.RowKit Go.ChangeShapes Go.WideShapes Go.Deep
open Go.RowKit Go.ChangeShapes Go.WideShapes Go.Deep
open Go.RowKit Go.ChangeShapes Go.WideShapes Go.Deep
open Go.RowKit Go.ChangeShapes Go.WideShapes Go.Deep
theorem three {α : Type} {l : List α} (h : l.length = 3) : ∃ a b c, l = [a, b, c] := by
  match l, h with
  | [a, b, c], _ => exact ⟨a, b, c, rfl⟩
end
section
open Go.RowKit Go.ChangeShapes Go.WideShapes Go.Deep
open Go.RowKit Go.ChangeShapes Go.WideShapes Go.Deep
open Go.RowKit Go.ChangeShapes Go.WideShapes Go.Deep
open Go.RowKit Go.ChangeShapes Go.WideShapes Go.Deep
open Go.RowKit Go.ChangeShapes Go.WideShapes Go.Deep
open Go.RowKit Go.ChangeShapes Go.WideShapes Go.Deep
open Go.RowKit Go.ChangeShapes Go.WideShapes Go.Deep
open Go.RowKit Go.ChangeShapes Go.WideShapes Go.Deep
open Go.RowKit Go.ChangeShapes Go.WideShapes Go.Deep
open Go.RowKit Go.ChangeShapes Go.WideShapes Go.Deep
open Go.RowKit Go.ChangeShapes Go.WideShapes Go.Deep
open Go.RowKit Go.ChangeShapes Go.WideShapes Go.Deep
open Go.RowKit Go.ChangeShapes Go.WideShapes Go.Deep
open Go.RowKit Go.ChangeShapes Go.WideShapes Go.Deep
open Go.RowKit Go.ChangeShapes Go.WideShapes Go.Deep
open Go.RowKit Go.ChangeShapes Go.WideShapes Go.Deep
open Go.RowKit Go.ChangeShapes Go.WideShapes Go.Deep
open Go.RowKit Go.ChangeShapes Go.WideShapes Go.Deep
open Go.RowKit Go.ChangeShapes Go.WideShapes Go.Deep
open Go.RowKit Go.ChangeShapes Go.WideShapes Go.Deep
open Go.RowKit Go.ChangeShapes Go.WideShapes Go.Deep
open Go.RowKit Go.ChangeShapes Go.WideShapes Go.Deep
open Go.RowKit Go.ChangeShapes Go.WideShapes Go.Deep
open Go.RowKit Go.ChangeShapes Go.WideShapes Go.Deep
open Go.RowKit Go.ChangeShapes Go.WideShapes Go.Deep
open Go.RowKit Go.ChangeShapes Go.WideShapes Go.Deep
open Go.RowKit Go.ChangeShapes Go.WideShapes Go.Deep
open Go.RowKit Go.ChangeShapes Go.WideShapes Go.Deep
open Go.RowKit Go.ChangeShapes Go.WideShapes Go.Deep
open Go.RowKit Go.ChangeShapes Go.WideShapes Go.Deep
open Go.RowKit Go.ChangeShapes Go.WideShapes Go.Deep
open Go.RowKit Go.ChangeShapes Go.WideShapes Go.Deep
open Go.RowKit Go.ChangeShapes Go.WideShapes Go.Deep
open Go.RowKit Go.ChangeShapes Go.WideShapes Go.Deep
open Go.RowKit Go.ChangeShapes Go.WideShapes Go.Deep
open Go.RowKit Go.ChangeShapes Go.WideShapes Go.Deep
open Go.RowKit Go.ChangeShapes Go.WideShapes Go.Deep
open Go.RowKit Go.ChangeShapes Go.WideShapes Go.Deep
open Go.RowKit Go.ChangeShapes Go.WideShapes Go.Deep
open Go.RowKit Go.ChangeShapes Go.WideShapes Go.Deep
open Go.RowKit Go.ChangeShapes Go.WideShapes Go.Deep
open Go.RowKit Go.ChangeShapes Go.WideShapes Go.Deep
open Go.RowKit Go.ChangeShapes Go.WideShapes Go.Deep
open Go.RowKit Go.ChangeShapes Go.WideShapes Go.Deep
open Go.RowKit Go.ChangeShapes Go.WideShapes Go.Deep
open Go.RowKit Go.ChangeShapes Go.WideShapes Go.Deep
open Go.RowKit Go.ChangeShapes Go.WideShapes Go.Deep
open Go.RowKit Go.ChangeShapes Go.WideShapes Go.Deep
open Go.RowKit Go.ChangeShapes Go.WideShapes Go.Deep
open Go.RowKit Go.ChangeShapes Go.WideShapes Go.Deep
open Go.RowKit Go.ChangeShapes Go.WideShapes Go.Deep
open Go.RowKit Go.ChangeShapes Go.WideShapes Go.Deep
open Go.RowKit Go.ChangeShapes Go.WideShapes Go.Deep
open Go.RowKit Go.ChangeShapes Go.WideShapes Go.Deep
open Go.RowKit Go.ChangeShapes Go.WideShapes Go.Deep
open Go.RowKit Go.ChangeShapes Go.WideShapes Go.Deep
open Go.RowKit Go.ChangeShapes Go.WideShapes Go.Deep
open Go.RowKit Go.ChangeShapes Go.WideShapes Go.Deep
open Go.RowKit Go.ChangeShapes Go.WideShapes Go.Deep
open Go.RowKit Go.ChangeShapes Go.WideShapes Go.Deep
open Go.RowKit Go.ChangeShapes Go.WideShapes Go.Deep
open Go.RowKit Go.ChangeShapes Go.WideShapes Go.Deep
open Go.RowKit Go.ChangeShapes Go.WideShapes Go.Deep
open Go.RowKit Go.ChangeShapes Go.WideShapes Go.Deep
open Go.RowKit Go.ChangeShapes Go.WideShapes Go.Deep
open Go.RowKit Go.ChangeShapes Go.WideShapes Go.Deep
open Go.RowKit Go.ChangeShapes Go.WideShapes Go.Deep
open Go.RowKit Go.ChangeShapes Go.WideShapes Go.Deep
open Go.RowKit Go.ChangeShapes Go.WideShapes Go.Deep
open Go.RowKit Go.ChangeShapes Go.WideShapes Go.Deep
open Go.RowKit Go.ChangeShapes Go.WideShapes Go.Deep
open Go.RowKit Go.ChangeShapes Go.WideShapes Go.Deep
open Go.RowKit Go.ChangeShapes Go.WideShapes Go.Deep
open Go.RowKit Go.ChangeShapes Go.WideShapes Go.Deep
open Go.RowKit Go.ChangeShapes Go.WideShapes Go.Deep
open Go.RowKit Go.ChangeShapes Go.WideShapes Go.Deep
open Go.RowKit Go.ChangeShapes Go.WideShapes Go.Deep
open Go.RowKit Go.ChangeShapes Go.WideShapes Go.Deep
open Go.RowKit Go.ChangeShapes Go.WideShapes Go.Deep
open Go.RowKit Go.ChangeShapes Go.WideShapes Go.Deep
open Go.RowKit Go.ChangeShapes Go.WideShapes Go.Deep
open Go.RowKit Go.ChangeShapes Go.WideShapes Go.Deep
open Go.RowKit Go.ChangeShapes Go.WideShapes Go.Deep
theorem four {α : Type} {l : List α} (h : l.length = 4) : ∃ a b c d, l = [a, b, c, d] := by
  match l, h with
  | [a, b, c, d], _ => exact ⟨a, b, c, d, rfl⟩
end
theorem bool_of_not {b : Bool} (h : ¬ b = true) : b = false := by simpa using h
theorem own_cur {w : World} {B : Nat} {e : TypeId} {size g n cap m : Nat} {xs : List Value} (h : w.ownsRow B e size (.slice (some ⟨g, 0, none⟩) n cap) m xs) :
    ∃ cur : List Value, w.heap[g]? = some (.cells cur.toArray e (0, 0)) ∧ cur.length = cap * size ∧ cur.take (n * size) = xs ∧ n ≤ cap ∧ cap ≤ maxLen ∧ B ≤ g ∧ m = n := by
  rcases h.2 with ⟨h', _⟩ | ⟨g', cap', cur, h', hb, hg, hnc, hcm, hcs, htake⟩
  · simp at h'
  · simp only [Value.slice.injEq, Option.some.injEq, Addr.mk.injEq, and_true, true_and] at h'
    obtain ⟨rfl, rfl, rfl⟩ := h'
    exact ⟨cur.toList, by simpa using hg, by simpa using hcs, htake, hnc, hcm, hb, rfl⟩
theorem src_of {w : World} {g : Nat} {cur : List Value} {t : TypeId} (h : w.heap[g]? = some (.cells cur.toArray t (0, 0))) (off m : Nat) : ∀ j v, ((cur.drop off).take m)[j]? = some v → w.cell? ((⟨g, off, none⟩ : Addr).add j) = some v := by
  intro j v hv
  rw [add_lit, cell_row h]
  rw [List.getElem?_take] at hv
  split at hv
  · rw [List.getElem?_drop] at hv
    simpa using hv
  · cases hv
end Go.Proofs.Ytkjiobbkbhmijaa.U
