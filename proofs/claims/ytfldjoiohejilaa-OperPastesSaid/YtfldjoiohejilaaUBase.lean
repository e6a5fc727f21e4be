/-
  Plain words on memory: a slice that can be read; a row that the call owns; appends to such a row. No program here.
-/
import Derived.WalkKit
import Derived.WalkLawsBesides
import Derived.WalkSpells
import Derived.Handy
import Derived.IntWalk
import Derived.Lib.Hide
import Derived.Deep.DeepFit
import Derived.Laws.BitsLemmas
import Derived.Laws.OwnMore
import Derived.Laws.AppendOwnNone
import Derived.Laws.CopyOwn
import Derived.Below
import Derived.Outline
namespace Go.Proofs.Ytfldjoiohejilaa.U
open Go.RowKit
set_option linter.unusedVariables false
set_option linter.unusedSimpArgs false

theorem ret_tup3 {k1 k2 k3 : IntKind} {a b c a' b' c' : Int} (h1 : a = a') (h2 : b = b') (h3 : c = c') : Ending.returned (.tuple #[.int k1 a, .int k2 b, .int k3 c]) = .returned (.tuple #[.int k1 a', .int k2 b', .int k3 c']) := by rw [h1, h2, h3]
theorem ret_tupIIB {k1 k2 : IntKind} {a b a' b' : Int} {c c' : Bool} (h1 : a = a') (h2 : b = b') (h3 : c = c') : Ending.returned (.tuple #[.int k1 a, .int k2 b, .bool c]) = .returned (.tuple #[.int k1 a', .int k2 b', .bool c']) := by rw [h1, h2, h3]
theorem ret_int {k : IntKind} {a b : Int} (h : a = b) : Ending.returned (.int k a) = .returned (.int k b) := by rw [h]
theorem ret_bool {a b : Bool} (h : a = b) : Ending.returned (.bool a) = .returned (.bool b) := by rw [h]

theorem bdrewN {B : Nat} {a w : World} (h : Below B a w) (n : Nat) : Below B a (w.drewN n) := ⟨h.os, h.tape, h.output, h.size, h.block⟩

/-- A slice of numbers of kind k that can be read: its elements are xs. -/
def Rd (k : IntKind) (w : World) (a : Option Addr) (len cap : Nat) (xs : List Int) : Prop :=
  xs.length = len ∧ len ≤ cap ∧ cap ≤ maxLen ∧ (∀ x ∈ xs, (Lit.int k x).wf = true) ∧ (a = none → cap = 0) ∧
  (0 < len → ∃ b off, a = some ⟨b, off, none⟩ ∧ ∀ i, i < len → w.cell? ⟨b, off + i, none⟩ = some (.int k (xs.getD i 0)))

theorem Rd.len {k w a len cap xs} (h : Rd k w a len cap xs) : xs.length = len := h.1
theorem Rd.small {k w a len cap xs} (h : Rd k w a len cap xs) : len ≤ 9223372036854775807 := by have := h.2.1; have := h.2.2.1; unfold maxLen at this; omega
theorem Rd.nil (k : IntKind) (w : World) (a : Option Addr) (cap : Nat) (hc : cap ≤ maxLen) (hn : a = none → cap = 0) : Rd k w a 0 cap [] := ⟨rfl, by omega, hc, by simp, hn, fun h => by omega⟩
theorem Rd.none0 (k : IntKind) (w : World) : Rd k w none 0 0 [] := Rd.nil k w none 0 (by simp) (fun _ => rfl)

theorem wf_u8_in {x : Int} (h : (Lit.int .u8 x).wf = true) : 0 ≤ x ∧ x ≤ 255 := by simpa [Lit.wf, IntKind.min, IntKind.max, IntKind.signed, IntKind.bits] using h
theorem wf_i32_in {x : Int} (h : (Lit.int .i32 x).wf = true) : -2147483648 ≤ x ∧ x ≤ 2147483647 := by simpa [Lit.wf, IntKind.min, IntKind.max, IntKind.signed, IntKind.bits] using h
theorem wf_i64_in {x : Int} (h : (Lit.int .i64 x).wf = true) : -9223372036854775808 ≤ x ∧ x ≤ 9223372036854775807 := by simpa [Lit.wf, IntKind.min, IntKind.max, IntKind.signed, IntKind.bits] using h

theorem getD_mem {xs : List Int} {i : Nat} (h : i < xs.length) : xs.getD i 0 ∈ xs := by
  rw [List.getD_eq_getElem?_getD, List.getElem?_eq_getElem h]; exact List.getElem_mem h

theorem Rd.u8 {w a len cap xs} (h : Rd .u8 w a len cap xs) : ∀ i, 0 ≤ xs.getD i 0 ∧ xs.getD i 0 ≤ 255 := fun i => by
  by_cases hi : i < xs.length
  · exact wf_u8_in (h.2.2.2.1 _ (getD_mem hi))
  · rw [List.getD_eq_getElem?_getD, List.getElem?_eq_none (by omega)]; simp
theorem Rd.i32 {w a len cap xs} (h : Rd .i32 w a len cap xs) : ∀ i, -2147483648 ≤ xs.getD i 0 ∧ xs.getD i 0 ≤ 2147483647 := fun i => by
  by_cases hi : i < xs.length
  · exact wf_i32_in (h.2.2.2.1 _ (getD_mem hi))
  · rw [List.getD_eq_getElem?_getD, List.getElem?_eq_none (by omega)]; simp

/-- It can be read in every world in which the blocks that lie now are as they are now. -/
theorem Rd.below {k w a len cap xs w'} (h : Rd k w a len cap xs) (hb : Below w.heap.size w w') : Rd k w' a len cap xs := by
  obtain ⟨h1, h2, h3, h4, h6, h5⟩ := h
  refine ⟨h1, h2, h3, h4, h6, fun hp => ?_⟩
  obtain ⟨b, off, ha, hc⟩ := h5 hp
  refine ⟨b, off, ha, fun i hi => ?_⟩
  have hlt := block_lt_of_cell (hc i hi)
  rw [hb.cell (p := ⟨b, off + i, none⟩) hlt]; exact hc i hi

theorem Rd.alloc {k w a len cap xs} (h : Rd k w a len cap xs) (o : Obj) : Rd k (w.alloc o) a len cap xs := h.below ((Below.refl _ _).alloc (Nat.le_refl _) o)
theorem Rd.drew {k w a len cap xs} (h : Rd k w a len cap xs) : Rd k w.drew a len cap xs := h.below (Below.refl _ _).drew

/-- All but the first n elements. -/
theorem Rd.drop {k w a len cap xs} (h : Rd k w a len cap xs) (n : Nat) (hn : n ≤ len) : Rd k w (if cap = n then a else a.map (·.add (n * 1))) (len - n) (cap - n) (xs.drop n) := by
  obtain ⟨h1, h2, h3, h4, h6, h5⟩ := h
  refine ⟨by simp [h1], by omega, by omega, fun x hx => h4 x (List.mem_of_mem_drop hx), fun hn0 => ?_, fun hp => ?_⟩
  · have : a = Option.none := by
      split at hn0
      · exact hn0
      · simpa using hn0
    have := h6 this; omega
  obtain ⟨b, off, ha, hc⟩ := h5 (by omega)
  refine ⟨b, off + n, ?_, fun i hi => ?_⟩
  · rw [if_neg (by omega), ha]; simp [Addr.add]
  · rw [Nat.add_assoc, hc (n + i) (by omega)]; simp

/-- The first n elements. -/
theorem Rd.take {k w a len cap xs} (h : Rd k w a len cap xs) (n : Nat) (hn : n ≤ len) : Rd k w a n cap (xs.take n) := by
  obtain ⟨h1, h2, h3, h4, h6, h5⟩ := h
  refine ⟨by simp [h1]; omega, by omega, h3, fun x hx => h4 x (List.mem_of_mem_take hx), h6, fun hp => ?_⟩
  obtain ⟨b, off, ha, hc⟩ := h5 (by omega)
  refine ⟨b, off, ha, fun i hi => ?_⟩
  rw [hc i (by omega)]; simp [List.getD_eq_getElem?_getD, List.getElem?_take, hi]

/-- What the call owns can be read. -/
theorem Rd.own {k : IntKind} {w : World} {B : Nat} {e : TypeId} {a : Option Addr} {n cap m : Nat} {xs : List Int} (h : w.ownsRow B e 1 (.slice a n cap) m (xs.map (Value.int k))) (hw : ∀ x ∈ xs, (Lit.int k x).wf = true) : Rd k w a n cap xs := by
  obtain ⟨h1, h2⟩ := h
  rcases h2 with ⟨hv, hn⟩ | ⟨g, c, cur, hv, hg, hh, hnc, hcm, hcs, ht⟩
  · simp only [Value.slice.injEq] at hv
    obtain ⟨rfl, rfl, rfl⟩ := hv
    subst hn
    obtain rfl : xs = [] := by simpa using h1
    exact Rd.none0 _ _
  · simp only [Value.slice.injEq] at hv
    obtain ⟨rfl, rfl, rfl⟩ := hv
    have hlen : xs.length = n := by simpa using h1
    refine ⟨hlen, hnc, hcm, hw, (fun hn0 => by cases hn0), fun hp => ⟨g, 0, rfl, fun i hi => ?_⟩⟩
    rw [cell_of_row w g (0 + i) cur e (0, 0) hh, Nat.zero_add]
    have hi2 : (cur.toList.take (n * 1))[i]? = (xs.map (Value.int k))[i]? := by rw [ht]
    rw [Nat.mul_one, List.getElem?_take, if_pos hi] at hi2
    rw [← Array.getElem?_toList, hi2, List.getElem?_map, List.getElem?_eq_getElem (by omega), List.getD_eq_getElem?_getD, List.getElem?_eq_getElem (by omega)]
    rfl

/-- Append to what the call owns: at the operation. -/
theorem wpList_app {P : Program} {w : World} {ops : Array Oper} {rest : List Oper} {o : Oper} {a : Act} {Q : Exit → Act → World → Prop} (hgd : o.guard = none) (s x : Operand) (t : TypeId)
    (ho : o.op = .call { callee := .builtin .append, args := #[s, x], argTypes := #[t, t] })
    (base : Nat) (e : TypeId) (i : TypeInfo) (z : Value) (bytes : Nat) (ht : P.underlying t = some (.slice e)) (hi : P.info? e = some i) (hz : i.zero = some z)
    (hsize : i.size = 1) (hby : i.bytes = bytes) (hzs : z.cells.size = 1)
    (v : Value) (n : Nat) (xs : List Value) (hs : a.eval s = v) (hown : w.ownsRow base e 1 v n xs)
    (ad : Option Addr) (m c : Nat) (news : List Value) (hx : a.eval x = .slice ad m c) (hl : news.length = m) (hnil : ad = none → c = 0) (hmc : m ≤ c)
    (hnews : 0 < m → ∃ ad', ad = some ad' ∧ ∀ j u, news[j]? = some u → w.cell? (ad'.add j) = some u) (h1 : ∀ u ∈ news, u.oneCell' = true)
    (h63 : n + m ≤ maxLen) (hbytes : (n + m) * bytes ≤ 140737488355328) (hbase : base ≤ w.heap.size)
    (h : ∀ v' w', w'.ownsRow base e 1 v' (n + m) (xs ++ news) → Below base w w' → wpList P ops Q rest (a.put o.dst v') w') : wpList P ops Q (o :: rest) a w := by
  have hb : ∀ w', w.grownBy w' v.ownBlock → Below base w w' := fun w' hg => (Below.refl base w).grown hg hbase (fun k hk => (hown.lt k hk).1)
  by_cases hm : 0 < m
  · obtain ⟨ad', rfl, hn⟩ := hnews hm
    exact wpList_append_own w hgd s x t ho base e i z 1 bytes ht hi hz hsize hby hzs (by decide) v n xs hs hown ad' m c news hx (by omega) hn h1 h63 hbytes hbase (fun v' w' h2 h3 _ => h v' w' h2 (hb w' h3))
  · obtain rfl : m = 0 := by omega
    obtain rfl : news = [] := List.eq_nil_of_length_eq_zero hl
    cases ad with
    | some ad' => exact wpList_append_own w hgd s x t ho base e i z 1 bytes ht hi hz hsize hby hzs (by decide) v n xs hs hown ad' 0 c [] hx rfl (by simp) h1 h63 hbytes hbase (fun v' w' h2 h3 _ => h v' w' h2 (hb w' h3))
    | none =>
      obtain rfl : c = 0 := hnil rfl
      refine wpList_append_own_none hgd s x t ho base e i 1 ht hi v n xs hs hown hx ?_
      exact h v w (by simpa using hown) (Below.refl _ _)

/-- Append what can be read. -/
theorem wpList_appRd {P : Program} {w : World} {ops : Array Oper} {rest : List Oper} {o : Oper} {a : Act} {Q : Exit → Act → World → Prop} (hgd : o.guard = none) (s x : Operand) (t : TypeId)
    (ho : o.op = .call { callee := .builtin .append, args := #[s, x], argTypes := #[t, t] })
    (base : Nat) (e : TypeId) (i : TypeInfo) (z : Value) (bytes : Nat) (ht : P.underlying t = some (.slice e)) (hi : P.info? e = some i) (hz : i.zero = some z)
    (hsize : i.size = 1) (hby : i.bytes = bytes) (hzs : z.cells.size = 1)
    (v : Value) (n : Nat) (xs : List Value) (hs : a.eval s = v) (hown : w.ownsRow base e 1 v n xs)
    (k : IntKind) (ad : Option Addr) (m c : Nat) (ys : List Int) (hx : a.eval x = .slice ad m c) (hrd : Rd k w ad m c ys)
    (h63 : n + m ≤ maxLen) (hbytes : (n + m) * bytes ≤ 140737488355328) (hbase : base ≤ w.heap.size)
    (h : ∀ v' w', w'.ownsRow base e 1 v' (n + m) (xs ++ ys.map (Value.int k)) → Below base w w' → wpList P ops Q rest (a.put o.dst v') w') : wpList P ops Q (o :: rest) a w := by
  obtain ⟨r1, r2, r3, r4, r6, r5⟩ := hrd
  refine wpList_app hgd s x t ho base e i z bytes ht hi hz hsize hby hzs v n xs hs hown ad m c (ys.map (Value.int k)) hx (by simpa using r1) r6 r2 ?_ ?_ h63 hbytes hbase h
  · intro hp
    obtain ⟨b, off, ha, hc⟩ := r5 hp
    refine ⟨_, ha, fun j u hu => ?_⟩
    rw [List.getElem?_map] at hu
    by_cases hj : j < ys.length
    · rw [List.getElem?_eq_getElem hj] at hu
      simp only [Option.map_some, Option.some.injEq] at hu
      subst hu
      have := hc j (by omega)
      rw [List.getD_eq_getElem?_getD, List.getElem?_eq_getElem hj] at this
      by_cases h0 : j = 0
      · subst h0; simpa [Addr.add] using this
      · simpa [Addr.add, h0] using this
    · rw [List.getElem?_eq_none (by omega)] at hu; simp at hu
  · intro u hu
    simp only [List.mem_map] at hu
    obtain ⟨x, _, rfl⟩ := hu
    rfl

/-- Append values that have just been laid: 'append(s, x, y, ..)'. -/
theorem wpList_appNew {P : Program} {w : World} {ops : Array Oper} {rest : List Oper} {o : Oper} {a : Act} {Q : Exit → Act → World → Prop} (hgd : o.guard = none) (s x : Operand) (t : TypeId)
    (ho : o.op = .call { callee := .builtin .append, args := #[s, x], argTypes := #[t, t] })
    (base : Nat) (e : TypeId) (i : TypeInfo) (z : Value) (bytes : Nat) (ht : P.underlying t = some (.slice e)) (hi : P.info? e = some i) (hz : i.zero = some z)
    (hsize : i.size = 1) (hby : i.bytes = bytes) (hzs : z.cells.size = 1)
    (v : Value) (n : Nat) (xs : List Value) (hs : a.eval s = v) (hown : w.ownsRow base e 1 v n xs)
    (cs : Array Value) (e' : TypeId) (m : Nat) (hx : a.eval x = .slice (some ⟨w.heap.size, 0, none⟩) m m) (hl : cs.size = m) (h1 : ∀ u ∈ cs.toList, u.oneCell' = true)
    (h63 : n + m ≤ maxLen) (hbytes : (n + m) * bytes ≤ 140737488355328) (hbase : base ≤ w.heap.size)
    (h : ∀ v' w', w'.ownsRow base e 1 v' (n + m) (xs ++ cs.toList) → Below base w w' → wpList P ops Q rest (a.put o.dst v') w') : wpList P ops Q (o :: rest) a (w.alloc (.cells cs e')) := by
  refine wpList_app hgd s x t ho base e i z bytes ht hi hz hsize hby hzs v n xs hs (hown.alloc _) (some ⟨w.heap.size, 0, none⟩) m m cs.toList hx (by simpa using hl) (fun h => by cases h) (Nat.le_refl _) ?_ h1 h63 hbytes (by simp; omega) ?_
  · intro hp
    refine ⟨_, rfl, fun j u hu => ?_⟩
    have hg := heap_alloc_new w (.cells cs e')
    have he : (⟨w.heap.size, 0, none⟩ : Addr).add j = ⟨w.heap.size, j, none⟩ := by
      by_cases h0 : j = 0
      · subst h0; rfl
      · simp [Addr.add]; intro hj; exact absurd hj h0
    rw [he, cell_of_row _ _ j cs e' (0, 0) hg]
    simpa using hu
  · intro v' w' ho' hb
    exact h v' w' ho' (((Below.refl base w).alloc hbase _).trans hb)

end Go.Proofs.Ytfldjoiohejilaa.U
