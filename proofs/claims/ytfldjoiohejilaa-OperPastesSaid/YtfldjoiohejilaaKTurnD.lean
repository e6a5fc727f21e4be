/-
  The document's Shift, Turn, where they tell errors ahead of all.
  The program's turn, Turn's closure.
  Turn's closure; what Turn makes, as pieces.
  The walk of Turn's closure.
  The program's Turn. (MADE by wip/tools/gen_kturn.py.)
-/
import Derived.Test.YtfldjoiohejilaaJJoinC
import Derived.Test.YtfldjoiohejilaaKTake
import Derived.Test.YtfldjoiohejilaaJTurn
import Derived.Test.YtfldjoiohejilaaJTurnB
import Derived.Test.YtfldjoiohejilaaJJoinB
namespace Go.Proofs.Ytfldjoiohejilaa.U
open Go.RowKit
set_option linter.unusedVariables false
set_option linter.unusedSimpArgs false
set_option maxRecDepth 100000

set_option maxHeartbeats 1000000 in
theorem rshift_arg (v : Value) (x y z : Int) (w : World) (hz : i64b z) (h : z < -64 ∨ 64 < z) :
    Calls Try.prog 27 #[v, .int .i64 x, .int .i64 y, .int .i64 z] w fun e w' => e = .returned (.tuple #[.slice none 0 0, .int .i64 1]) ∧ w' = w := by
  obtain ⟨hz1, hz2⟩ := hz
  go_enter Try.func27, Try.ntmps27
  by_cases c1 : z < -64
  · clear h
    go_wp2
    exact bodyPost_ret (v := .tuple #[.slice none 0 0, .int .i64 1]) (by rw [results_tmp2 rfl]; rfl) rfl ⟨rfl, rfl⟩
  · have c2 : 64 < z := by omega
    clear h
    go_wp2
    exact bodyPost_ret (v := .tuple #[.slice none 0 0, .int .i64 1]) (by rw [results_tmp2 rfl]; rfl) rfl ⟨rfl, rfl⟩
set_option maxHeartbeats 1000000 in
theorem rshift_range (a : Option Addr) (n c : Nat) (x y z : Int) (w : World) (hx : i64b x) (hy : i64b y) (hn : n ≤ 9223372036854775807) (hz1 : -64 ≤ z) (hz2 : z ≤ 64) (h : x < 0 ∨ y < x ∨ (n : Int) ≤ y) :
    Calls Try.prog 27 #[.slice a n c, .int .i64 x, .int .i64 y, .int .i64 z] w fun e w' => e = .returned (.tuple #[.slice none 0 0, .int .i64 2]) ∧ w' = w := by
  obtain ⟨hx1, hx2⟩ := hx
  obtain ⟨hy1, hy2⟩ := hy
  go_enter Try.func27, Try.ntmps27
  by_cases c1 : x < 0
  · clear h
    go_wp2
    exact bodyPost_ret (v := .tuple #[.slice none 0 0, .int .i64 2]) (by rw [results_tmp2 rfl]; rfl) rfl ⟨rfl, rfl⟩
  by_cases c2 : y < x
  · clear h
    go_wp2
    exact bodyPost_ret (v := .tuple #[.slice none 0 0, .int .i64 2]) (by rw [results_tmp2 rfl]; rfl) rfl ⟨rfl, rfl⟩
  have c3 : (n : Int) ≤ y := by omega
  clear h
  go_wp2
  exact bodyPost_ret (v := .tuple #[.slice none 0 0, .int .i64 2]) (by rw [results_tmp2 rfl]; rfl) rfl ⟨rfl, rfl⟩
set_option maxHeartbeats 1000000 in
theorem rturn_arg (v : Value) (r : Rgn) (how : Int) (w : World) (h1 : how ≠ 126) (h2 : how ≠ 117) (h3 : how ≠ 85) :
    Calls Try.prog 25 #[v, r.v, .int .i32 how] w fun e w' => e = .returned (.tuple #[.slice none 0 0, .int .i64 1]) ∧ Below w.heap.size w w' := by
  obtain ⟨⟨f1, f2⟩, ⟨t1, t2⟩, k⟩ := r
  show Calls Try.prog 25 #[v, .agg #[.int .i64 f1, .int .i64 f2, .int .i64 t1, .int .i64 t2, .int .i64 k], .int .i32 how] w _
  have e1 : (how != 126) = true := by simpa using h1
  have e2 : (how != 117) = true := by simpa using h2
  have e3 : (how != 85) = true := by simpa using h3
  go_enter Try.func25, Try.ntmps25
  go_wp2
  exact bodyPost_ret (v := .tuple #[.slice none 0 0, .int .i64 1]) (by rw [results_tmp2 rfl]; rfl) rfl ⟨rfl, (Below.refl _ _).alloc (Nat.le_refl _) _⟩
set_option maxHeartbeats 1000000 in
theorem rturn_no (F : Nat → Prop) (a : Option Addr) (n c : Nat) (L : List (List Int)) (r : Rgn) (how : Int) (w : World) (h : RdL F w a n c L) (hr : i64r r) (hw : how = 126 ∨ how = 117 ∨ how = 85) (hR : thereR L r ≠ 0) :
    Calls Try.prog 25 #[.slice a n c, r.v, .int .i32 how] w fun e w' => e = .returned (.tuple #[.slice none 0 0, .int .i64 (thereR L r)]) ∧ Below w.heap.size w w' := by
  obtain ⟨⟨f1, f2⟩, ⟨t1, t2⟩, k⟩ := r
  show Calls Try.prog 25 #[.slice a n c, .agg #[.int .i64 f1, .int .i64 f2, .int .i64 t1, .int .i64 t2, .int .i64 k], .int .i32 how] w _
  obtain ⟨wb, hwb⟩ : ∃ wb, w.alloc (.cells #[.int .i64 f1, .int .i64 f2, .int .i64 t1, .int .i64 t2, .int .i64 k] 26) = wb := ⟨_, rfl⟩
  have hB : Below w.heap.size w wb := by rw [← hwb]; exact (Below.refl _ _).alloc (Nat.le_refl _) _
  have hg := rg_new w ⟨⟨f1, f2⟩, ⟨t1, t2⟩, k⟩
  simp only at hg
  rw [hwb] at hg
  obtain ⟨E, hE⟩ : ∃ E, thereR L ⟨⟨f1, f2⟩, ⟨t1, t2⟩, k⟩ = E := ⟨_, rfl⟩
  have HC : Hid (∀ W, W = wb → Calls Try.prog 42 #[.slice a n c, .agg #[.int .i64 f1, .int .i64 f2, .int .i64 t1, .int .i64 t2, .int .i64 k]] W fun e w' => e = .returned (.int .i64 E) ∧ Hid (Below w.heap.size w w')) := by
    rintro W rfl
    refine (rthereR_any F a n c L ⟨⟨f1, f2⟩, ⟨t1, t2⟩, k⟩ E W (h.below hB) hr hE).mono ?_
    rintro e w' ⟨rfl, hb⟩
    exact ⟨rfl, hB.trans (hb.mono hB.size)⟩
  rw [hE] at hR ⊢
  have hE0 : (E != 0) = true := by simpa using hR
  obtain ⟨c0, c1, c2, c3, c4, l0⟩ := hg
  simp only at c0 c1 c2 c3 c4
  have HW := Lib.hid hwb
  obtain ⟨b, hbe⟩ : ∃ b, w.heap.size = b := ⟨_, rfl⟩
  have HBE := Lib.hid hbe
  rw [hbe] at HC c0 c1 c2 c3 c4 l0
  rw [hbe]
  clear hwb hB h hE hbe hr
  go_enter Try.func25, Try.ntmps25
  go_upto_region 1 with fail
  rw [HBE.out, HW.out]
  rcases hw with rfl | rfl | rfl <;>
  (go_wp2_with (go_at_call 42; (refine (HC.out _ rfl).mono ?_); rintro e w1 ⟨rfl, HB1⟩)
   exact bodyPost_ret (v := .tuple #[.slice none 0 0, .int .i64 E]) (by rw [results_tmp2 rfl]; rfl) rfl ⟨rfl, HB1.out⟩)
end Go.Proofs.Ytfldjoiohejilaa.U

namespace Go.Proofs.Ytfldjoiohejilaa.U
open Go.RowKit
set_option linter.unusedVariables false
set_option linter.unusedSimpArgs false
set_option maxRecDepth 100000

theorem wrap_i32K {x : Int} (h1 : -2147483648 ≤ x) (h2 : x ≤ 2147483647) : IntKind.i32.wrap x = x := by rw [IntKind.wrap_i32]; omega
theorem kturn1_any (c how : Int) (w : World) (hc : (Lit.int .i32 c).wf = true) :
    Calls Try.prog 63 #[.int .i32 c, .int .i32 how] w fun e w' => e = .returned (.int .i32 (turnC13 how c)) ∧ w' = w := by
  have hb := wf_i32_in hc
  unfold turnC13
  by_cases h1 : 97 ≤ c
  · have d1 : decide ((97 : Int) ≤ c) = true := by simp; omega
    by_cases h2 : c ≤ 122
    · have d2 : decide (c ≤ 122) = true := by simp; omega
      have d4 : decide (c ≤ 90) = false := by simp; omega
      have d3 : decide ((65 : Int) ≤ c) = true := by simp; omega
      have n4 : ¬ c ≤ 90 := by omega
      by_cases h3 : how = 117
      · subst h3
        rw [if_neg (by omega), if_neg (by omega)]
        go_enter Try.func63, Try.ntmps63
        go_wp2
        go_ret
        exact ⟨rfl, rfl⟩
      · have d5 : (how != 117) = true := by simpa using h3
        rw [if_pos ⟨⟨h1, h2⟩, h3⟩]
        have hw := @wrap_i32K (c - 32) (by omega) (by omega)
        go_enter Try.func63, Try.ntmps63
        go_wp2
        go_ret
        exact ⟨ret_int (by first | rfl | exact hw | omega), rfl⟩
    · have d2 : decide (c ≤ 122) = false := by simp; omega
      have d4 : decide (c ≤ 90) = false := by simp; omega
      have d3 : decide ((65 : Int) ≤ c) = true := by simp; omega
      have n4 : ¬ c ≤ 90 := by omega
      rw [if_neg (by omega), if_neg (by omega)]
      go_enter Try.func63, Try.ntmps63
      go_wp2
      go_ret
      exact ⟨rfl, rfl⟩
  · have d1 : decide ((97 : Int) ≤ c) = false := by simp; omega
    rw [if_neg (by omega)]
    by_cases h2 : 65 ≤ c
    · have d2 : decide ((65 : Int) ≤ c) = true := by simp; omega
      by_cases h3 : c ≤ 90
      · have d3 : decide (c ≤ 90) = true := by simp; omega
        by_cases h4 : how = 85
        · subst h4
          rw [if_neg (by omega)]
          go_enter Try.func63, Try.ntmps63
          go_wp2
          go_ret
          exact ⟨rfl, rfl⟩
        · have d5 : (how != 85) = true := by simpa using h4
          rw [if_pos ⟨⟨h2, h3⟩, h4⟩]
          have hw := @wrap_i32K (c + 32) (by omega) (by omega)
          go_enter Try.func63, Try.ntmps63
          go_wp2
          go_ret
          exact ⟨ret_int (by first | rfl | exact hw | omega), rfl⟩
      · have d3 : decide (c ≤ 90) = false := by simp; omega
        rw [if_neg (by omega)]
        go_enter Try.func63, Try.ntmps63
        go_wp2
        go_ret
        exact ⟨rfl, rfl⟩
    · have d2 : decide ((65 : Int) ≤ c) = false := by simp; omega
      rw [if_neg (by omega)]
      go_enter Try.func63, Try.ntmps63
      go_wp2
      go_ret
      exact ⟨rfl, rfl⟩
/-- a piece of a line with its first j runes turned -/
def turnP (how : Int) (fr j : Nat) (x : List Int) : List Int := x.take fr ++ ((x.drop fr).take j).map (turnC13 how) ++ x.drop (fr + j)
theorem turnP_zero (how : Int) (fr : Nat) (x : List Int) : turnP how fr 0 x = x := by simp [turnP]
theorem turnP_len (how : Int) {fr j : Nat} {x : List Int} (h : fr + j ≤ x.length) : (turnP how fr j x).length = x.length := by simp [turnP]; omega
theorem turnP_at (how : Int) {fr j i : Nat} {x : List Int} (h : fr + j ≤ x.length) (hi : fr + j ≤ i) : (turnP how fr j x)[i]? = x[i]? := by
  unfold turnP
  rw [List.getElem?_append_right (by simp; omega), List.getElem?_drop]
  congr 1
  simp; omega
theorem turnP_step (how : Int) {fr j : Nat} {x : List Int} {z : Int} (h : x[fr + j]? = some z) : turnP how fr (j + 1) x = (turnP how fr j x).set (fr + j) (turnC13 how z) := by
  obtain ⟨hl, he⟩ := List.getElem?_eq_some_iff.1 h
  unfold turnP
  have hd : (x.drop fr)[j]'(by simp; omega) = z := by rw [List.getElem_drop]; exact he
  rw [List.take_succ_eq_append_getElem (by simp; omega), hd, List.map_append, List.set_append_right _ _ (by simp; omega), List.drop_eq_getElem_cons hl]
  simp only [List.length_append, List.length_take, List.length_map, List.length_drop]
  rw [show fr + j - (min fr x.length + min j (x.length - fr)) = 0 by omega]
  simp [Nat.add_assoc]
end Go.Proofs.Ytfldjoiohejilaa.U

namespace Go.Proofs.Ytfldjoiohejilaa.U
open Go.RowKit
set_option linter.unusedVariables false
set_option linter.unusedSimpArgs false
set_option maxRecDepth 100000

theorem regHas_out {L : List (List Int)} {k : Int} {p q : Pl} (hk : 0 ≤ k) (hk2 : k ≤ 2) {i : Nat} (h : i < (endsR p q).1.1 ∨ (endsR p q).2.1 < i) (c : Nat) : regHas k p q (i, c) = false := by
  unfold regHas
  generalize endsR p q = E at *
  obtain ⟨⟨a1, a2⟩, ⟨b1, b2⟩⟩ := E
  simp only at h ⊢
  by_cases h0 : k = 0
  · rw [if_pos h0]
    unfold aheadP
    simp only [Bool.and_eq_false_iff, Bool.not_eq_false', Bool.or_eq_true, Bool.and_eq_true, decide_eq_true_eq]
    omega
  · rw [if_neg h0]
    by_cases h1 : k = 1
    · rw [if_pos h1]
      simp only [Bool.and_eq_false_iff, decide_eq_false_iff_not]
      omega
    · rw [if_neg h1]
      simp only [Bool.and_eq_false_iff, decide_eq_false_iff_not]
      omega
theorem turnP_get (how : Int) {fr j : Nat} {x : List Int} (h : fr + j ≤ x.length) (c : Nat) : (turnP how fr j x)[c]? = x[c]?.map (fun r => if fr ≤ c ∧ c < fr + j then turnC13 how r else r) := by
  unfold turnP
  by_cases h1 : c < fr
  · rw [List.append_assoc, List.getElem?_append_left (by simp; omega), List.getElem?_take, if_pos h1]
    rw [List.getElem?_eq_getElem (show c < x.length by omega)]
    simp; omega
  · by_cases h2 : c < fr + j
    · rw [List.append_assoc, List.getElem?_append_right (by simp; omega), List.getElem?_append_left (by simp; omega), List.getElem?_map, List.getElem?_take]
      simp only [List.length_take]
      rw [if_pos (by omega), List.getElem?_drop, show fr + (c - min fr x.length) = c by omega, List.getElem?_eq_getElem (show c < x.length by omega)]
      simp; omega
    · rw [List.getElem?_append_right (by simp; omega), List.getElem?_drop]
      simp only [List.length_append, List.length_take, List.length_map, List.length_drop]
      rw [show fr + j + (c - (min fr x.length + min j (x.length - fr))) = c by omega]
      cases hx : x[c]? with
      | none => rfl
      | some z => simp; omega
theorem turnX_get (k : Int) (p q : Pl) (how : Int) (i : Nat) (x : List Int) (c : Nat) : (turnX k p q how i x x.length)[c]? = x[c]?.map (fun r => if regHas k p q (i, c) then turnC13 how r else r) := by
  unfold turnX
  rw [List.take_length, List.drop_length, List.append_nil, List.getElem?_mapIdx]
/-- a line's turned runes are a piece -/
theorem turnX_of {L : List (List Int)} {k : Int} {p q : Pl} (how : Int) (hp : okP L p) (hq : okP L q) (hk : 0 ≤ k) (hk2 : k ≤ 2) {i : Nat} (h1 : (endsR p q).1.1 ≤ i) (h2 : i ≤ (endsR p q).2.1) :
    turnX k p q how i (lnL L i) (lnL L i).length = turnP how (ofF k p q i (lnL L i).length) (ofT k p q i (lnL L i).length - ofF k p q i (lnL L i).length) (lnL L i) := by
  obtain ⟨ha, hb⟩ := of_le (k := k) hp hq i
  apply List.ext_getElem?
  intro c
  rw [turnX_get, turnP_get how (by omega)]
  cases hx : (lnL L i)[c]? with
  | none => rfl
  | some z =>
    have hc := (List.getElem?_eq_some_iff.1 hx).1
    have hh := has_of hp hq hk hk2 h1 h2 hc
    simp only [Option.map_some]
    rw [hh]
    congr 1
    simp only [Bool.and_eq_true, decide_eq_true_eq]
    have : ofF k p q i (lnL L i).length + (ofT k p q i (lnL L i).length - ofF k p q i (lnL L i).length) = ofT k p q i (lnL L i).length := by omega
    rw [this]
theorem turnX_out {L : List (List Int)} {k : Int} {p q : Pl} (how : Int) (hk : 0 ≤ k) (hk2 : k ≤ 2) {i : Nat} (h : i < (endsR p q).1.1 ∨ (endsR p q).2.1 < i) (x : List Int) : turnX k p q how i x x.length = x := by
  apply List.ext_getElem?
  intro c
  rw [turnX_get]
  cases hx : x[c]? with
  | none => rfl
  | some z => simp [regHas_out (L := L) hk hk2 h c]
/-- the line i of a region, turned -/
def turnI (L : List (List Int)) (k : Int) (p q : Pl) (how : Int) (i : Nat) : List Int := turnP how (ofF k p q i (lnL L i).length) (ofT k p q i (lnL L i).length - ofF k p q i (lnL L i).length) (lnL L i)
theorem turnL_get (L : List (List Int)) (k : Int) (p q : Pl) (how : Int) (i : Nat) : (turnL L k p q how L.length)[i]? = L[i]?.map (fun x => turnX k p q how i x x.length) := by
  unfold turnL
  rw [List.take_length, List.drop_length, List.append_nil, List.getElem?_mapIdx]
theorem turnL_parts {L : List (List Int)} {k : Int} {p q : Pl} (how : Int) (hp : okP L p) (hq : okP L q) (hk : 0 ≤ k) (hk2 : k ≤ 2) :
    turnL L k p q how L.length = L.take (endsR p q).1.1 ++ (List.range (overN p q)).map (fun j => turnI L k p q how ((endsR p q).1.1 + j)) ++ L.drop ((endsR p q).2.1 + 1) := by
  obtain ⟨hA, hB⟩ := endsR_ok hp hq
  have hle := endsR_le p q
  have hov : overN p q = (endsR p q).2.1 + 1 - (endsR p q).1.1 := rfl
  have hB1 := hB.1
  apply List.ext_getElem?
  intro i
  rw [turnL_get]
  by_cases h1 : i < (endsR p q).1.1
  · rw [List.append_assoc, List.getElem?_append_left (by simp; omega), List.getElem?_take, if_pos h1]
    rw [List.getElem?_eq_getElem (show i < L.length by omega)]
    simp [turnX_out (L := L) how hk hk2 (Or.inl h1)]
  · by_cases h2 : i ≤ (endsR p q).2.1
    · rw [List.append_assoc, List.getElem?_append_right (by simp; omega), List.getElem?_append_left (by simp; omega), List.getElem?_map, List.getElem?_range (by simp; omega)]
      simp only [List.length_take, Option.map_some]
      rw [show (endsR p q).1.1 + (i - min (endsR p q).1.1 L.length) = i by omega]
      have hil : i < L.length := by omega
      rw [List.getElem?_eq_getElem hil]
      have hln : lnL L i = L[i] := lnL_of (List.getElem?_eq_getElem hil)
      have := turnX_of (k := k) how hp hq hk hk2 (i := i) (by omega) h2
      rw [← hln]
      simp only [Option.map_some]
      rw [this]
      rfl
    · rw [List.getElem?_append_right (by simp; omega), List.getElem?_drop]
      simp only [List.length_append, List.length_take, List.length_map, List.length_range]
      rw [show (endsR p q).2.1 + 1 + (i - (min (endsR p q).1.1 L.length + overN p q)) = i by omega]
      cases hx : L[i]? with
      | none => rfl
      | some x => exact congrArg some (turnX_out (L := L) how hk hk2 (Or.inr (by omega)) x)
theorem turnP_wf {how : Int} {fr j : Nat} {x : List Int} (hx : ∀ y ∈ x, (Lit.int .i32 y).wf = true) : ∀ y ∈ turnP how fr j x, (Lit.int .i32 y).wf = true := by
  have hc : ∀ z, (Lit.int .i32 z).wf = true → (Lit.int .i32 (turnC13 how z)).wf = true := by
    intro z hz
    unfold turnC13
    split
    · rename_i h
      have : IntKind.i32.min ≤ z - 32 ∧ z - 32 ≤ IntKind.i32.max := by show (-2147483648 : Int) ≤ _ ∧ _ ≤ (2147483647 : Int); omega
      simpa [Lit.wf] using this
    · split
      · have : IntKind.i32.min ≤ z + 32 ∧ z + 32 ≤ IntKind.i32.max := by show (-2147483648 : Int) ≤ _ ∧ _ ≤ (2147483647 : Int); omega
        simpa [Lit.wf] using this
      · exact hz
  intro y hy
  unfold turnP at hy
  rcases List.mem_append.1 hy with hy | hy
  · rcases List.mem_append.1 hy with hy | hy
    · exact hx y (List.mem_of_mem_take hy)
    · obtain ⟨z, hz, rfl⟩ := List.mem_map.1 hy
      exact hc z (hx z (List.mem_of_mem_drop (List.mem_of_mem_take hz)))
  · exact hx y (List.mem_of_mem_drop hy)
end Go.Proofs.Ytfldjoiohejilaa.U

namespace Go.Proofs.Ytfldjoiohejilaa.U
open Go.RowKit
set_option linter.unusedVariables false
set_option linter.unusedSimpArgs false
set_option maxRecDepth 100000

set_option maxHeartbeats 4000000 in
theorem kturnc_any (xa : Option Addr) (m xc : Nat) (x : List Int) (fr to_ hb : Nat) (how : Int) (w : World) (h : Rd .i32 w xa m xc x) (h1 : fr ≤ to_) (h2 : to_ ≤ m) (hm : m ≤ 1048576) (hc : w.cell? ⟨hb, 0, none⟩ = some (.int .i32 how)) :
    Calls Try.prog 62 #[.slice xa m xc, .int .i64 (fr : Nat), .int .i64 (to_ : Nat), .pointer (some ⟨hb, 0, none⟩)] w fun e w' => ∃ ra rc, e = .returned (.slice ra m rc) ∧ w'.ownsRow w.heap.size 21 1 (.slice ra m rc) m (ints (turnP how fr (to_ - fr) x)) ∧ Below w.heap.size w w' := by
  have hbl := block_lt_of_cell hc
  have hwf := h.2.2.2.1
  have hxl := h.1
  have HTU : Hid (∀ z W, (Lit.int .i32 z).wf = true → Calls Try.prog 63 #[.int .i32 z, .int .i32 how] W fun e w' => e = .returned (.int .i32 (turnC13 how z)) ∧ W = w') := fun z W hz => (kturn1_any z how W hz).mono fun _ _ h => ⟨h.1, h.2.symm⟩
  by_cases hm0 : m = 0
  · subst hm0
    obtain rfl : to_ = 0 := by omega
    obtain rfl : fr = 0 := by omega
    have hx : x = [] := List.eq_nil_of_length_eq_zero hxl
    subst hx
    have HC : Hid (Calls Try.prog 41 #[.slice xa 0 xc] w fun e w' => ∃ ra rc, e = .returned (.slice ra 0 rc) ∧ rc ≤ 9223372036854775807 ∧ Hid (w'.ownsRow w.heap.size 21 1 (.slice ra 0 rc) 0 (ints []) ∧ Below w.heap.size w w')) := by
      refine (copied_rd xa 0 xc [] w h (by omega)).mono ?_
      rintro e w' ⟨ra, rc, rfl, ho, hb⟩
      exact ⟨ra, rc, rfl, by have := (Rc.own ho).2.2.1; unfold maxLen at this; omega, ho, hb⟩
    have h00 : turnP how 0 (0 - 0) [] = [] := rfl
    rw [h00]
    clear h
    go_enter Try.func62, Try.ntmps62
    go_upto_region 2 with (go_at_call 41; (refine HC.out.mono ?_); rintro e w1 ⟨ra, rc, rfl, hrc, HF⟩)
    rcases ra with _ | ad
    · have hrc0 : rc = 0 := (Rc.own HF.out.1).2.2.2.1 rfl
      subst hrc0
      go_upto_region 3 with fail
      go_loopw [17] (fun v17 wr => v17 = .int .i64 0 ∧ wr = w1) (fun _ _ => 0)
      case atStart => exact ⟨rfl, rfl⟩
      case round =>
        obtain ⟨rfl, hwr⟩ := hrel
        subst hwr
        go_wp2_with fail
        go_ret
        exact ⟨_, _, rfl, HF.out.1, HF.out.2⟩
    · by_cases hrc0 : rc = 0
      · subst hrc0
        go_upto_region 3 with fail
        go_loopw [17] (fun v17 wr => v17 = .int .i64 0 ∧ wr = w1) (fun _ _ => 0)
        case atStart => exact ⟨rfl, rfl⟩
        case round =>
          obtain ⟨rfl, hwr⟩ := hrel
          subst hwr
          go_wp2_with fail
          go_ret
          exact ⟨_, _, rfl, HF.out.1, HF.out.2⟩
      · go_upto_region 3 with fail
        go_loopw [17] (fun v17 wr => v17 = .int .i64 0 ∧ wr = w1) (fun _ _ => 0)
        case atStart => exact ⟨rfl, rfl⟩
        case round =>
          obtain ⟨rfl, hwr⟩ := hrel
          subst hwr
          go_wp2_with fail
          go_ret
          exact ⟨_, _, rfl, HF.out.1, HF.out.2⟩
  · have HC : Hid (Calls Try.prog 41 #[.slice xa m xc] w fun e w' => ∃ g rc, e = .returned (.slice (some ⟨g, 0, none⟩) m rc) ∧ m ≤ rc ∧ rc ≤ 9223372036854775807 ∧ w'.cell? ⟨hb, 0, none⟩ = some (.int .i32 how) ∧ Hid (w.heap.size ≤ g ∧ w'.ownsRow w.heap.size 21 1 (.slice (some ⟨g, 0, none⟩) m rc) m (ints (turnP how fr 0 x)) ∧ Below w.heap.size w w')) := by
      refine (copied_rd xa m xc x w h (by omega)).mono ?_
      rintro e w' ⟨ra, rc, rfl, ho, hb2⟩
      obtain ⟨g, rfl⟩ := own_some ho (by omega)
      have h3 := (Rc.own ho).2.2.1
      unfold maxLen at h3
      rw [turnP_zero]
      exact ⟨g, rc, rfl, (Rc.own ho).2.1, by omega, (hb2.cell (p := ⟨hb, 0, none⟩) hbl).trans hc, (ho.lt g rfl).1, ho, hb2⟩
    have HX := Lib.hid (And.intro hxl hwf)
    clear h hc hxl hwf
    go_enter Try.func62, Try.ntmps62
    go_upto_region 2 with (go_at_call 41; (refine HC.out.mono ?_); rintro e w1 ⟨g, rc, rfl, hmr, hrc, hc1, HF⟩)
    by_cases hrf : rc = fr
    · have hmm : m = fr := by omega
      have htt : to_ = fr := by omega
      subst htt
      subst hmm
      subst hrf
      go_upto_region 3 with fail
      go_loopw [17] (fun v17 wr => v17 = .int .i64 0 ∧ wr = w1) (fun _ _ => 0)
      case atStart => exact ⟨rfl, rfl⟩
      case round =>
        obtain ⟨rfl, hwr⟩ := hrel
        subst hwr
        go_wp2_with fail
        go_ret
        exact ⟨_, _, rfl, by rw [Nat.sub_self]; exact HF.out.2.1, HF.out.2.2⟩
    · obtain ⟨N, hN⟩ : ∃ N, to_ - fr = N := ⟨_, rfl⟩
      have hNi : (to_ : Int) - (fr : Int) = (N : Int) := by omega
      have HN := Lib.hid hN
      clear hN
      go_upto_region 3 with fail
      go_loopw [17] (fun v17 wr => ∃ j : Nat, v17 = .int .i64 (j : Nat) ∧ j ≤ N ∧ Hid (wr.ownsRow w.heap.size 21 1 (.slice (some ⟨g, 0, none⟩) m rc) m (ints (turnP how fr j x)) ∧ wr.cell? ⟨hb, 0, none⟩ = some (.int .i32 how) ∧ Below w.heap.size w wr)) (fun v17 _ => N - (intOf v17).toNat)
      case atStart => exact ⟨0, rfl, Nat.zero_le _, HF.out.2.1, hc1, HF.out.2.2⟩
      case round =>
        obtain ⟨j, rfl, hj, hst⟩ := hrel
        by_cases hlt : j < N
        · have hlt2 : j < to_ - fr := by have := HN.out; omega
          obtain ⟨i, hi⟩ : ∃ i, fr + j = i := ⟨_, rfl⟩
          have him : i < m := by omega
          obtain ⟨z, hz⟩ : ∃ z, x[i]? = some z := ⟨_, List.getElem?_eq_getElem (by have := HX.out.1; omega)⟩
          have hzw : (Lit.int .i32 z).wf = true := HX.out.2 z (List.mem_of_getElem? hz)
          have hcz : wr.cell? ⟨g, i, none⟩ = some (.int .i32 z) := by
            have ha := (Rc.own hst.out.1).src (by omega)
            obtain ⟨ad, e1, e2⟩ := ha
            cases e1
            have h3 := e2 i (.int .i32 z) (by unfold ints; rw [List.getElem?_map, turnP_at how (by have := HX.out.1; omega) (by omega), hz]; rfl)
            rwa [add_lit, Nat.zero_add] at h3
          have hgl := hst.out.1.lt g rfl
          obtain ⟨cur, hcur⟩ := own_heap hst.out.1 (k := g) rfl
          have hfz := frozen_row hcur i
          have hch := hst.out.2.1
          have hgb : ¬ hb = g := by
            intro e
            have := hgl.1
            omega
          have hcz2 : wr.cell? ⟨g, fr + j, none⟩ = some (.int .i32 z) := by rw [hi]; exact hcz
          have hij : (fr : Int) + (j : Int) = (i : Int) := by omega
          have HCT : Hid (∀ W, Calls Try.prog 63 #[.int .i32 z, .int .i32 how] W fun e w' => e = .returned (.int .i32 (turnC13 how z)) ∧ W = w') := fun W => HTU.out z W hzw
          have HNN : Hid (∀ W, W = wr → ((W.setCell ⟨g, i, none⟩ (.int .i32 (turnC13 how z))).ownsRow w.heap.size 21 1 (.slice (some ⟨g, 0, none⟩) m rc) m (ints (turnP how fr (j + 1) x)) ∧ (W.setCell ⟨g, i, none⟩ (.int .i32 (turnC13 how z))).cell? ⟨hb, 0, none⟩ = some (.int .i32 how) ∧ Below w.heap.size w (W.setCell ⟨g, i, none⟩ (.int .i32 (turnC13 how z))))) := by
            rintro W rfl
            refine ⟨?_, ?_, setCell_below hst.out.2.2 _ _ _ hgl.1⟩
            · have h3 := own_set hst.out.1 (i := i) (by omega) (.int .i32 (turnC13 how z))
              have h4 : (ints (turnP how fr j x)).set i (.int .i32 (turnC13 how z)) = ints (turnP how fr (j + 1) x) := by
                rw [turnP_step how (by rw [hi]; exact hz), hi]
                unfold ints
                rw [List.map_set]
              rw [h4] at h3
              exact h3
            · have hfr : Fr (fun q => q = g) W (W.setCell ⟨g, i, none⟩ (.int .i32 (turnC13 how z))) := (Fr.refl _ W).setCell _ _ (fun _ => rfl)
              exact (cell_blockK (hfr.block hb (block_lt_of_cell hst.out.2.1) hgb)).trans hst.out.2.1
          have hgw : g < wr.heap.size := hgl.2
          have HI := Lib.hid hi
          clear hst hz hcur hzw hgl hi
          have hfj : fr + j < m := by have := HI.out; omega
          go_wp2_with (go_at_call 63; (refine (HCT.out _).mono ?_); rintro e wq ⟨rfl, hwq⟩; subst hwq)
          go_roundw
          case rel => exact ⟨j + 1, by go_num, by omega, HNN.out _ rfl⟩
          case measure => simp [intOf]; omega
        · have hjn : j = N := by omega
          have hge : ¬ j < to_ - fr := by have := HN.out; omega
          have HFF : Hid (wr.ownsRow w.heap.size 21 1 (.slice (some ⟨g, 0, none⟩) m rc) m (ints (turnP how fr (to_ - fr) x)) ∧ Below w.heap.size w wr) := by
            have h3 := hst.out
            have h4 : j = to_ - fr := by have := HN.out; omega
            rw [h4] at h3
            exact ⟨h3.1, h3.2.2⟩
          clear hst
          go_wp2_with fail
          go_ret
          exact ⟨_, _, rfl, HFF.out.1, HFF.out.2⟩
end Go.Proofs.Ytfldjoiohejilaa.U

namespace Go.Proofs.Ytfldjoiohejilaa.U
open Go.RowKit
set_option linter.unusedVariables false
set_option linter.unusedSimpArgs false
set_option maxRecDepth 100000

/-- Turn's first boxes: the region, how -/
def TnS (w : World) (b : Nat) (r : Rgn) (how : Int) (W : World) : Prop := Below b w W ∧ RgB b r W ∧ W.heap[b + 1]? = some (.cells #[.int .i32 how] 21 (0, 0))
theorem TnS.below {w W W' : World} {b : Nat} {r : Rgn} {how : Int} (h : TnS w b r how W) (hw : w.heap.size = b) (hb : Below W.heap.size W W') : TnS w b r how W' :=
  ⟨h.1.trans (hb.mono (by have := h.1.size; omega)), h.2.1.below hb, (hb.block _ (heap_lt h.2.2)).trans h.2.2⟩
theorem tns_new (w : World) (r : Rgn) (how : Int) : TnS w w.heap.size r how ((w.alloc (.cells #[.int .i64 r.f.l, .int .i64 r.f.c, .int .i64 r.t.l, .int .i64 r.t.c, .int .i64 r.k] 26)).alloc (.cells #[.int .i32 how] 21)) := by
  obtain ⟨g1, g2⟩ := two_new w #[.int .i64 r.f.l, .int .i64 r.f.c, .int .i64 r.t.l, .int .i64 r.t.c, .int .i64 r.k] #[.int .i32 how] 26 21 _ (Below.refl _ _)
  exact ⟨((Below.refl _ _).alloc (Nat.le_refl _) _).alloc (by simp) _, RgB.of g1, g2⟩
/-- and the area's at d -/
structure TvS (w : World) (b d : Nat) (how : Int) (cs : Array Value) (W : World) : Prop where
  hb : Below b w W
  z : W.heap[b + 1]? = some (.cells #[.int .i32 how] 21 (0, 0))
  ar : ArH d cs W
theorem TvS.below {w W W' : World} {b d : Nat} {how : Int} {cs : Array Value} (h : TvS w b d how cs W) (hw : w.heap.size = b) (hb : Below W.heap.size W W') : TvS w b d how cs W' :=
  ⟨h.hb.trans (hb.mono (by have := h.hb.size; omega)), (hb.block _ (heap_lt h.z)).trans h.z, h.ar.below hb⟩
set_option maxHeartbeats 4000000 in
theorem kturn_arg (v : Value) (r : Rgn) (how : Int) (w : World) (h1 : how ≠ 126) (h2 : how ≠ 117) (h3 : how ≠ 85) :
    Calls Try.prog 24 #[v, r.v, .int .i32 how] w fun e w' => e = .returned (.tuple #[.slice none 0 0, .int .i64 1]) ∧ Below w.heap.size w w' := by
  obtain ⟨⟨f1, f2⟩, ⟨t1, t2⟩, k⟩ := r
  have d1 : (how != 126) = true := by simpa using h1
  have d2 : (how != 117) = true := by simpa using h2
  have d3 : (how != 85) = true := by simpa using h3
  obtain ⟨wb, hwb⟩ : ∃ wb, (w.alloc (.cells #[.int .i64 f1, .int .i64 f2, .int .i64 t1, .int .i64 t2, .int .i64 k] 26)).alloc (.cells #[.int .i32 how] 21) = wb := ⟨_, rfl⟩
  have hnew := tns_new w ⟨⟨f1, f2⟩, ⟨t1, t2⟩, k⟩ how
  simp only at hnew
  rw [hwb] at hnew
  have HB := Lib.hid hnew.1
  have q0 := cell_row hnew.2.2 0
  have ql := heap_lt hnew.2.2
  have HW := Lib.hid hwb
  clear hnew hwb
  show Calls Try.prog 24 #[v, .agg #[.int .i64 f1, .int .i64 f2, .int .i64 t1, .int .i64 t2, .int .i64 k], .int .i32 how] w _
  go_enter Try.func24, Try.ntmps24
  go_upto_region 1 with fail
  rw [HW.out]
  go_wp2
  go_ret2
  exact ⟨rfl, HB.out⟩
set_option maxHeartbeats 4000000 in
theorem kturn_no (F : Nat → Prop) (a : Option Addr) (n c : Nat) (L : List (List Int)) (r : Rgn) (how : Int) (w : World) (h : RdL F w a n c L) (hr : i64r r) (hhow : how = 126 ∨ how = 117 ∨ how = 85) (hR : thereR L r ≠ 0) :
    Calls Try.prog 24 #[.slice a n c, r.v, .int .i32 how] w fun e w' => e = .returned (.tuple #[.slice none 0 0, .int .i64 (thereR L r)]) ∧ Below w.heap.size w w' := by
  have hfi := fun W (hW : Below w.heap.size w W) => kfind_no F a n c L r _ W (h.below hW) hr rfl hR
  obtain ⟨E, hE⟩ : ∃ E, thereR L r = E := ⟨_, rfl⟩
  rw [hE] at hR hfi ⊢
  obtain ⟨⟨f1, f2⟩, ⟨t1, t2⟩, k⟩ := r
  have hE0 : (E != 0) = true := by simpa using hR
  have hw3 : (how != 126) = false ∨ ((how != 126) = true ∧ ((how != 117) = false ∨ ((how != 117) = true ∧ (how != 85) = false))) := by
    rcases hhow with rfl | rfl | rfl <;> decide
  obtain ⟨wb, hwb⟩ : ∃ wb, (w.alloc (.cells #[.int .i64 f1, .int .i64 f2, .int .i64 t1, .int .i64 t2, .int .i64 k] 26)).alloc (.cells #[.int .i32 how] 21) = wb := ⟨_, rfl⟩
  have hnew := tns_new w ⟨⟨f1, f2⟩, ⟨t1, t2⟩, k⟩ how
  simp only at hnew
  rw [hwb] at hnew
  obtain ⟨b, hbe⟩ : ∃ b, w.heap.size = b := ⟨_, rfl⟩
  have HC : Hid (∀ W, W = wb → Calls Try.prog 38 #[.slice a n c, .agg #[.int .i64 f1, .int .i64 f2, .int .i64 t1, .int .i64 t2, .int .i64 k]] W fun e w' => e = .returned (.tuple #[.agg #[.int .i64 0, .int .i64 0, .int .i64 0, .int .i64 0, .int .i64 0, .int .i64 0, .int .i64 0], .int .i64 E]) ∧ Hid (TnS w b ⟨⟨f1, f2⟩, ⟨t1, t2⟩, k⟩ how w')) := by
    rintro W rfl
    refine (hfi W hnew.1).mono ?_
    rintro e w' ⟨rfl, hb⟩
    rw [← hbe]
    exact ⟨rfl, hnew.below rfl hb⟩
  have HBE := Lib.hid hbe
  rw [hbe] at hnew
  rw [hbe]
  obtain ⟨c0, c1, c2, c3, c4, l0⟩ := hnew.2.1
  simp only at c0 c1 c2 c3 c4
  have q0 := cell_row hnew.2.2 0
  have ql := heap_lt hnew.2.2
  have HW := Lib.hid hwb
  clear hwb hnew hbe h hfi hE hR hr hhow
  show Calls Try.prog 24 #[.slice a n c, .agg #[.int .i64 f1, .int .i64 f2, .int .i64 t1, .int .i64 t2, .int .i64 k], .int .i32 how] w _
  rcases hw3 with e1 | ⟨e1, e2 | ⟨e2, e3⟩⟩
  all_goals
    go_enter Try.func24, Try.ntmps24
    go_upto_region 1 with fail
    rw [HBE.out, HW.out]
    go_upto_region 4 with (go_at_call 38; (refine (HC.out _ rfl).mono ?_); rintro e w1 ⟨rfl, HT⟩)
    have HT2 : Hid (TnS w b ⟨⟨f1, f2⟩, ⟨t1, t2⟩, k⟩ how (w1.alloc (.cells #[.int .i64 0, .int .i64 0, .int .i64 0, .int .i64 0, .int .i64 0, .int .i64 0, .int .i64 0] 68))) := HT.out.below HBE.out (bal _ _)
    go_wp2
    go_ret2
    exact ⟨rfl, HT2.out.1⟩
set_option maxHeartbeats 8000000 in
theorem kturn_ok (F : Nat → Prop) (a : Option Addr) (n c : Nat) (L : List (List Int)) (p q : Pl) (k how : Int) (w : World) (h : RdL F w a n c L) (hs : sizeN (lens L) ≤ 65536) (hp : okP L p) (hq : okP L q) (h1 : 0 ≤ k) (h2 : k ≤ 2) (hhow : how = 126 ∨ how = 117 ∨ how = 85) :
    Calls Try.prog 24 #[.slice a n c, rgnV p q k, .int .i32 how] w fun e w' => ∃ ra m rc, e = .returned (.tuple #[.slice ra m rc, .int .i64 0]) ∧ RdL (fun x => w.heap.size ≤ x) w' ra m rc (turnL L k p q how L.length) ∧ Below w.heap.size w w' := by
  have hl := h.len
  have hcnt := size_count L
  have hs6 : sizeN (lens L) ≤ 1048576 := by omega
  have hfi := fun W (hW : Below w.heap.size w W) => kfind_ok F a n c L p q k W (h.below hW) hs6 hp hq h1 h2
  obtain ⟨hoA, hoB⟩ := endsR_ok hp hq
  have hBi := i64_okP h hs6 hoB
  have hqi := i64_okP h hs6 hq
  have hpi := i64_okP h hs6 hp
  have hle := endsR_le p q
  have hBn : (endsR p q).2.1 < n := by have := hoB.1; omega
  have hovn : overN p q ≤ n := by unfold overN; omega
  have hth := fun (hbx : Nat) W (hW : Below w.heap.size w W) (hcell : W.cell? ⟨hbx, 0, none⟩ = some (.int .i32 how)) => kthrough_box F a n c L k (endsR p q).1 (endsR p q).2 (min p.2 q.2) (max p.2 q.2) hbx 62 (turnI L k p q how) W (h.below hW) hs6 h1 h2 hle hBn (by omega) (by omega) (fun xs W => rfl)
    (fun i x xa xc W2 hi1 hi2 hx hW2 hrd => by
      have hxl : x.length ≤ 1048576 := by
        have hm : x.length ∈ lens L := List.mem_map.2 ⟨_, List.mem_of_getElem? hx, rfl⟩
        have := sizeN_mem hm
        omega
      have hln := lnL_of hx
      have hof := of_le (k := k) hp hq i
      rw [hln] at hof
      have hti : turnI L k p q how i = turnP how (ofF k p q i x.length) (ofT k p q i x.length - ofF k p q i x.length) x := by unfold turnI; rw [hln]
      have hlen : (turnI L k p q how i).length = x.length := by rw [hti, turnP_len how (by omega)]
      refine (kturnc_any xa x.length xc x (agF k (endsR p q).1 (min p.2 q.2) i x.length) (agT k (endsR p q).2 (max p.2 q.2) i x.length) hbx how W2 hrd (by rw [agF_of, agT_of]; exact hof.1) (by rw [agT_of]; exact hof.2) hxl ((hW2.cell (p := ⟨hbx, 0, none⟩) (block_lt_of_cell hcell)).trans hcell)).mono ?_
      rintro e w' ⟨ra, rc, rfl, ho, hb⟩
      rw [agF_of, agT_of] at ho
      rw [hlen, hti]
      exact ⟨ra, rc, rfl, ho, hb⟩)
  have hov : (endsR p q).2.1 + 1 - (endsR p q).1.1 = overN p q := rfl
  rw [hov] at hth
  have hparts := turnL_parts (k := k) how hp hq h1 h2
  have hTw : ∀ x ∈ thrL (turnI L k p q how) (endsR p q).1.1 (overN p q), ∀ y ∈ x, (Lit.int .i32 y).wf = true := by
    intro x hx
    obtain ⟨i, -, rfl⟩ := List.mem_map.1 hx
    exact turnP_wf (ln_wf h _)
  have hTT : (List.range (overN p q)).map (fun j => turnI L k p q how ((endsR p q).1.1 + j)) = thrL (turnI L k p q how) (endsR p q).1.1 (overN p q) := rfl
  rw [hTT] at hparts
  obtain ⟨T, hT⟩ : ∃ T, thrL (turnI L k p q how) (endsR p q).1.1 (overN p q) = T := ⟨_, rfl⟩
  obtain ⟨O, hO⟩ : ∃ O, overN p q = O := ⟨_, rfl⟩
  rw [hT] at hth hparts hTw
  rw [hO] at hth hovn
  obtain ⟨R, hRR⟩ : ∃ R, turnL L k p q how L.length = R := ⟨_, rfl⟩
  rw [hRR] at hparts ⊢
  obtain ⟨lo, hlo⟩ : ∃ lo, min p.2 q.2 = lo := ⟨_, rfl⟩
  obtain ⟨hi, hhi⟩ : ∃ hi, max p.2 q.2 = hi := ⟨_, rfl⟩
  rw [hlo, hhi] at hth hfi
  obtain ⟨⟨⟨a1, a2⟩, ⟨b1, b2⟩⟩, hEE⟩ : ∃ E, endsR p q = E := ⟨_, rfl⟩
  rw [hEE] at hth hfi hparts hBn hBi hle
  obtain ⟨x1, x2⟩ := p
  obtain ⟨y1, y2⟩ := q
  unfold rgnV areaV at *
  simp only at hth hfi hparts hBn hBi hle ⊢
  have hw3 : (how != 126) = false ∨ ((how != 126) = true ∧ ((how != 117) = false ∨ ((how != 117) = true ∧ (how != 85) = false))) := by
    rcases hhow with rfl | rfl | rfl <;> decide
  obtain ⟨wb, hwb⟩ : ∃ wb, (w.alloc (.cells #[.int .i64 (x1 : Nat), .int .i64 (x2 : Nat), .int .i64 (y1 : Nat), .int .i64 (y2 : Nat), .int .i64 k] 26)).alloc (.cells #[.int .i32 how] 21) = wb := ⟨_, rfl⟩
  have hnew := tns_new w ⟨⟨(x1 : Nat), (x2 : Nat)⟩, ⟨(y1 : Nat), (y2 : Nat)⟩, k⟩ how
  simp only at hnew
  rw [hwb] at hnew
  obtain ⟨b, hbe⟩ : ∃ b, w.heap.size = b := ⟨_, rfl⟩
  have HC : Hid (∀ W, W = wb → Calls Try.prog 38 #[.slice a n c, .agg #[.int .i64 (x1 : Nat), .int .i64 (x2 : Nat), .int .i64 (y1 : Nat), .int .i64 (y2 : Nat), .int .i64 k]] W fun e w' => e = .returned (.tuple #[.agg #[.int .i64 k, .int .i64 (a1 : Nat), .int .i64 (a2 : Nat), .int .i64 (b1 : Nat), .int .i64 (b2 : Nat), .int .i64 (lo : Nat), .int .i64 (hi : Nat)], .int .i64 0]) ∧ Hid (TnS w b ⟨⟨(x1 : Nat), (x2 : Nat)⟩, ⟨(y1 : Nat), (y2 : Nat)⟩, k⟩ how w')) := by
    rintro W rfl
    refine (hfi W hnew.1).mono ?_
    rintro e w' ⟨rfl, hb⟩
    rw [← hbe]
    exact ⟨rfl, hnew.below rfl hb⟩
  have HROOM : Hid (∀ W, Below w.heap.size w W → Calls Try.prog 61 #[.slice a n c] W fun e w' => e = .returned (.int .i64 (65537 - (sizeN (lens L) : Int))) ∧ W = w') := fun W hW => (kroom_any F a n c L W (h.below hW) (by omega)).mono fun _ _ h => ⟨h.1, h.2.symm⟩
  have hneg : ¬ (65537 - (sizeN (lens L) : Int)) < 0 := by omega
  have hdn : decide ((65537 - (sizeN (lens L) : Int)) < 0) = false := by simp; omega
  obtain ⟨S, hS⟩ : ∃ S, (65537 - (sizeN (lens L) : Int)) = S := ⟨_, rfl⟩
  rw [hS] at HROOM hneg hdn
  have HTH : Hid (∀ W d, Hid (TvS w b d how #[.int .i64 k, .int .i64 (a1 : Nat), .int .i64 (a2 : Nat), .int .i64 (b1 : Nat), .int .i64 (b2 : Nat), .int .i64 (lo : Nat), .int .i64 (hi : Nat)] W) → Calls Try.prog 39 #[.slice a n c, .agg #[.int .i64 k, .int .i64 (a1 : Nat), .int .i64 (a2 : Nat), .int .i64 (b1 : Nat), .int .i64 (b2 : Nat), .int .i64 (lo : Nat), .int .i64 (hi : Nat)], .func (.func 62) #[] #[.pointer (some ⟨b + 1, 0, none⟩)]] W fun e w' => ∃ ra rc, e = .returned (.slice ra O rc) ∧ Hid (RdL (fun x => b ≤ x) w' ra O rc T ∧ TvS w b d how #[.int .i64 k, .int .i64 (a1 : Nat), .int .i64 (a2 : Nat), .int .i64 (b1 : Nat), .int .i64 (b2 : Nat), .int .i64 (lo : Nat), .int .i64 (hi : Nat)] w')) := by
    intro W d hW
    refine (hth (b + 1) W (by rw [hbe]; exact hW.out.hb) (cell_row hW.out.z 0)).mono ?_
    rintro e w' ⟨ra, rc, rfl, hF, hb⟩
    have hT2 := hW.out.below hbe hb
    exact ⟨ra, rc, rfl, (hF.rdl hTw).mono (fun x hx => by have := heap_lt hW.out.z; omega), hT2⟩
  have HREP : Hid (∀ W d la lc, Hid (RdL (fun x => b ≤ x) W la O lc T ∧ TvS w b d how #[.int .i64 k, .int .i64 (a1 : Nat), .int .i64 (a2 : Nat), .int .i64 (b1 : Nat), .int .i64 (b2 : Nat), .int .i64 (lo : Nat), .int .i64 (hi : Nat)] W) → Calls Try.prog 47 #[.slice a n c, .int .i64 (a1 : Nat), .int .i64 ((b1 + 1 : Nat) : Int), .slice la O lc] W fun e w' => ∃ (va : Option Addr) (vn vc : Nat), e = .returned (.slice va vn vc) ∧ Hid (RdL (fun x => b ≤ x) w' va vn vc R ∧ Below b w w')) := by
    intro W d la lc hW
    have hbW := hW.out.2.hb
    rw [← hbe] at hbW
    refine (kreplaced_any F _ a n c L la O lc T a1 (b1 + 1) W (h.below hbW) hW.out.1 (by omega) (by omega) (by omega) (by omega) (by omega)).mono ?_
    rintro e w' ⟨va, vc, rfl, hr2, hb⟩
    rw [← hparts] at hr2
    have hzW := heap_lt hW.out.2.z
    exact ⟨va, _, vc, rfl, hr2.mono (fun x hx => by rcases hx with hx | hx; exact hx; omega), (hW.out.2.below hbe hb).hb⟩
  have HBE := Lib.hid hbe
  rw [hbe] at hnew
  rw [hbe]
  obtain ⟨c0, c1, c2, c3, c4, l0⟩ := hnew.2.1
  simp only at c0 c1 c2 c3 c4
  have q0 := cell_row hnew.2.2 0
  have ql := heap_lt hnew.2.2
  have HW := Lib.hid hwb
  have hb1i : (b1 : Int) + 1 = ((b1 + 1 : Nat) : Int) := by omega
  obtain ⟨B2, hB2⟩ : ∃ B2, b1 + 1 = B2 := ⟨_, rfl⟩
  rw [hB2] at HREP hb1i
  have hbb : b1 ≤ 1048576 := hBi.1
  have hnb : n ≤ 1048576 := by omega
  clear hwb hnew hbe h hfi hth hEE hlo hhi hs hp hq hoA hoB hBi hqi hpi hle hov hT hO hl hB2 hTw hovn hRR hcnt hs6 hBn hparts hTT hhow hS
  rcases hw3 with e1 | ⟨e1, e2 | ⟨e2, e3⟩⟩
  all_goals
    go_enter Try.func24, Try.ntmps24
    go_upto_region 1 with fail
    rw [HBE.out, HW.out]
    go_upto_region 4 with (go_at_call 38; (refine (HC.out _ rfl).mono ?_); rintro e w1 ⟨rfl, HT⟩)
    have hg2 := heap_alloc_new w1 (.cells #[.int .i64 k, .int .i64 (a1 : Nat), .int .i64 (a2 : Nat), .int .i64 (b1 : Nat), .int .i64 (b2 : Nat), .int .i64 (lo : Nat), .int .i64 (hi : Nat)] 68)
    have HT2 : Hid (TvS w b w1.heap.size how #[.int .i64 k, .int .i64 (a1 : Nat), .int .i64 (a2 : Nat), .int .i64 (b1 : Nat), .int .i64 (b2 : Nat), .int .i64 (lo : Nat), .int .i64 (hi : Nat)] (w1.alloc (.cells #[.int .i64 k, .int .i64 (a1 : Nat), .int .i64 (a2 : Nat), .int .i64 (b1 : Nat), .int .i64 (b2 : Nat), .int .i64 (lo : Nat), .int .i64 (hi : Nat)] 68))) := ⟨HT.out.1.trans ((bal _ _).mono (by have := HT.out.1.size; have := HBE.out; omega)), ((bal w1 _).block _ (heap_lt HT.out.2.2)).trans HT.out.2.2, hg2⟩
    obtain ⟨w2, hw2⟩ : ∃ w2, (w1.alloc (.cells #[.int .i64 k, .int .i64 (a1 : Nat), .int .i64 (a2 : Nat), .int .i64 (b1 : Nat), .int .i64 (b2 : Nat), .int .i64 (lo : Nat), .int .i64 (hi : Nat)] 68)) = w2 := ⟨_, rfl⟩
    obtain ⟨d, hd⟩ : ∃ d, w1.heap.size = d := ⟨_, rfl⟩
    rw [hw2] at HT2 hg2
    rw [hd] at hg2 HT2
    rw [hw2, hd]
    clear hw2 hd c0 c1 c2 c3 c4 l0 q0 ql
    obtain ⟨g0, g1, g2, g3, g4, g5, g6, -, -, -, -, -, -, -, gl⟩ := ArB.of hg2
    clear hg2
    have HRM : Hid (∀ W, W = w2 → Calls Try.prog 61 #[.slice a n c] W fun e w' => e = .returned (.int .i64 S) ∧ W = w') := by
      rintro W rfl
      exact HROOM.out W (by rw [HBE.out]; exact HT2.out.hb)
    go_upto_region 9 with (first
      | (go_at_call 61; (refine (HRM.out _ rfl).mono ?_); rintro e wq ⟨rfl, hwq⟩; subst hwq)
      | (go_at_call 39; (refine (HTH.out _ _ HT2).mono ?_); rintro e w3 ⟨ra, rc, rfl, HR3⟩))
    clear g0 g1 g2 g3 g4 g5 g6 gl
    obtain ⟨g0, g1, g2, g3, g4, g5, g6, -, -, -, -, -, -, -, gl⟩ := ArB.of HR3.out.2.ar
    go_wp2_with (go_at_call 47; (refine (HREP.out _ _ _ _ HR3).mono ?_); rintro e w6 ⟨va, vn, vc, rfl, HR6⟩)
    go_ret2
    exact ⟨_, _, _, rfl, HR6.out.1, HR6.out.2⟩
/-- Turn, of lines that are not too many -/
def TurnK (f : FuncId) : Prop := ∀ (F : Nat → Prop) (a : Option Addr) (n c : Nat) (L : List (List Int)) (r : Rgn) (how : Int) (w : World), RdL F w a n c L → sizeN (lens L) ≤ 65536 → i64r r →
  Calls Try.prog f #[.slice a n c, r.v, .int .i32 how] w fun e w' => ∃ ra m rc, e = .returned (.tuple #[.slice ra m rc, .int .i64 (turnR L r how).2]) ∧ RdL (fun x => w.heap.size ≤ x) w' ra m rc (turnR L r how).1 ∧ Below w.heap.size w w'
theorem kturnK : TurnK 24 := by
  intro F a n c L r how w h hs hr
  by_cases hh : how ≠ 126 ∧ how ≠ 117 ∧ how ≠ 85
  · have ht : turnR L r how = ([], 1) := by unfold turnR; rw [if_pos hh]
    rw [ht]
    refine (kturn_arg _ r how w hh.1 hh.2.1 hh.2.2).mono ?_
    rintro e w' ⟨rfl, h2⟩
    exact ⟨none, 0, 0, rfl, RdL.none0 _ _, h2⟩
  have hhow : how = 126 ∨ how = 117 ∨ how = 85 := by omega
  by_cases h0 : thereR L r = 0
  · obtain ⟨hL, p, q, hrv, hp, hq, ho1, ho2, hk1, hk2⟩ := there_ok h0
    have hv : r.v = rgnV p q r.k := by rw [hrv]; rfl
    have ht : turnR L r how = (turnL L r.k p q how L.length, 0) := by unfold turnR; rw [if_neg hh, if_pos h0, hp, hq]
    rw [hv, ht]
    exact kturn_ok F a n c L p q r.k how w h hs ho1 ho2 hk1 hk2 hhow
  · have ht : turnR L r how = ([], thereR L r) := by unfold turnR; rw [if_neg hh, if_neg h0]
    rw [ht]
    refine (kturn_no F a n c L r how w h hr hhow h0).mono ?_
    rintro e w' ⟨rfl, h2⟩
    exact ⟨none, 0, 0, rfl, RdL.none0 _ _, h2⟩
theorem rturnK : TurnK 25 := by
  intro F a n c L r how w h hs hr
  by_cases hh : how ≠ 126 ∧ how ≠ 117 ∧ how ≠ 85
  · have ht : turnR L r how = ([], 1) := by unfold turnR; rw [if_pos hh]
    rw [ht]
    refine (rturn_arg _ r how w hh.1 hh.2.1 hh.2.2).mono ?_
    rintro e w' ⟨rfl, h2⟩
    exact ⟨none, 0, 0, rfl, RdL.none0 _ _, h2⟩
  have hhow : how = 126 ∨ how = 117 ∨ how = 85 := by omega
  by_cases h0 : thereR L r = 0
  · obtain ⟨hL, p, q, hrv, hp, hq, ho1, ho2, hk1, hk2⟩ := there_ok h0
    have hv : r.v = rgnV p q r.k := by rw [hrv]; rfl
    have hl := h.len
    have ht : turnR L r how = (turnL L r.k p q how L.length, 0) := by unfold turnR; rw [if_neg hh, if_pos h0, hp, hq]
    rw [hv, ht]
    refine (rturn_ok F a n c L p q r.k how w h (by omega) ho1 ho2 hk1 hk2 hhow).mono ?_
    rintro e w' ⟨ra, rc, rfl, h1, h2⟩
    rw [hl]
    refine ⟨ra, n, rc, rfl, h1.rdl ?_, h2⟩
    have hw := lines_wf (rdl_wf h)
    have hparts := turnL_parts (k := r.k) how ho1 ho2 hk1 hk2
    rw [hl] at hparts
    rw [hparts]
    intro x hx
    rcases List.mem_append.1 hx with hx | hx
    · rcases List.mem_append.1 hx with hx | hx
      · exact hw x (List.mem_of_mem_take hx)
      · obtain ⟨i, -, rfl⟩ := List.mem_map.1 hx
        exact turnP_wf (ln_wf h _)
    · exact hw x (List.mem_of_mem_drop hx)
  · have ht : turnR L r how = ([], thereR L r) := by unfold turnR; rw [if_neg hh, if_neg h0]
    rw [ht]
    refine (rturn_no F a n c L r how w h hr hhow h0).mono ?_
    rintro e w' ⟨rfl, h2⟩
    exact ⟨none, 0, 0, rfl, RdL.none0 _ _, h2⟩
end Go.Proofs.Ytfldjoiohejilaa.U
