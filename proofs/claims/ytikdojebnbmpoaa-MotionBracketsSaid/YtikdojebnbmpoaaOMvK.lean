/-
  Each row of the table of motions tells what mvP tells for its key. (MADE by wip/tools/gen_omvk.py.)
-/
import Derived.Test.YtikdojebnbmpoaaOFar
import Derived.Test.YtikdojebnbmpoaaOTill
import Derived.Test.YtikdojebnbmpoaaOPart
import Derived.Test.YtikdojebnbmpoaaONext
namespace Go.Proofs.Ytikdojebnbmpoaa.U
open Go.RowKit
set_option linter.unusedVariables false
set_option linter.unusedSimpArgs false
set_option maxRecDepth 100000

/-- what a row tells, beside what the motion tells -/
def Tells (X : Option (Pl × Int)) (r : Value) (ok : Bool) (h : Int) : Prop := ∃ x y : Int, r = .agg #[.int .i64 x, .int .i64 y] ∧ ((ok = false ∧ X = none) ∨ (ok = true ∧ ∃ p1 p2 : Nat, X = some ((p1, p2), h) ∧ x = (p1 : Int) ∧ y = (p2 : Int)))
theorem tells_if {c : Prop} [Decidable c] {X : Option (Pl × Int)} {p : Pl} {h : Int} {ok : Bool} (hX : X = if c then some (p, h) else none) (hok : ok = decide c) : Tells X (plV p) ok h := by
  refine ⟨p.1, p.2, rfl, ?_⟩
  by_cases hc : c
  · rw [if_pos hc] at hX
    exact .inr ⟨by rw [hok]; simp [hc], p.1, p.2, hX, rfl, rfl⟩
  · rw [if_neg hc] at hX
    exact .inl ⟨by rw [hok]; simp [hc], hX⟩
theorem tells_some {X : Option (Pl × Int)} {p : Pl} {h : Int} (hX : X = some (p, h)) : Tells X (plV p) true h := ⟨p.1, p.2, rfl, .inr ⟨rfl, p.1, p.2, hX, rfl, rfl⟩⟩
theorem tells_none {X : Option (Pl × Int)} {x y : Int} {h : Int} (hX : X = none) : Tells X (.agg #[.int .i64 x, .int .i64 y]) false h := ⟨x, y, rfl, .inl ⟨rfl, hX⟩⟩
theorem row104 (F : Nat → Prop) (a : Option Addr) (n c l q : Nat) (cnt arg want : Int) (op : Bool) (L : List (List Int)) (w : World) (h : RdL F w a n c L) (hp : okP L (l, q)) (ht : ((tms cnt : Nat) : Int) ≤ 9223372036854775807) (hw : i64b want) (hz : sizeN (lens L) ≤ 262144) :
    Calls Try.prog 16 #[askL a n c l q ((tms cnt : Nat) : Int) 104 cnt arg want op] w fun e w' => ∃ r ok, e = .returned (.tuple #[r, .bool ok]) ∧ Below w.heap.size w w' ∧ Tells (mvP L (l, q) ⟨104, cnt, arg, want⟩ op) r ok 0 := by
  have hln : L.length = n := h.len
  have hl : l < L.length := hp.1
  have hq := hp.2
  simp only at hq
  refine (left_any a n c l q (tms cnt) 104 cnt arg want op w ht (by have := okP_i64z hz hp; exact this.2.2)).mono ?_
  rintro e w' ⟨rfl, hb⟩
  refine ⟨_, _, rfl, hb, ?_⟩
  exact tells_if (c := 0 < q) rfl rfl
theorem row108 (F : Nat → Prop) (a : Option Addr) (n c l q : Nat) (cnt arg want : Int) (op : Bool) (L : List (List Int)) (w : World) (h : RdL F w a n c L) (hp : okP L (l, q)) (ht : ((tms cnt : Nat) : Int) ≤ 9223372036854775807) (hw : i64b want) (hz : sizeN (lens L) ≤ 262144) :
    Calls Try.prog 17 #[askL a n c l q ((tms cnt : Nat) : Int) 108 cnt arg want op] w fun e w' => ∃ r ok, e = .returned (.tuple #[r, .bool ok]) ∧ Below w.heap.size w w' ∧ Tells (mvP L (l, q) ⟨108, cnt, arg, want⟩ op) r ok 0 := by
  have hln : L.length = n := h.len
  have hl : l < L.length := hp.1
  have hq := hp.2
  simp only at hq
  have hq1 := (okP_i64z hz hp).2.2
  obtain ⟨m, hm⟩ : ∃ m, (lnL L l).length = m := ⟨_, rfl⟩
  rw [hm] at hq
  cases op with
  | true =>
    refine (right_true F a n c l q (tms cnt) 108 cnt arg want L w h hp ht (tms_pos cnt) m hm).mono ?_
    rintro e w' ⟨rfl, hb⟩
    refine ⟨_, _, rfl, hb, ?_⟩
    have hX : mvP L (l, q) ⟨108, cnt, arg, want⟩ true = if q < m then some ((l, min (q + tms cnt) m), 0) else none := by rw [← hm]; rfl
    by_cases hc : q < m
    · rw [show (q : Int) + min ((tms cnt : Nat) : Int) ((m : Int) - (q : Int)) = ((min (q + tms cnt) m : Nat) : Int) by omega, show decide (0 < (m : Int) - (q : Int)) = true by simp; omega]
      rw [if_pos hc] at hX
      exact tells_some hX
    · rw [show decide (0 < (m : Int) - (q : Int)) = false by simp; omega]
      rw [if_neg hc] at hX
      exact tells_none hX
  | false =>
    refine (right_false F a n c l q (tms cnt) 108 cnt arg want L w h hp ht (tms_pos cnt) m hm).mono ?_
    rintro e w' ⟨rfl, hb⟩
    refine ⟨_, _, rfl, hb, ?_⟩
    have hX : mvP L (l, q) ⟨108, cnt, arg, want⟩ false = if q < m - 1 then some ((l, min (q + tms cnt) (m - 1)), 0) else none := by rw [← hm]; rfl
    by_cases hc : q < m - 1
    · rw [show (q : Int) + min ((tms cnt : Nat) : Int) ((m : Int) - 1 - (q : Int)) = ((min (q + tms cnt) (m - 1) : Nat) : Int) by omega, show decide (0 < (m : Int) - 1 - (q : Int)) = true by simp; omega]
      rw [if_pos hc] at hX
      exact tells_some hX
    · rw [show decide (0 < (m : Int) - 1 - (q : Int)) = false by simp; omega]
      rw [if_neg hc] at hX
      exact tells_none hX
theorem row106 (F : Nat → Prop) (a : Option Addr) (n c l q : Nat) (cnt arg want : Int) (op : Bool) (L : List (List Int)) (w : World) (h : RdL F w a n c L) (hp : okP L (l, q)) (ht : ((tms cnt : Nat) : Int) ≤ 9223372036854775807) (hw : i64b want) (hz : sizeN (lens L) ≤ 262144) :
    Calls Try.prog 18 #[askL a n c l q ((tms cnt : Nat) : Int) 106 cnt arg want op] w fun e w' => ∃ r ok, e = .returned (.tuple #[r, .bool ok]) ∧ Below w.heap.size w w' ∧ Tells (mvP L (l, q) ⟨106, cnt, arg, want⟩ op) r ok 2 := by
  have hln : L.length = n := h.len
  have hl : l < L.length := hp.1
  have hq := hp.2
  simp only at hq
  refine (lineDown_any F a n c l q (tms cnt) 106 cnt arg want op L w h hp ht (tms_pos cnt) hw).mono ?_
  rintro e w' ⟨rfl, hb⟩
  refine ⟨_, _, rfl, hb, ?_⟩
  have hX : mvP L (l, q) ⟨106, cnt, arg, want⟩ op = if l + tms cnt < L.length then some (clipP L ((l + tms cnt : Nat) : Int) (wantC want q), 2) else none := rfl
  by_cases hc : l + tms cnt < L.length
  · have hd : dnL n l (tms cnt) = (l + tms cnt, true) := by unfold dnL; rw [if_pos (by omega)]
    rw [hd]
    rw [if_pos hc] at hX
    exact tells_some hX
  · have hd : dnL n l (tms cnt) = (0, false) := by unfold dnL; rw [if_neg (by omega)]
    rw [hd]
    rw [if_neg hc] at hX
    exact tells_none hX
theorem row107 (F : Nat → Prop) (a : Option Addr) (n c l q : Nat) (cnt arg want : Int) (op : Bool) (L : List (List Int)) (w : World) (h : RdL F w a n c L) (hp : okP L (l, q)) (ht : ((tms cnt : Nat) : Int) ≤ 9223372036854775807) (hw : i64b want) (hz : sizeN (lens L) ≤ 262144) :
    Calls Try.prog 19 #[askL a n c l q ((tms cnt : Nat) : Int) 107 cnt arg want op] w fun e w' => ∃ r ok, e = .returned (.tuple #[r, .bool ok]) ∧ Below w.heap.size w w' ∧ Tells (mvP L (l, q) ⟨107, cnt, arg, want⟩ op) r ok 2 := by
  have hln : L.length = n := h.len
  have hl : l < L.length := hp.1
  have hq := hp.2
  simp only at hq
  refine (lineUp_any F a n c l q (tms cnt) 107 cnt arg want op L w h hp ht (tms_pos cnt) hw).mono ?_
  rintro e w' ⟨rfl, hb⟩
  refine ⟨_, _, rfl, hb, ?_⟩
  have hX : mvP L (l, q) ⟨107, cnt, arg, want⟩ op = if tms cnt ≤ l then some (clipP L ((l - tms cnt : Nat) : Int) (wantC want q), 2) else none := rfl
  by_cases hc : tms cnt ≤ l
  · have hd : upL l (tms cnt) = (l - tms cnt, true) := by unfold upL; rw [if_pos (by omega)]
    rw [hd]
    rw [if_pos hc] at hX
    exact tells_some hX
  · have hd : upL l (tms cnt) = (0, false) := by unfold upL; rw [if_neg (by omega)]
    rw [hd]
    rw [if_neg hc] at hX
    exact tells_none hX
theorem row43 (F : Nat → Prop) (a : Option Addr) (n c l q : Nat) (cnt arg want : Int) (op : Bool) (L : List (List Int)) (w : World) (h : RdL F w a n c L) (hp : okP L (l, q)) (ht : ((tms cnt : Nat) : Int) ≤ 9223372036854775807) (hw : i64b want) (hz : sizeN (lens L) ≤ 262144) :
    Calls Try.prog 20 #[askL a n c l q ((tms cnt : Nat) : Int) 43 cnt arg want op] w fun e w' => ∃ r ok, e = .returned (.tuple #[r, .bool ok]) ∧ Below w.heap.size w w' ∧ Tells (mvP L (l, q) ⟨43, cnt, arg, want⟩ op) r ok 2 := by
  have hln : L.length = n := h.len
  have hl : l < L.length := hp.1
  have hq := hp.2
  simp only at hq
  refine (firstBelow_any F a n c l q (tms cnt) 43 cnt arg want op L w h hp ht (tms_pos cnt)).mono ?_
  rintro e w' ⟨rfl, hb⟩
  refine ⟨_, _, rfl, hb, ?_⟩
  have hX : mvP L (l, q) ⟨43, cnt, arg, want⟩ op = if l + tms cnt < L.length then some ((l + tms cnt, firstR (lnL L (l + tms cnt))), 2) else none := rfl
  by_cases hc : l + tms cnt < L.length
  · have hd : dnL n l (tms cnt) = (l + tms cnt, true) := by unfold dnL; rw [if_pos (by omega)]
    rw [hd]
    rw [if_pos hc] at hX
    exact tells_some hX
  · have hd : dnL n l (tms cnt) = (0, false) := by unfold dnL; rw [if_neg (by omega)]
    rw [hd]
    rw [if_neg hc] at hX
    exact tells_none hX
theorem row45 (F : Nat → Prop) (a : Option Addr) (n c l q : Nat) (cnt arg want : Int) (op : Bool) (L : List (List Int)) (w : World) (h : RdL F w a n c L) (hp : okP L (l, q)) (ht : ((tms cnt : Nat) : Int) ≤ 9223372036854775807) (hw : i64b want) (hz : sizeN (lens L) ≤ 262144) :
    Calls Try.prog 21 #[askL a n c l q ((tms cnt : Nat) : Int) 45 cnt arg want op] w fun e w' => ∃ r ok, e = .returned (.tuple #[r, .bool ok]) ∧ Below w.heap.size w w' ∧ Tells (mvP L (l, q) ⟨45, cnt, arg, want⟩ op) r ok 2 := by
  have hln : L.length = n := h.len
  have hl : l < L.length := hp.1
  have hq := hp.2
  simp only at hq
  refine (firstAbove_any F a n c l q (tms cnt) 45 cnt arg want op L w h hp ht (tms_pos cnt)).mono ?_
  rintro e w' ⟨rfl, hb⟩
  refine ⟨_, _, rfl, hb, ?_⟩
  have hX : mvP L (l, q) ⟨45, cnt, arg, want⟩ op = if tms cnt ≤ l then some ((l - tms cnt, firstR (lnL L (l - tms cnt))), 2) else none := rfl
  by_cases hc : tms cnt ≤ l
  · have hd : upL l (tms cnt) = (l - tms cnt, true) := by unfold upL; rw [if_pos (by omega)]
    rw [hd]
    rw [if_pos hc] at hX
    exact tells_some hX
  · have hd : upL l (tms cnt) = (0, false) := by unfold upL; rw [if_neg (by omega)]
    rw [hd]
    rw [if_neg hc] at hX
    exact tells_none hX
theorem row95 (F : Nat → Prop) (a : Option Addr) (n c l q : Nat) (cnt arg want : Int) (op : Bool) (L : List (List Int)) (w : World) (h : RdL F w a n c L) (hp : okP L (l, q)) (ht : ((tms cnt : Nat) : Int) ≤ 9223372036854775807) (hw : i64b want) (hz : sizeN (lens L) ≤ 262144) :
    Calls Try.prog 22 #[askL a n c l q ((tms cnt : Nat) : Int) 95 cnt arg want op] w fun e w' => ∃ r ok, e = .returned (.tuple #[r, .bool ok]) ∧ Below w.heap.size w w' ∧ Tells (mvP L (l, q) ⟨95, cnt, arg, want⟩ op) r ok 2 := by
  have hln : L.length = n := h.len
  have hl : l < L.length := hp.1
  have hq := hp.2
  simp only at hq
  have htp := tms_pos cnt
  refine (firstFromHere_any F a n c l q (tms cnt) 95 cnt arg want op L w h hp ht (tms_pos cnt)).mono ?_
  rintro e w' ⟨rfl, hb⟩
  refine ⟨_, _, rfl, hb, ?_⟩
  obtain ⟨v, hv⟩ : ∃ v, l + tms cnt - 1 = v := ⟨_, rfl⟩
  have hX : mvP L (l, q) ⟨95, cnt, arg, want⟩ op = if l + tms cnt - 1 < L.length then some ((l + tms cnt - 1, firstR (lnL L (l + tms cnt - 1))), 2) else none := rfl
  rw [hv] at hX
  by_cases hc : v < L.length
  · have hd : dnL n l (tms cnt - 1) = (v, true) := by unfold dnL; rw [if_pos (by omega), show l + (tms cnt - 1) = v by omega]
    rw [hd]
    rw [if_pos hc] at hX
    exact tells_some hX
  · have hd : dnL n l (tms cnt - 1) = (0, false) := by unfold dnL; rw [if_neg (by omega)]
    rw [hd]
    rw [if_neg hc] at hX
    exact tells_none hX
theorem row36 (F : Nat → Prop) (a : Option Addr) (n c l q : Nat) (cnt arg want : Int) (op : Bool) (L : List (List Int)) (w : World) (h : RdL F w a n c L) (hp : okP L (l, q)) (ht : ((tms cnt : Nat) : Int) ≤ 9223372036854775807) (hw : i64b want) (hz : sizeN (lens L) ≤ 262144) :
    Calls Try.prog 27 #[askL a n c l q ((tms cnt : Nat) : Int) 36 cnt arg want op] w fun e w' => ∃ r ok, e = .returned (.tuple #[r, .bool ok]) ∧ Below w.heap.size w w' ∧ Tells (mvP L (l, q) ⟨36, cnt, arg, want⟩ op) r ok 1 := by
  have hln : L.length = n := h.len
  have hl : l < L.length := hp.1
  have hq := hp.2
  simp only at hq
  have htp := tms_pos cnt
  refine (end_any F a n c l q (tms cnt) 36 cnt arg want op L w h hp ht (tms_pos cnt) hz).mono ?_
  rintro e w' ⟨rfl, hb⟩
  refine ⟨_, _, rfl, hb, ?_⟩
  obtain ⟨v, hv⟩ : ∃ v, l + tms cnt - 1 = v := ⟨_, rfl⟩
  have hX : mvP L (l, q) ⟨36, cnt, arg, want⟩ op = if l + tms cnt - 1 < L.length then some ((l + tms cnt - 1, (lnL L (l + tms cnt - 1)).length - 1), 1) else none := rfl
  rw [hv] at hX
  by_cases hc : v < L.length
  · have hd : dnL n l (tms cnt - 1) = (v, true) := by unfold dnL; rw [if_pos (by omega), show l + (tms cnt - 1) = v by omega]
    rw [hd]
    rw [if_pos hc] at hX
    exact tells_some hX
  · have hd : dnL n l (tms cnt - 1) = (0, false) := by unfold dnL; rw [if_neg (by omega)]
    rw [hd]
    rw [if_neg hc] at hX
    exact tells_none hX
theorem row71 (F : Nat → Prop) (a : Option Addr) (n c l q : Nat) (cnt arg want : Int) (op : Bool) (L : List (List Int)) (w : World) (h : RdL F w a n c L) (hp : okP L (l, q)) (ht : ((tms cnt : Nat) : Int) ≤ 9223372036854775807) (hw : i64b want) (hz : sizeN (lens L) ≤ 262144) :
    Calls Try.prog 23 #[askL a n c l q ((tms cnt : Nat) : Int) 71 cnt arg want op] w fun e w' => ∃ r ok, e = .returned (.tuple #[r, .bool ok]) ∧ Below w.heap.size w w' ∧ Tells (mvP L (l, q) ⟨71, cnt, arg, want⟩ op) r ok 2 := by
  have hln : L.length = n := h.len
  have hl : l < L.length := hp.1
  have hq := hp.2
  simp only at hq
  refine (orLast_any F a n c l q (tms cnt) 71 cnt arg want op L w h hp ht (tms_pos cnt)).mono ?_
  rintro e w' ⟨rfl, hb⟩
  refine ⟨_, _, rfl, hb, ?_⟩
  have hX : mvP L (l, q) ⟨71, cnt, arg, want⟩ op = some ((if cnt ≤ 0 then L.length - 1 else min (tms cnt) L.length - 1, firstR (lnL L (if cnt ≤ 0 then L.length - 1 else min (tms cnt) L.length - 1))), 2) := rfl
  exact tells_some hX
theorem row103 (F : Nat → Prop) (a : Option Addr) (n c l q : Nat) (cnt arg want : Int) (op : Bool) (L : List (List Int)) (w : World) (h : RdL F w a n c L) (hp : okP L (l, q)) (ht : ((tms cnt : Nat) : Int) ≤ 9223372036854775807) (hw : i64b want) (hz : sizeN (lens L) ≤ 262144) :
    Calls Try.prog 24 #[askL a n c l q ((tms cnt : Nat) : Int) 103 cnt arg want op] w fun e w' => ∃ r ok, e = .returned (.tuple #[r, .bool ok]) ∧ Below w.heap.size w w' ∧ Tells (mvP L (l, q) ⟨103, cnt, arg, want⟩ op) r ok 2 := by
  have hln : L.length = n := h.len
  have hl : l < L.length := hp.1
  have hq := hp.2
  simp only at hq
  refine (numbered_any F a n c l q (tms cnt) 103 cnt arg want op L w h hp ht (tms_pos cnt)).mono ?_
  rintro e w' ⟨rfl, hb⟩
  refine ⟨_, _, rfl, hb, ?_⟩
  exact tells_some rfl
theorem row48 (F : Nat → Prop) (a : Option Addr) (n c l q : Nat) (cnt arg want : Int) (op : Bool) (L : List (List Int)) (w : World) (h : RdL F w a n c L) (hp : okP L (l, q)) (ht : ((tms cnt : Nat) : Int) ≤ 9223372036854775807) (hw : i64b want) (hz : sizeN (lens L) ≤ 262144) :
    Calls Try.prog 25 #[askL a n c l q ((tms cnt : Nat) : Int) 48 cnt arg want op] w fun e w' => ∃ r ok, e = .returned (.tuple #[r, .bool ok]) ∧ Below w.heap.size w w' ∧ Tells (mvP L (l, q) ⟨48, cnt, arg, want⟩ op) r ok 0 := by
  have hln : L.length = n := h.len
  have hl : l < L.length := hp.1
  have hq := hp.2
  simp only at hq
  refine (begin_any a n c l q (tms cnt) 48 cnt arg want op w).mono ?_
  rintro e w' ⟨rfl, hb⟩
  refine ⟨_, _, rfl, hb, ?_⟩
  exact tells_some rfl
theorem row94 (F : Nat → Prop) (a : Option Addr) (n c l q : Nat) (cnt arg want : Int) (op : Bool) (L : List (List Int)) (w : World) (h : RdL F w a n c L) (hp : okP L (l, q)) (ht : ((tms cnt : Nat) : Int) ≤ 9223372036854775807) (hw : i64b want) (hz : sizeN (lens L) ≤ 262144) :
    Calls Try.prog 26 #[askL a n c l q ((tms cnt : Nat) : Int) 94 cnt arg want op] w fun e w' => ∃ r ok, e = .returned (.tuple #[r, .bool ok]) ∧ Below w.heap.size w w' ∧ Tells (mvP L (l, q) ⟨94, cnt, arg, want⟩ op) r ok 0 := by
  have hln : L.length = n := h.len
  have hl : l < L.length := hp.1
  have hq := hp.2
  simp only at hq
  refine (first0_any F a n c l q (tms cnt) 94 cnt arg want op L w h hp ht (tms_pos cnt)).mono ?_
  rintro e w' ⟨rfl, hb⟩
  refine ⟨_, _, rfl, hb, ?_⟩
  exact tells_some rfl
theorem row124 (F : Nat → Prop) (a : Option Addr) (n c l q : Nat) (cnt arg want : Int) (op : Bool) (L : List (List Int)) (w : World) (h : RdL F w a n c L) (hp : okP L (l, q)) (ht : ((tms cnt : Nat) : Int) ≤ 9223372036854775807) (hw : i64b want) (hz : sizeN (lens L) ≤ 262144) :
    Calls Try.prog 28 #[askL a n c l q ((tms cnt : Nat) : Int) 124 cnt arg want op] w fun e w' => ∃ r ok, e = .returned (.tuple #[r, .bool ok]) ∧ Below w.heap.size w w' ∧ Tells (mvP L (l, q) ⟨124, cnt, arg, want⟩ op) r ok 0 := by
  have hln : L.length = n := h.len
  have hl : l < L.length := hp.1
  have hq := hp.2
  simp only at hq
  have htp := tms_pos cnt
  refine (column_any F a n c l q (tms cnt) 124 cnt arg want op L w h hp ht (tms_pos cnt)).mono ?_
  rintro e w' ⟨rfl, hb⟩
  refine ⟨_, _, rfl, hb, ?_⟩
  have hX : mvP L (l, q) ⟨124, cnt, arg, want⟩ op = some ((l, min (tms cnt) (lnL L l).length - 1), 0) := rfl
  have hc : clipP L (l : Nat) ((tms cnt - 1 : Nat) : Int) = (l, min (tms cnt) (lnL L l).length - 1) := by
    have hL : L ≠ [] := by rintro rfl; exact absurd hl (by simp)
    unfold clipP
    rw [if_neg hL, clipN_id (by omega)]
    congr 1
    unfold clipN
    omega
  rw [hc]
  exact tells_some hX
theorem row102 (F : Nat → Prop) (a : Option Addr) (n c l q : Nat) (cnt arg want : Int) (op : Bool) (L : List (List Int)) (w : World) (h : RdL F w a n c L) (hp : okP L (l, q)) (ht : ((tms cnt : Nat) : Int) ≤ 9223372036854775807) (hw : i64b want) (hz : sizeN (lens L) ≤ 262144) :
    Calls Try.prog 32 #[askL a n c l q ((tms cnt : Nat) : Int) 102 cnt arg want op] w fun e w' => ∃ r ok, e = .returned (.tuple #[r, .bool ok]) ∧ Below w.heap.size w w' ∧ Tells (mvP L (l, q) ⟨102, cnt, arg, want⟩ op) r ok 1 := by
  have hln : L.length = n := h.len
  have hl : l < L.length := hp.1
  have hq := hp.2
  simp only at hq
  obtain ⟨r, hr⟩ : ∃ r, nthF (lnL L l) arg q (tms cnt) = r := ⟨_, rfl⟩
  have hX : mvP L (l, q) ⟨102, cnt, arg, want⟩ op = (nthF (lnL L l) arg q (tms cnt)).map fun i => ((l, i), 1) := rfl
  rw [hr] at hX
  cases r with
  | none =>
    refine (findBehind_any F a n c l q (tms cnt) 102 cnt arg want op L w h hp ht (tms_pos cnt) 0 0 false (by rw [hr]; rfl) (by rw [hr]; rfl) (by decide)).mono ?_
    rintro e w' ⟨rfl, hb⟩
    exact ⟨_, _, rfl, hb, tells_none hX⟩
  | some i =>
    have hi := nthF_props hr
    have hii : okP L (l, i) := ⟨hl, by simp only; omega⟩
    have hi2 := (okP_i64z hz hii).2.2
    simp only at hi2
    have hi3 : (i : Int) < 9223372036854775807 := by
      have h3 : (lnL L l).length ≤ sizeN (lens L) := by
        unfold lnL
        rw [List.getD_eq_getElem?_getD, List.getElem?_eq_getElem hl]
        refine sizeN_mem ?_
        unfold lens
        exact List.mem_map.2 ⟨_, List.getElem_mem hl, rfl⟩
      have := hi.1
      omega
    refine (findBehind_any F a n c l q (tms cnt) 102 cnt arg want op L w h hp ht (tms_pos cnt) l i true (by rw [hr]; rfl) (by rw [hr]; rfl) hi3).mono ?_
    rintro e w' ⟨rfl, hb⟩
    refine ⟨_, _, rfl, hb, ?_⟩
    exact tells_some hX
theorem row70 (F : Nat → Prop) (a : Option Addr) (n c l q : Nat) (cnt arg want : Int) (op : Bool) (L : List (List Int)) (w : World) (h : RdL F w a n c L) (hp : okP L (l, q)) (ht : ((tms cnt : Nat) : Int) ≤ 9223372036854775807) (hw : i64b want) (hz : sizeN (lens L) ≤ 262144) :
    Calls Try.prog 33 #[askL a n c l q ((tms cnt : Nat) : Int) 70 cnt arg want op] w fun e w' => ∃ r ok, e = .returned (.tuple #[r, .bool ok]) ∧ Below w.heap.size w w' ∧ Tells (mvP L (l, q) ⟨70, cnt, arg, want⟩ op) r ok 0 := by
  have hln : L.length = n := h.len
  have hl : l < L.length := hp.1
  have hq := hp.2
  simp only at hq
  obtain ⟨r, hr⟩ : ∃ r, nthB (lnL L l) arg q (tms cnt) = r := ⟨_, rfl⟩
  have hX : mvP L (l, q) ⟨70, cnt, arg, want⟩ op = (nthB (lnL L l) arg q (tms cnt)).map fun i => ((l, i), 0) := rfl
  rw [hr] at hX
  cases r with
  | none =>
    refine (findAhead_any F a n c l q (tms cnt) 70 cnt arg want op L w h hp ht (tms_pos cnt) 0 0 false (by rw [hr]; rfl) (by rw [hr]; rfl) (by decide)).mono ?_
    rintro e w' ⟨rfl, hb⟩
    exact ⟨_, _, rfl, hb, tells_none hX⟩
  | some i =>
    have hi := nthB_props hr
    have hii : okP L (l, i) := ⟨hl, by simp only; omega⟩
    have hi2 := (okP_i64z hz hii).2.2
    simp only at hi2
    have hi3 : (i : Int) < 9223372036854775807 := by
      have h3 : (lnL L l).length ≤ sizeN (lens L) := by
        unfold lnL
        rw [List.getD_eq_getElem?_getD, List.getElem?_eq_getElem hl]
        refine sizeN_mem ?_
        unfold lens
        exact List.mem_map.2 ⟨_, List.getElem_mem hl, rfl⟩
      have := hi.1
      omega
    refine (findAhead_any F a n c l q (tms cnt) 70 cnt arg want op L w h hp ht (tms_pos cnt) l i true (by rw [hr]; rfl) (by rw [hr]; rfl) hi3).mono ?_
    rintro e w' ⟨rfl, hb⟩
    refine ⟨_, _, rfl, hb, ?_⟩
    exact tells_some hX
theorem row116 (F : Nat → Prop) (a : Option Addr) (n c l q : Nat) (cnt arg want : Int) (op : Bool) (L : List (List Int)) (w : World) (h : RdL F w a n c L) (hp : okP L (l, q)) (ht : ((tms cnt : Nat) : Int) ≤ 9223372036854775807) (hw : i64b want) (hz : sizeN (lens L) ≤ 262144) :
    Calls Try.prog 34 #[askL a n c l q ((tms cnt : Nat) : Int) 116 cnt arg want op] w fun e w' => ∃ r ok, e = .returned (.tuple #[r, .bool ok]) ∧ Below w.heap.size w w' ∧ Tells (mvP L (l, q) ⟨116, cnt, arg, want⟩ op) r ok 1 := by
  have hln : L.length = n := h.len
  have hl : l < L.length := hp.1
  have hq := hp.2
  simp only at hq
  obtain ⟨r, hr⟩ : ∃ r, nthF (lnL L l) arg q (tms cnt) = r := ⟨_, rfl⟩
  have hX : mvP L (l, q) ⟨116, cnt, arg, want⟩ op = (nthF (lnL L l) arg q (tms cnt)).map fun i => ((l, i - 1), 1) := rfl
  rw [hr] at hX
  cases r with
  | none =>
    refine (tillBehind_any F a n c l q (tms cnt) 116 cnt arg want op L w h hp ht (tms_pos cnt) 0 0 false (by rw [hr]; rfl) (by rw [hr]; rfl) (by decide)).mono ?_
    rintro e w' ⟨rfl, hb⟩
    exact ⟨_, _, rfl, hb, tells_none hX⟩
  | some i =>
    have hi := nthF_props hr
    have hii : okP L (l, i) := ⟨hl, by simp only; omega⟩
    have hi2 := (okP_i64z hz hii).2.2
    simp only at hi2
    have hi3 : (i : Int) < 9223372036854775807 := by
      have h3 : (lnL L l).length ≤ sizeN (lens L) := by
        unfold lnL
        rw [List.getD_eq_getElem?_getD, List.getElem?_eq_getElem hl]
        refine sizeN_mem ?_
        unfold lens
        exact List.mem_map.2 ⟨_, List.getElem_mem hl, rfl⟩
      have := hi.1
      omega
    refine (tillBehind_any F a n c l q (tms cnt) 116 cnt arg want op L w h hp ht (tms_pos cnt) l i true (by rw [hr]; rfl) (by rw [hr]; rfl) hi3).mono ?_
    rintro e w' ⟨rfl, hb⟩
    refine ⟨_, _, rfl, hb, ?_⟩
    rw [show (i : Int) - 1 = ((i - 1 : Nat) : Int) by have := hi.2.1; omega]
    exact tells_some hX
theorem row84 (F : Nat → Prop) (a : Option Addr) (n c l q : Nat) (cnt arg want : Int) (op : Bool) (L : List (List Int)) (w : World) (h : RdL F w a n c L) (hp : okP L (l, q)) (ht : ((tms cnt : Nat) : Int) ≤ 9223372036854775807) (hw : i64b want) (hz : sizeN (lens L) ≤ 262144) :
    Calls Try.prog 35 #[askL a n c l q ((tms cnt : Nat) : Int) 84 cnt arg want op] w fun e w' => ∃ r ok, e = .returned (.tuple #[r, .bool ok]) ∧ Below w.heap.size w w' ∧ Tells (mvP L (l, q) ⟨84, cnt, arg, want⟩ op) r ok 0 := by
  have hln : L.length = n := h.len
  have hl : l < L.length := hp.1
  have hq := hp.2
  simp only at hq
  obtain ⟨r, hr⟩ : ∃ r, nthB (lnL L l) arg q (tms cnt) = r := ⟨_, rfl⟩
  have hX : mvP L (l, q) ⟨84, cnt, arg, want⟩ op = (nthB (lnL L l) arg q (tms cnt)).map fun i => ((l, i + 1), 0) := rfl
  rw [hr] at hX
  cases r with
  | none =>
    refine (tillAhead_any F a n c l q (tms cnt) 84 cnt arg want op L w h hp ht (tms_pos cnt) 0 0 false (by rw [hr]; rfl) (by rw [hr]; rfl) (by decide)).mono ?_
    rintro e w' ⟨rfl, hb⟩
    exact ⟨_, _, rfl, hb, tells_none hX⟩
  | some i =>
    have hi := nthB_props hr
    have hii : okP L (l, i) := ⟨hl, by simp only; omega⟩
    have hi2 := (okP_i64z hz hii).2.2
    simp only at hi2
    have hi3 : (i : Int) < 9223372036854775807 := by
      have h3 : (lnL L l).length ≤ sizeN (lens L) := by
        unfold lnL
        rw [List.getD_eq_getElem?_getD, List.getElem?_eq_getElem hl]
        refine sizeN_mem ?_
        unfold lens
        exact List.mem_map.2 ⟨_, List.getElem_mem hl, rfl⟩
      have := hi.1
      omega
    refine (tillAhead_any F a n c l q (tms cnt) 84 cnt arg want op L w h hp ht (tms_pos cnt) l i true (by rw [hr]; rfl) (by rw [hr]; rfl) hi3).mono ?_
    rintro e w' ⟨rfl, hb⟩
    refine ⟨_, _, rfl, hb, ?_⟩
    rw [show (i : Int) + 1 = ((i + 1 : Nat) : Int) by omega]
    exact tells_some hX
theorem row37 (F : Nat → Prop) (a : Option Addr) (n c l q : Nat) (cnt arg want : Int) (op : Bool) (L : List (List Int)) (w : World) (h : RdL F w a n c L) (hp : okP L (l, q)) (ht : ((tms cnt : Nat) : Int) ≤ 9223372036854775807) (hw : i64b want) (hz : sizeN (lens L) ≤ 262144) :
    Calls Try.prog 36 #[askL a n c l q ((tms cnt : Nat) : Int) 37 cnt arg want op] w fun e w' => ∃ r ok, e = .returned (.tuple #[r, .bool ok]) ∧ Below w.heap.size w w' ∧ Tells (mvP L (l, q) ⟨37, cnt, arg, want⟩ op) r ok 1 := by
  have hln : L.length = n := h.len
  have hl : l < L.length := hp.1
  have hq := hp.2
  simp only at hq
  refine (partner_any F a n c l q (tms cnt) 37 cnt arg want op L w h hp ht (tms_pos cnt) hz).mono ?_
  rintro e w' ⟨rfl, hb⟩
  refine ⟨_, _, rfl, hb, ?_⟩
  have hX : mvP L (l, q) ⟨37, cnt, arg, want⟩ op = (firstB (lnL L l) q).bind fun i => (brP L (l, i)).map fun q => (q, 1) := rfl
  cases hf : firstB (lnL L l) q with
  | none =>
    rw [hf] at hX
    exact tells_none hX
  | some i =>
    rw [hf] at hX
    simp only [Option.bind_some] at hX ⊢
    cases hb2 : brP L (l, i) with
    | none =>
      rw [hb2] at hX
      exact tells_none hX
    | some p =>
      rw [hb2] at hX
      exact tells_some hX
theorem row98 (F : Nat → Prop) (a : Option Addr) (n c l q : Nat) (cnt arg want : Int) (op : Bool) (L : List (List Int)) (w : World) (h : RdL F w a n c L) (hp : okP L (l, q)) (ht : ((tms cnt : Nat) : Int) ≤ 9223372036854775807) (hw : i64b want) (hz : sizeN (lens L) ≤ 262144) :
    Calls Try.prog 30 #[askL a n c l q ((tms cnt : Nat) : Int) 98 cnt arg want op] w fun e w' => ∃ r ok, e = .returned (.tuple #[r, .bool ok]) ∧ Below w.heap.size w w' ∧ Tells (mvP L (l, q) ⟨98, cnt, arg, want⟩ op) r ok 0 := by
  have hln : L.length = n := h.len
  have hl : l < L.length := hp.1
  have hq := hp.2
  simp only at hq
  refine (prevWord_any F a n c l q (tms cnt) 98 cnt arg want op L w h hp ht (tms_pos cnt) hz false rfl).mono ?_
  rintro e w' ⟨rfl, hb⟩
  refine ⟨_, _, rfl, hb, ?_⟩
  have hX : mvP L (l, q) ⟨98, cnt, arg, want⟩ op = if beforeP L 0 (l, q) = (l, q) then none else if op = true ∧ ((98 : Int) = 119 ∨ (98 : Int) = 87) ∧ (stepsP (beforeP L 0) (tms cnt) (l, q) (l, q)).1.1 ≠ (stepsP (beforeP L 0) (tms cnt) (l, q) (l, q)).2.1 then some (((stepsP (beforeP L 0) (tms cnt) (l, q) (l, q)).2.1, (lnL L (stepsP (beforeP L 0) (tms cnt) (l, q) (l, q)).2.1).length), 0) else some ((stepsP (beforeP L 0) (tms cnt) (l, q) (l, q)).1, 0) := rfl
  rw [if_neg (c := op = true ∧ _) (fun hh => by rcases hh.2.1 with h5 | h5 <;> exact absurd h5 (by decide))] at hX
  by_cases hc : beforeP L 0 (l, q) = (l, q)
  · have hm : movedP (beforeP L 0) (l, q) = false := by unfold movedP; simp [hc]
    rw [if_pos hc] at hX
    show Tells _ (plV _) (movedP (beforeP L 0) (l, q)) _
    rw [hm]
    exact tells_none hX
  · have hm : movedP (beforeP L 0) (l, q) = true := by unfold movedP; simp [hc]
    rw [if_neg hc] at hX
    show Tells _ (plV _) (movedP (beforeP L 0) (l, q)) _
    rw [hm]
    exact tells_some hX
theorem row66 (F : Nat → Prop) (a : Option Addr) (n c l q : Nat) (cnt arg want : Int) (op : Bool) (L : List (List Int)) (w : World) (h : RdL F w a n c L) (hp : okP L (l, q)) (ht : ((tms cnt : Nat) : Int) ≤ 9223372036854775807) (hw : i64b want) (hz : sizeN (lens L) ≤ 262144) :
    Calls Try.prog 30 #[askL a n c l q ((tms cnt : Nat) : Int) 66 cnt arg want op] w fun e w' => ∃ r ok, e = .returned (.tuple #[r, .bool ok]) ∧ Below w.heap.size w w' ∧ Tells (mvP L (l, q) ⟨66, cnt, arg, want⟩ op) r ok 0 := by
  have hln : L.length = n := h.len
  have hl : l < L.length := hp.1
  have hq := hp.2
  simp only at hq
  refine (prevWord_any F a n c l q (tms cnt) 66 cnt arg want op L w h hp ht (tms_pos cnt) hz true rfl).mono ?_
  rintro e w' ⟨rfl, hb⟩
  refine ⟨_, _, rfl, hb, ?_⟩
  have hX : mvP L (l, q) ⟨66, cnt, arg, want⟩ op = if beforeP L 1 (l, q) = (l, q) then none else if op = true ∧ ((66 : Int) = 119 ∨ (66 : Int) = 87) ∧ (stepsP (beforeP L 1) (tms cnt) (l, q) (l, q)).1.1 ≠ (stepsP (beforeP L 1) (tms cnt) (l, q) (l, q)).2.1 then some (((stepsP (beforeP L 1) (tms cnt) (l, q) (l, q)).2.1, (lnL L (stepsP (beforeP L 1) (tms cnt) (l, q) (l, q)).2.1).length), 0) else some ((stepsP (beforeP L 1) (tms cnt) (l, q) (l, q)).1, 0) := rfl
  rw [if_neg (c := op = true ∧ _) (fun hh => by rcases hh.2.1 with h5 | h5 <;> exact absurd h5 (by decide))] at hX
  by_cases hc : beforeP L 1 (l, q) = (l, q)
  · have hm : movedP (beforeP L 1) (l, q) = false := by unfold movedP; simp [hc]
    rw [if_pos hc] at hX
    show Tells _ (plV _) (movedP (beforeP L 1) (l, q)) _
    rw [hm]
    exact tells_none hX
  · have hm : movedP (beforeP L 1) (l, q) = true := by unfold movedP; simp [hc]
    rw [if_neg hc] at hX
    show Tells _ (plV _) (movedP (beforeP L 1) (l, q)) _
    rw [hm]
    exact tells_some hX
theorem row101 (F : Nat → Prop) (a : Option Addr) (n c l q : Nat) (cnt arg want : Int) (op : Bool) (L : List (List Int)) (w : World) (h : RdL F w a n c L) (hp : okP L (l, q)) (ht : ((tms cnt : Nat) : Int) ≤ 9223372036854775807) (hw : i64b want) (hz : sizeN (lens L) ≤ 262144) :
    Calls Try.prog 31 #[askL a n c l q ((tms cnt : Nat) : Int) 101 cnt arg want op] w fun e w' => ∃ r ok, e = .returned (.tuple #[r, .bool ok]) ∧ Below w.heap.size w w' ∧ Tells (mvP L (l, q) ⟨101, cnt, arg, want⟩ op) r ok 1 := by
  have hln : L.length = n := h.len
  have hl : l < L.length := hp.1
  have hq := hp.2
  simp only at hq
  refine (endOfWord_any F a n c l q (tms cnt) 101 cnt arg want op L w h hp ht (tms_pos cnt) hz false rfl).mono ?_
  rintro e w' ⟨rfl, hb⟩
  refine ⟨_, _, rfl, hb, ?_⟩
  have hX : mvP L (l, q) ⟨101, cnt, arg, want⟩ op = if behindP L 2 (l, q) = (l, q) then none else if op = true ∧ ((101 : Int) = 119 ∨ (101 : Int) = 87) ∧ (stepsP (behindP L 2) (tms cnt) (l, q) (l, q)).1.1 ≠ (stepsP (behindP L 2) (tms cnt) (l, q) (l, q)).2.1 then some (((stepsP (behindP L 2) (tms cnt) (l, q) (l, q)).2.1, (lnL L (stepsP (behindP L 2) (tms cnt) (l, q) (l, q)).2.1).length), 1) else some ((stepsP (behindP L 2) (tms cnt) (l, q) (l, q)).1, 1) := rfl
  rw [if_neg (c := op = true ∧ _) (fun hh => by rcases hh.2.1 with h5 | h5 <;> exact absurd h5 (by decide))] at hX
  by_cases hc : behindP L 2 (l, q) = (l, q)
  · have hm : movedP (behindP L 2) (l, q) = false := by unfold movedP; simp [hc]
    rw [if_pos hc] at hX
    show Tells _ (plV _) (movedP (behindP L 2) (l, q)) _
    rw [hm]
    exact tells_none hX
  · have hm : movedP (behindP L 2) (l, q) = true := by unfold movedP; simp [hc]
    rw [if_neg hc] at hX
    show Tells _ (plV _) (movedP (behindP L 2) (l, q)) _
    rw [hm]
    exact tells_some hX
theorem row69 (F : Nat → Prop) (a : Option Addr) (n c l q : Nat) (cnt arg want : Int) (op : Bool) (L : List (List Int)) (w : World) (h : RdL F w a n c L) (hp : okP L (l, q)) (ht : ((tms cnt : Nat) : Int) ≤ 9223372036854775807) (hw : i64b want) (hz : sizeN (lens L) ≤ 262144) :
    Calls Try.prog 31 #[askL a n c l q ((tms cnt : Nat) : Int) 69 cnt arg want op] w fun e w' => ∃ r ok, e = .returned (.tuple #[r, .bool ok]) ∧ Below w.heap.size w w' ∧ Tells (mvP L (l, q) ⟨69, cnt, arg, want⟩ op) r ok 1 := by
  have hln : L.length = n := h.len
  have hl : l < L.length := hp.1
  have hq := hp.2
  simp only at hq
  refine (endOfWord_any F a n c l q (tms cnt) 69 cnt arg want op L w h hp ht (tms_pos cnt) hz true rfl).mono ?_
  rintro e w' ⟨rfl, hb⟩
  refine ⟨_, _, rfl, hb, ?_⟩
  have hX : mvP L (l, q) ⟨69, cnt, arg, want⟩ op = if behindP L 3 (l, q) = (l, q) then none else if op = true ∧ ((69 : Int) = 119 ∨ (69 : Int) = 87) ∧ (stepsP (behindP L 3) (tms cnt) (l, q) (l, q)).1.1 ≠ (stepsP (behindP L 3) (tms cnt) (l, q) (l, q)).2.1 then some (((stepsP (behindP L 3) (tms cnt) (l, q) (l, q)).2.1, (lnL L (stepsP (behindP L 3) (tms cnt) (l, q) (l, q)).2.1).length), 1) else some ((stepsP (behindP L 3) (tms cnt) (l, q) (l, q)).1, 1) := rfl
  rw [if_neg (c := op = true ∧ _) (fun hh => by rcases hh.2.1 with h5 | h5 <;> exact absurd h5 (by decide))] at hX
  by_cases hc : behindP L 3 (l, q) = (l, q)
  · have hm : movedP (behindP L 3) (l, q) = false := by unfold movedP; simp [hc]
    rw [if_pos hc] at hX
    show Tells _ (plV _) (movedP (behindP L 3) (l, q)) _
    rw [hm]
    exact tells_none hX
  · have hm : movedP (behindP L 3) (l, q) = true := by unfold movedP; simp [hc]
    rw [if_neg hc] at hX
    show Tells _ (plV _) (movedP (behindP L 3) (l, q)) _
    rw [hm]
    exact tells_some hX
theorem row125 (F : Nat → Prop) (a : Option Addr) (n c l q : Nat) (cnt arg want : Int) (op : Bool) (L : List (List Int)) (w : World) (h : RdL F w a n c L) (hp : okP L (l, q)) (ht : ((tms cnt : Nat) : Int) ≤ 9223372036854775807) (hw : i64b want) (hz : sizeN (lens L) ≤ 262144) :
    Calls Try.prog 37 #[askL a n c l q ((tms cnt : Nat) : Int) 125 cnt arg want op] w fun e w' => ∃ r ok, e = .returned (.tuple #[r, .bool ok]) ∧ Below w.heap.size w w' ∧ Tells (mvP L (l, q) ⟨125, cnt, arg, want⟩ op) r ok 0 := by
  have hln : L.length = n := h.len
  have hl : l < L.length := hp.1
  have hq := hp.2
  simp only at hq
  refine (nextPara_any F a n c l q (tms cnt) 125 cnt arg want op L w h hp ht (tms_pos cnt) hz).mono ?_
  rintro e w' ⟨rfl, hb⟩
  refine ⟨_, _, rfl, hb, ?_⟩
  have hX : mvP L (l, q) ⟨125, cnt, arg, want⟩ op = if behindP L 4 (l, q) = (l, q) then none else if op = true ∧ ((125 : Int) = 119 ∨ (125 : Int) = 87) ∧ (stepsP (behindP L 4) (tms cnt) (l, q) (l, q)).1.1 ≠ (stepsP (behindP L 4) (tms cnt) (l, q) (l, q)).2.1 then some (((stepsP (behindP L 4) (tms cnt) (l, q) (l, q)).2.1, (lnL L (stepsP (behindP L 4) (tms cnt) (l, q) (l, q)).2.1).length), 0) else some ((stepsP (behindP L 4) (tms cnt) (l, q) (l, q)).1, 0) := rfl
  rw [if_neg (c := op = true ∧ _) (fun hh => by rcases hh.2.1 with h5 | h5 <;> exact absurd h5 (by decide))] at hX
  by_cases hc : behindP L 4 (l, q) = (l, q)
  · have hm : movedP (behindP L 4) (l, q) = false := by unfold movedP; simp [hc]
    rw [if_pos hc] at hX
    show Tells _ (plV _) (movedP (behindP L 4) (l, q)) _
    rw [hm]
    exact tells_none hX
  · have hm : movedP (behindP L 4) (l, q) = true := by unfold movedP; simp [hc]
    rw [if_neg hc] at hX
    show Tells _ (plV _) (movedP (behindP L 4) (l, q)) _
    rw [hm]
    exact tells_some hX
theorem row123 (F : Nat → Prop) (a : Option Addr) (n c l q : Nat) (cnt arg want : Int) (op : Bool) (L : List (List Int)) (w : World) (h : RdL F w a n c L) (hp : okP L (l, q)) (ht : ((tms cnt : Nat) : Int) ≤ 9223372036854775807) (hw : i64b want) (hz : sizeN (lens L) ≤ 262144) :
    Calls Try.prog 38 #[askL a n c l q ((tms cnt : Nat) : Int) 123 cnt arg want op] w fun e w' => ∃ r ok, e = .returned (.tuple #[r, .bool ok]) ∧ Below w.heap.size w w' ∧ Tells (mvP L (l, q) ⟨123, cnt, arg, want⟩ op) r ok 0 := by
  have hln : L.length = n := h.len
  have hl : l < L.length := hp.1
  have hq := hp.2
  simp only at hq
  refine (prevPara_any F a n c l q (tms cnt) 123 cnt arg want op L w h hp ht (tms_pos cnt) hz).mono ?_
  rintro e w' ⟨rfl, hb⟩
  refine ⟨_, _, rfl, hb, ?_⟩
  have hX : mvP L (l, q) ⟨123, cnt, arg, want⟩ op = if beforeP L 5 (l, q) = (l, q) then none else if op = true ∧ ((123 : Int) = 119 ∨ (123 : Int) = 87) ∧ (stepsP (beforeP L 5) (tms cnt) (l, q) (l, q)).1.1 ≠ (stepsP (beforeP L 5) (tms cnt) (l, q) (l, q)).2.1 then some (((stepsP (beforeP L 5) (tms cnt) (l, q) (l, q)).2.1, (lnL L (stepsP (beforeP L 5) (tms cnt) (l, q) (l, q)).2.1).length), 0) else some ((stepsP (beforeP L 5) (tms cnt) (l, q) (l, q)).1, 0) := rfl
  rw [if_neg (c := op = true ∧ _) (fun hh => by rcases hh.2.1 with h5 | h5 <;> exact absurd h5 (by decide))] at hX
  by_cases hc : beforeP L 5 (l, q) = (l, q)
  · have hm : movedP (beforeP L 5) (l, q) = false := by unfold movedP; simp [hc]
    rw [if_pos hc] at hX
    show Tells _ (plV _) (movedP (beforeP L 5) (l, q)) _
    rw [hm]
    exact tells_none hX
  · have hm : movedP (beforeP L 5) (l, q) = true := by unfold movedP; simp [hc]
    rw [if_neg hc] at hX
    show Tells _ (plV _) (movedP (beforeP L 5) (l, q)) _
    rw [hm]
    exact tells_some hX
theorem row41 (F : Nat → Prop) (a : Option Addr) (n c l q : Nat) (cnt arg want : Int) (op : Bool) (L : List (List Int)) (w : World) (h : RdL F w a n c L) (hp : okP L (l, q)) (ht : ((tms cnt : Nat) : Int) ≤ 9223372036854775807) (hw : i64b want) (hz : sizeN (lens L) ≤ 262144) :
    Calls Try.prog 39 #[askL a n c l q ((tms cnt : Nat) : Int) 41 cnt arg want op] w fun e w' => ∃ r ok, e = .returned (.tuple #[r, .bool ok]) ∧ Below w.heap.size w w' ∧ Tells (mvP L (l, q) ⟨41, cnt, arg, want⟩ op) r ok 0 := by
  have hln : L.length = n := h.len
  have hl : l < L.length := hp.1
  have hq := hp.2
  simp only at hq
  refine (nextSent_any F a n c l q (tms cnt) 41 cnt arg want op L w h hp ht (tms_pos cnt) hz).mono ?_
  rintro e w' ⟨rfl, hb⟩
  refine ⟨_, _, rfl, hb, ?_⟩
  have hX : mvP L (l, q) ⟨41, cnt, arg, want⟩ op = if behindP L 6 (l, q) = (l, q) then none else if op = true ∧ ((41 : Int) = 119 ∨ (41 : Int) = 87) ∧ (stepsP (behindP L 6) (tms cnt) (l, q) (l, q)).1.1 ≠ (stepsP (behindP L 6) (tms cnt) (l, q) (l, q)).2.1 then some (((stepsP (behindP L 6) (tms cnt) (l, q) (l, q)).2.1, (lnL L (stepsP (behindP L 6) (tms cnt) (l, q) (l, q)).2.1).length), 0) else some ((stepsP (behindP L 6) (tms cnt) (l, q) (l, q)).1, 0) := rfl
  rw [if_neg (c := op = true ∧ _) (fun hh => by rcases hh.2.1 with h5 | h5 <;> exact absurd h5 (by decide))] at hX
  by_cases hc : behindP L 6 (l, q) = (l, q)
  · have hm : movedP (behindP L 6) (l, q) = false := by unfold movedP; simp [hc]
    rw [if_pos hc] at hX
    show Tells _ (plV _) (movedP (behindP L 6) (l, q)) _
    rw [hm]
    exact tells_none hX
  · have hm : movedP (behindP L 6) (l, q) = true := by unfold movedP; simp [hc]
    rw [if_neg hc] at hX
    show Tells _ (plV _) (movedP (behindP L 6) (l, q)) _
    rw [hm]
    exact tells_some hX
theorem row40 (F : Nat → Prop) (a : Option Addr) (n c l q : Nat) (cnt arg want : Int) (op : Bool) (L : List (List Int)) (w : World) (h : RdL F w a n c L) (hp : okP L (l, q)) (ht : ((tms cnt : Nat) : Int) ≤ 9223372036854775807) (hw : i64b want) (hz : sizeN (lens L) ≤ 262144) :
    Calls Try.prog 40 #[askL a n c l q ((tms cnt : Nat) : Int) 40 cnt arg want op] w fun e w' => ∃ r ok, e = .returned (.tuple #[r, .bool ok]) ∧ Below w.heap.size w w' ∧ Tells (mvP L (l, q) ⟨40, cnt, arg, want⟩ op) r ok 0 := by
  have hln : L.length = n := h.len
  have hl : l < L.length := hp.1
  have hq := hp.2
  simp only at hq
  refine (prevSent_any F a n c l q (tms cnt) 40 cnt arg want op L w h hp ht (tms_pos cnt) hz).mono ?_
  rintro e w' ⟨rfl, hb⟩
  refine ⟨_, _, rfl, hb, ?_⟩
  have hX : mvP L (l, q) ⟨40, cnt, arg, want⟩ op = if beforeP L 6 (l, q) = (l, q) then none else if op = true ∧ ((40 : Int) = 119 ∨ (40 : Int) = 87) ∧ (stepsP (beforeP L 6) (tms cnt) (l, q) (l, q)).1.1 ≠ (stepsP (beforeP L 6) (tms cnt) (l, q) (l, q)).2.1 then some (((stepsP (beforeP L 6) (tms cnt) (l, q) (l, q)).2.1, (lnL L (stepsP (beforeP L 6) (tms cnt) (l, q) (l, q)).2.1).length), 0) else some ((stepsP (beforeP L 6) (tms cnt) (l, q) (l, q)).1, 0) := rfl
  rw [if_neg (c := op = true ∧ _) (fun hh => by rcases hh.2.1 with h5 | h5 <;> exact absurd h5 (by decide))] at hX
  by_cases hc : beforeP L 6 (l, q) = (l, q)
  · have hm : movedP (beforeP L 6) (l, q) = false := by unfold movedP; simp [hc]
    rw [if_pos hc] at hX
    show Tells _ (plV _) (movedP (beforeP L 6) (l, q)) _
    rw [hm]
    exact tells_none hX
  · have hm : movedP (beforeP L 6) (l, q) = true := by unfold movedP; simp [hc]
    rw [if_neg hc] at hX
    show Tells _ (plV _) (movedP (beforeP L 6) (l, q)) _
    rw [hm]
    exact tells_some hX
theorem row119 (F : Nat → Prop) (a : Option Addr) (n c l q : Nat) (cnt arg want : Int) (op : Bool) (L : List (List Int)) (w : World) (h : RdL F w a n c L) (hp : okP L (l, q)) (ht : ((tms cnt : Nat) : Int) ≤ 9223372036854775807) (hw : i64b want) (hz : sizeN (lens L) ≤ 262144) :
    Calls Try.prog 29 #[askL a n c l q ((tms cnt : Nat) : Int) 119 cnt arg want op] w fun e w' => ∃ r ok, e = .returned (.tuple #[r, .bool ok]) ∧ Below w.heap.size w w' ∧ Tells (mvP L (l, q) ⟨119, cnt, arg, want⟩ op) r ok 0 := by
  have hln : L.length = n := h.len
  have hl : l < L.length := hp.1
  have hq := hp.2
  simp only at hq
  refine (nextWord_any F a n c l q (tms cnt) 119 cnt arg want op L w h hp ht (tms_pos cnt) hz false rfl).mono ?_
  rintro e w' ⟨rfl, hb⟩
  refine ⟨_, _, rfl, hb, ?_⟩
  have hX : mvP L (l, q) ⟨119, cnt, arg, want⟩ op = if behindP L 0 (l, q) = (l, q) then none else if op = true ∧ ((119 : Int) = 119 ∨ (119 : Int) = 87) ∧ (stepsP (behindP L 0) (tms cnt) (l, q) (l, q)).1.1 ≠ (stepsP (behindP L 0) (tms cnt) (l, q) (l, q)).2.1 then some (((stepsP (behindP L 0) (tms cnt) (l, q) (l, q)).2.1, (lnL L (stepsP (behindP L 0) (tms cnt) (l, q) (l, q)).2.1).length), 0) else some ((stepsP (behindP L 0) (tms cnt) (l, q) (l, q)).1, 0) := rfl
  show Tells _ (plV (nwP L op (stepsP (behindP L 0) (tms cnt) (l, q) (l, q)))) (movedP (behindP L 0) (l, q)) _
  by_cases hc : behindP L 0 (l, q) = (l, q)
  · have hm : movedP (behindP L 0) (l, q) = false := by unfold movedP; simp [hc]
    rw [if_pos hc] at hX
    rw [hm]
    exact tells_none hX
  · have hm : movedP (behindP L 0) (l, q) = true := by unfold movedP; simp [hc]
    rw [if_neg hc] at hX
    rw [hm]
    unfold nwP
    by_cases ho : op = true ∧ (stepsP (behindP L 0) (tms cnt) (l, q) (l, q)).1.1 ≠ (stepsP (behindP L 0) (tms cnt) (l, q) (l, q)).2.1
    · rw [if_pos ho]
      rw [if_pos ⟨ho.1, by decide, ho.2⟩] at hX
      exact tells_some hX
    · rw [if_neg ho]
      rw [if_neg (fun hh => ho ⟨hh.1, hh.2.2⟩)] at hX
      exact tells_some hX
theorem row87 (F : Nat → Prop) (a : Option Addr) (n c l q : Nat) (cnt arg want : Int) (op : Bool) (L : List (List Int)) (w : World) (h : RdL F w a n c L) (hp : okP L (l, q)) (ht : ((tms cnt : Nat) : Int) ≤ 9223372036854775807) (hw : i64b want) (hz : sizeN (lens L) ≤ 262144) :
    Calls Try.prog 29 #[askL a n c l q ((tms cnt : Nat) : Int) 87 cnt arg want op] w fun e w' => ∃ r ok, e = .returned (.tuple #[r, .bool ok]) ∧ Below w.heap.size w w' ∧ Tells (mvP L (l, q) ⟨87, cnt, arg, want⟩ op) r ok 0 := by
  have hln : L.length = n := h.len
  have hl : l < L.length := hp.1
  have hq := hp.2
  simp only at hq
  refine (nextWord_any F a n c l q (tms cnt) 87 cnt arg want op L w h hp ht (tms_pos cnt) hz true rfl).mono ?_
  rintro e w' ⟨rfl, hb⟩
  refine ⟨_, _, rfl, hb, ?_⟩
  have hX : mvP L (l, q) ⟨87, cnt, arg, want⟩ op = if behindP L 1 (l, q) = (l, q) then none else if op = true ∧ ((87 : Int) = 119 ∨ (87 : Int) = 87) ∧ (stepsP (behindP L 1) (tms cnt) (l, q) (l, q)).1.1 ≠ (stepsP (behindP L 1) (tms cnt) (l, q) (l, q)).2.1 then some (((stepsP (behindP L 1) (tms cnt) (l, q) (l, q)).2.1, (lnL L (stepsP (behindP L 1) (tms cnt) (l, q) (l, q)).2.1).length), 0) else some ((stepsP (behindP L 1) (tms cnt) (l, q) (l, q)).1, 0) := rfl
  show Tells _ (plV (nwP L op (stepsP (behindP L 1) (tms cnt) (l, q) (l, q)))) (movedP (behindP L 1) (l, q)) _
  by_cases hc : behindP L 1 (l, q) = (l, q)
  · have hm : movedP (behindP L 1) (l, q) = false := by unfold movedP; simp [hc]
    rw [if_pos hc] at hX
    rw [hm]
    exact tells_none hX
  · have hm : movedP (behindP L 1) (l, q) = true := by unfold movedP; simp [hc]
    rw [if_neg hc] at hX
    rw [hm]
    unfold nwP
    by_cases ho : op = true ∧ (stepsP (behindP L 1) (tms cnt) (l, q) (l, q)).1.1 ≠ (stepsP (behindP L 1) (tms cnt) (l, q) (l, q)).2.1
    · rw [if_pos ho]
      rw [if_pos ⟨ho.1, by decide, ho.2⟩] at hX
      exact tells_some hX
    · rw [if_neg ho]
      rw [if_neg (fun hh => ho ⟨hh.1, hh.2.2⟩)] at hX
      exact tells_some hX
end Go.Proofs.Ytikdojebnbmpoaa.U
