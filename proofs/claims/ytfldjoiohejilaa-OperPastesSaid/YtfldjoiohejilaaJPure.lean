/-
  Regions of lines, and what operators make of lines, as plain mathematics.
-/
import Derived.Test.YtfldjoiohejilaaJBase
namespace Go.Proofs.Ytfldjoiohejilaa.U
open Go.RowKit
set_option linter.unusedVariables false
set_option linter.unusedSimpArgs false
set_option maxRecDepth 100000

/-- a region as it is handed in: two places, a kind -/
structure Rgn where
  f : Po
  t : Po
  k : Int
deriving DecidableEq
def Rgn.v (r : Rgn) : Value := .agg #[.int .i64 r.f.l, .int .i64 r.f.c, .int .i64 r.t.l, .int .i64 r.t.c, .int .i64 r.k]
/-- a region whose places are there -/
def rgnV (p q : Pl) (k : Int) : Value := .agg #[.int .i64 (p.1 : Nat), .int .i64 (p.2 : Nat), .int .i64 (q.1 : Nat), .int .i64 (q.2 : Nat), .int .i64 k]
def upP (p : Pl) : Po := ⟨(p.1 : Int), (p.2 : Int)⟩
def clipZ (L : List (List Int)) (p : Po) : Pl := clipP L p.l p.c
def thereR (L : List (List Int)) (r : Rgn) : Int := if r.k < 0 ∨ 2 < r.k then 1 else if L = [] ∨ upP (clipZ L r.f) ≠ r.f ∨ upP (clipZ L r.t) ≠ r.t then 2 else 0
def endsR (p q : Pl) : Pl × Pl := if aheadP q p then (q, p) else (p, q)
def regHas (k : Int) (p q x : Pl) : Bool :=
  if k = 0 then !aheadP x (endsR p q).1 && !aheadP (endsR p q).2 x
  else if k = 1 then decide ((endsR p q).1.1 ≤ x.1) && decide (x.1 ≤ (endsR p q).2.1)
  else decide ((endsR p q).1.1 ≤ x.1) && decide (x.1 ≤ (endsR p q).2.1) && decide (min p.2 q.2 ≤ x.2) && decide (x.2 ≤ max p.2 q.2)
def partIn (k : Int) (p q : Pl) (i : Nat) (x : List Int) (m : Nat) : List Int := ((List.range m).filter fun c => regHas k p q (i, c)).map fun c => x.getD c 0
def partOut (k : Int) (p q : Pl) (i : Nat) (x : List Int) (m : Nat) : List Int := ((List.range m).filter fun c => !regHas k p q (i, c)).map fun c => x.getD c 0
/-- line i's part that a region has; that it has not -/
def inL (L : List (List Int)) (k : Int) (p q : Pl) (i : Nat) : List Int := partIn k p q i (lnL L i) (lnL L i).length
def outL (L : List (List Int)) (k : Int) (p q : Pl) (i : Nat) : List Int := partOut k p q i (lnL L i) (lnL L i).length
/-- m lines' parts from line a on -/
def insL (L : List (List Int)) (k : Int) (p q : Pl) (a m : Nat) : List (List Int) := (List.range m).map fun j => inL L k p q (a + j)
def outsL (L : List (List Int)) (k : Int) (p q : Pl) (a m : Nat) : List (List Int) := (List.range m).map fun j => outL L k p q (a + j)
/-- how many lines a region goes over -/
def overN (p q : Pl) : Nat := (endsR p q).2.1 + 1 - (endsR p q).1.1
def takeL (L : List (List Int)) (p q : Pl) (k : Int) : List (List Int) := insL L k p q (endsR p q).1.1 (overN p q)
def takeR (L : List (List Int)) (r : Rgn) : (Int × List (List Int)) × Int :=
  if thereR L r = 0 then ((r.k, takeL L (clipZ L r.f) (clipZ L r.t) r.k), 0) else ((0, []), thereR L r)
def cutL (L : List (List Int)) (p q : Pl) (k : Int) : List (List Int) :=
  L.take (endsR p q).1.1 ++ (if k = 2 then outsL L k p q (endsR p q).1.1 (overN p q) else if k = 0 then [(outsL L k p q (endsR p q).1.1 (overN p q)).flatten] else []) ++ L.drop ((endsR p q).2.1 + 1)
def cutQ (M : List (List Int)) (p q : Pl) (k : Int) : Pl :=
  if k = 1 then (min (endsR p q).1.1 (M.length - 1), firstR (lnL M (min (endsR p q).1.1 (M.length - 1))))
  else if k = 2 then clipP M ((endsR p q).1.1 : Int) ((min p.2 q.2 : Nat) : Int)
  else clipP M ((endsR p q).1.1 : Int) ((endsR p q).1.2 : Int)
def cutM (L : List (List Int)) (p q : Pl) (k : Int) : List (List Int) := if k = 1 ∧ cutL L p q k = [] then [[]] else cutL L p q k
def cutR (L : List (List Int)) (r : Rgn) : List (List Int) × Pl × Int :=
  if thereR L r = 0 then (cutM L (clipZ L r.f) (clipZ L r.t) r.k, cutQ (cutM L (clipZ L r.f) (clipZ L r.t) r.k) (clipZ L r.f) (clipZ L r.t) r.k, 0) else ([], (0, 0), thereR L r)

def blanksR (n : Nat) : List Int := List.replicate n 32
def filledR (x : List Int) (n : Nat) : List Int := x ++ blanksR (n - x.length)
def widestR (L : List (List Int)) : Nat := L.foldl (fun m x => max m x.length) 0
def runesR (L : List (List Int)) : Nat := (joinL L).length
def eachR (k : Int) (G : List (List Int)) : Nat := if k = 0 then runesR G else if k = 1 then runesR G + 1 else widestR G * G.length
/-- so many times -/
def timesN (k : Int) (G : List (List Int)) (n : Int) : Nat := if eachR k G = 0 then 1 else (max 1 n).toNat
def repL (n : Nat) (x : List Int) : List Int := (List.replicate n x).flatten
def repLL (n : Nat) (G : List (List Int)) : List (List Int) := (List.replicate n G).flatten
def colR (L : List (List Int)) (q : Pl) (behind : Bool) : Nat := if behind = true ∧ lnL L q.1 ≠ [] then q.2 + 1 else q.2
def charsX (L : List (List Int)) (q : Pl) (G : List (List Int)) (col m : Nat) : List Int := (lnL L q.1).take col ++ repL m (joinL G) ++ (lnL L q.1).drop col
def charsL (L : List (List Int)) (q : Pl) (G : List (List Int)) (col m : Nat) : List (List Int) := L.take q.1 ++ splitL (charsX L q G col m) ++ L.drop (q.1 + 1)
def charsQ (L : List (List Int)) (q : Pl) (G : List (List Int)) (col m : Nat) : Pl :=
  clipP (charsL L q G col m) (q.1 : Int) (if G.length = 1 then (if lnL G 0 = [] then (q.2 : Int) else ((col + m * (lnL G 0).length : Nat) : Int) - 1) else (col : Int))
def wholeL (L : List (List Int)) (at_ : Nat) (G : List (List Int)) (m : Nat) : List (List Int) := L.take at_ ++ repLL m G ++ L.drop at_
def wholeQ (L : List (List Int)) (at_ : Nat) (G : List (List Int)) (m : Nat) : Pl := (at_, firstR (lnL (wholeL L at_ G m) at_))
def blockX (x : List Int) (col m w : Nat) (g : List Int) : List Int := (filledR x col).take col ++ repL m (filledR g w) ++ (filledR x col).drop col
def blockS (q1 : Nat) (G : List (List Int)) (col m : Nat) (out : List (List Int)) (i : Nat) : List (List Int) :=
  (if q1 + i = out.length then out ++ [[]] else out).set (q1 + i) (blockX (lnL (if q1 + i = out.length then out ++ [[]] else out) (q1 + i)) col m (widestR G) (lnL G i))
def blockL (L : List (List Int)) (q1 : Nat) (G : List (List Int)) (col m i : Nat) : List (List Int) := (List.range i).foldl (blockS q1 G col m) L
def pasteM (L : List (List Int)) (q : Pl) (k : Int) (G : List (List Int)) (behind : Bool) (m : Nat) : List (List Int) :=
  if k = 2 then blockL L q.1 G (colR L q behind) m G.length else if k = 1 then wholeL L (if behind then q.1 + 1 else q.1) G m else charsL L q G (colR L q behind) m
def pasteQ (L : List (List Int)) (q : Pl) (k : Int) (G : List (List Int)) (behind : Bool) (m : Nat) : Pl :=
  if k = 2 then clipP (blockL L q.1 G (colR L q behind) m G.length) (q.1 : Int) (colR L q behind : Int) else if k = 1 then wholeQ L (if behind then q.1 + 1 else q.1) G m else charsQ L q G (colR L q behind) m
def pasteR (L : List (List Int)) (p : Po) (k : Int) (G : List (List Int)) (behind : Bool) (n : Int) : List (List Int) × Pl × Int :=
  if k < 0 ∨ 2 < k ∨ G = [] ∨ (!(G.any has10)) = false then ([], (0, 0), 1)
  else if L = [] then ([], (0, 0), 2)
  else if 0 < eachR k G ∧ ((65536 / eachR k G : Nat) : Int) < max 1 n then ([], (0, 0), 3)
  else if 65536 < runesR (pasteM L (clipZ L p) k G behind (timesN k G n)) then ([], (0, 0), 3)
  else (pasteM L (clipZ L p) k G behind (timesN k G n), pasteQ L (clipZ L p) k G behind (timesN k G n), 0)

def turnC13 (how c : Int) : Int := if (97 ≤ c ∧ c ≤ 122) ∧ how ≠ 117 then c - 32 else if (65 ≤ c ∧ c ≤ 90) ∧ how ≠ 85 then c + 32 else c
/-- a line of which the first m runes are turned -/
def turnX (k : Int) (p q : Pl) (how : Int) (i : Nat) (x : List Int) (m : Nat) : List Int := (x.take m).mapIdx (fun c r => if regHas k p q (i, c) then turnC13 how r else r) ++ x.drop m
def turnL (L : List (List Int)) (k : Int) (p q : Pl) (how : Int) (m : Nat) : List (List Int) := (L.take m).mapIdx (fun i x => turnX k p q how i x x.length) ++ L.drop m
def turnR (L : List (List Int)) (r : Rgn) (how : Int) : List (List Int) × Int :=
  if how ≠ 126 ∧ how ≠ 117 ∧ how ≠ 85 then ([], 1) else if thereR L r = 0 then (turnL L r.k (clipZ L r.f) (clipZ L r.t) how L.length, 0) else ([], thereR L r)

def blankR (c : Int) : Bool := cls false c == 0
/-- without at most so many blanks ahead -/
def dropB : Nat → List Int → List Int
  | _, [] => []
  | 0, x => x
  | n + 1, c :: x => if blankR c then dropB n x else c :: x
def shiftX (by_ : Int) (x : List Int) : List Int := if 0 < by_ then (if x = [] then [] else blanksR by_.toNat ++ x) else dropB (-by_).toNat x
/-- of the lines those from a on, at most m, shifted -/
def shiftL (L : List (List Int)) (by_ : Int) (a m : Nat) : List (List Int) := L.take a ++ ((L.drop a).take m).map (shiftX by_) ++ (L.drop a).drop m
def shiftR13 (L : List (List Int)) (a b by_ : Int) : List (List Int) × Int :=
  if by_ < -64 ∨ 64 < by_ then ([], 1) else if a < 0 ∨ b < a ∨ (L.length : Int) ≤ b then ([], 2)
  else if 65536 < runesR (shiftL L by_ a.toNat (b.toNat + 1 - a.toNat)) then ([], 3) else (shiftL L by_ a.toNat (b.toNat + 1 - a.toNat), 0)

def joinY (y : List Int) : List Int := y.dropWhile blankR
/-- a line behind what is ahead -/
def joinX (x y : List Int) : List Int := x ++ (if joinY y ≠ [] ∧ (joinY y).getD 0 0 ≠ 41 ∧ x ≠ [] ∧ blankR (x.getD (x.length - 1) 0) = false then [32] else []) ++ joinY y
def joinA (L : List (List Int)) (at_ : Nat) : Nat → List Int
  | 0 => lnL L at_
  | j + 1 => joinX (joinA L at_ j) (lnL L (at_ + j + 1))
def joinC (L : List (List Int)) (at_ : Nat) : Nat → Nat
  | 0 => 0
  | j + 1 => (joinA L at_ j).length
def joinM (L : List (List Int)) (at_ n : Nat) : List (List Int) := L.take at_ ++ [joinA L at_ (n - 1)] ++ L.drop (at_ + n)
def joinR13 (L : List (List Int)) (at_ n : Int) : List (List Int) × Pl × Int :=
  if at_ < 0 ∨ (L.length : Int) ≤ at_ ∨ (L.length : Int) - at_ < max 2 n then ([], (0, 0), 2)
  else (joinM L at_.toNat (max 2 n).toNat, clipP (joinM L at_.toNat (max 2 n).toNat) at_ (joinC L at_.toNat ((max 2 n).toNat - 1) : Int), 0)

def overX (x : List Int) (c : Nat) (r : Int) (m : Nat) : List Int := x.take c ++ List.replicate m r ++ x.drop (c + m)
def overM (L : List (List Int)) (q : Pl) (r : Int) (m : Nat) : List (List Int) :=
  L.take q.1 ++ (if r = 10 then [(lnL L q.1).take q.2, (lnL L q.1).drop (q.2 + m)] else [overX (lnL L q.1) q.2 r m]) ++ L.drop (q.1 + 1)
def overR (L : List (List Int)) (p : Po) (r n : Int) : List (List Int) × Pl × Int :=
  if L = [] then ([], (0, 0), 2)
  else if ((lnL L (clipZ L p).1).length : Int) - ((clipZ L p).2 : Int) < max 1 n then ([], (0, 0), 2)
  else (overM L (clipZ L p) r (max 1 n).toNat, (if r = 10 then ((clipZ L p).1 + 1, 0) else ((clipZ L p).1, (clipZ L p).2 + (max 1 n).toNat - 1)), 0)

-- chapter 13's examples
def ex13A : List (List Int) := [[97, 98], [99, 100]]
theorem ex13_1 : takeR ex13A ⟨⟨0, 1⟩, ⟨1, 0⟩, 0⟩ = ((0, [[98], [99]]), 0) := by decide
theorem ex13_2 : cutR ex13A ⟨⟨0, 1⟩, ⟨1, 0⟩, 0⟩ = ([[97, 100]], (0, 1), 0) := by decide
theorem ex13_3 : pasteR ex13A ⟨0, 0⟩ 0 [[120, 121]] true 2 = ([[97, 120, 121, 120, 121, 98], [99, 100]], (0, 4), 0) := by decide
theorem ex13_4 : joinR13 [[97], [98]] 0 2 = ([[97, 32, 98]], (0, 1), 0) := by decide

theorem partIn_zero (k : Int) (p q : Pl) (i : Nat) (x : List Int) : partIn k p q i x 0 = [] := rfl
theorem partOut_zero (k : Int) (p q : Pl) (i : Nat) (x : List Int) : partOut k p q i x 0 = [] := rfl
theorem partIn_yes {k : Int} {p q : Pl} {i m : Nat} {x : List Int} {z : Int} (h : regHas k p q (i, m) = true) (hz : x[m]? = some z) : partIn k p q i x (m + 1) = partIn k p q i x m ++ [z] := by
  unfold partIn
  rw [List.range_succ, List.filter_append, List.map_append]
  simp [h, List.getD_eq_getElem?_getD, hz]
theorem partIn_no {k : Int} {p q : Pl} {i m : Nat} {x : List Int} (h : regHas k p q (i, m) = false) : partIn k p q i x (m + 1) = partIn k p q i x m := by
  unfold partIn
  rw [List.range_succ, List.filter_append, List.map_append]
  simp [h]
theorem partOut_no {k : Int} {p q : Pl} {i m : Nat} {x : List Int} (h : regHas k p q (i, m) = true) : partOut k p q i x (m + 1) = partOut k p q i x m := by
  unfold partOut
  rw [List.range_succ, List.filter_append, List.map_append]
  simp [h]
theorem partOut_yes {k : Int} {p q : Pl} {i m : Nat} {x : List Int} {z : Int} (h : regHas k p q (i, m) = false) (hz : x[m]? = some z) : partOut k p q i x (m + 1) = partOut k p q i x m ++ [z] := by
  unfold partOut
  rw [List.range_succ, List.filter_append, List.map_append]
  simp [h, List.getD_eq_getElem?_getD, hz]
theorem partIn_len (k : Int) (p q : Pl) (i : Nat) (x : List Int) (m : Nat) : (partIn k p q i x m).length ≤ m := by
  unfold partIn
  rw [List.length_map]
  exact Nat.le_trans (List.length_filter_le _ _) (by simp)
theorem partOut_len (k : Int) (p q : Pl) (i : Nat) (x : List Int) (m : Nat) : (partOut k p q i x m).length ≤ m := by
  unfold partOut
  rw [List.length_map]
  exact Nat.le_trans (List.length_filter_le _ _) (by simp)
theorem insL_succ (L : List (List Int)) (k : Int) (p q : Pl) (a m : Nat) : insL L k p q a (m + 1) = insL L k p q a m ++ [inL L k p q (a + m)] := by
  unfold insL
  rw [List.range_succ, List.map_append]
  rfl
theorem outsL_succ (L : List (List Int)) (k : Int) (p q : Pl) (a m : Nat) : outsL L k p q a (m + 1) = outsL L k p q a m ++ [outL L k p q (a + m)] := by
  unfold outsL
  rw [List.range_succ, List.map_append]
  rfl
theorem insL_len (L : List (List Int)) (k : Int) (p q : Pl) (a m : Nat) : (insL L k p q a m).length = m := by simp [insL]
theorem outsL_len (L : List (List Int)) (k : Int) (p q : Pl) (a m : Nat) : (outsL L k p q a m).length = m := by simp [outsL]
theorem lnL_of {L : List (List Int)} {i : Nat} {x : List Int} (h : L[i]? = some x) : lnL L i = x := by simp [lnL, List.getD_eq_getElem?_getD, h]
theorem endsR_le (p q : Pl) : (endsR p q).1.1 ≤ (endsR p q).2.1 := by
  obtain ⟨a, b⟩ := p
  obtain ⟨c, d⟩ := q
  unfold endsR aheadP
  by_cases h1 : c < a
  · simp [h1]; omega
  · by_cases h2 : c = a
    · subst h2
      by_cases h3 : d < b <;> simp [h3]
    · simp [h1, h2]; omega
theorem endsR_ok {L : List (List Int)} {p q : Pl} (hp : okP L p) (hq : okP L q) : okP L (endsR p q).1 ∧ okP L (endsR p q).2 := by
  unfold endsR
  split
  · exact ⟨hq, hp⟩
  · exact ⟨hp, hq⟩
theorem wf_part {x : List Int} (h : ∀ y ∈ x, (Lit.int .i32 y).wf = true) (f : Nat → Bool) : ∀ y ∈ ((List.range x.length).filter f).map (fun c => x.getD c 0), (Lit.int .i32 y).wf = true := by
  intro y hy
  obtain ⟨c, hc, rfl⟩ := List.mem_map.1 hy
  have hc := (List.mem_filter.1 hc).1
  rw [List.mem_range] at hc
  rw [List.getD_eq_getElem?_getD, List.getElem?_eq_getElem hc]
  exact h _ (List.getElem_mem hc)
theorem repL_succ (n : Nat) (x : List Int) : repL (n + 1) x = repL n x ++ x := by
  unfold repL
  rw [List.replicate_succ', List.flatten_append]
  simp
theorem repL_len (n : Nat) (x : List Int) : (repL n x).length = n * x.length := by simp [repL]
theorem blanksR_succ (n : Nat) : blanksR (n + 1) = blanksR n ++ [32] := List.replicate_succ'
end Go.Proofs.Ytfldjoiohejilaa.U
