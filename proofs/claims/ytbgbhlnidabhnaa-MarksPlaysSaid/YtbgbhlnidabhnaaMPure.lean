/-
  Places, changes, marks and jumps as plain mathematics.
-/
import Derived.Test.YtbgbhlnidabhnaaMBase
namespace Go.Proofs.Ytbgbhlnidabhnaa.U
open Go.RowKit
set_option linter.unusedVariables false
set_option linter.unusedSimpArgs false
set_option maxRecDepth 100000

/-- a place -/
structure Po where
  l : Int
  c : Int
  deriving DecidableEq, Inhabited
def Po.v (p : Po) : Value := .agg #[.int .i64 p.l, .int .i64 p.c]
def po0 : Po := ⟨0, 0⟩
def i64p (p : Po) : Prop := i64b p.l ∧ i64b p.c
/-- where a change leaves a place -/
def moveP (p : Po) (c : Ch) : Option Po :=
  if p.l < c.pos then some p
  else if (c.old.length : Int) ≤ p.l - c.pos then some ⟨p.l + (c.now.length : Int) - (c.old.length : Int), p.c⟩
  else if (c.now.length : Int) ≤ p.l - c.pos then none
  else some ⟨p.l, min p.c ((c.now.getD (p.l - c.pos).toNat []).length : Int)⟩
/-- numbers that never wrap -/
def NearM (p : Po) (c : Ch) : Prop := -2199023255552 ≤ p.l ∧ p.l ≤ 2199023255552 ∧ -1099511627776 ≤ c.pos ∧ c.pos ≤ 1099511627776 ∧ c.old.length ≤ 35184372088832 ∧ c.now.length ≤ 35184372088832
def nearB (p : Po) (c : Ch) : Bool := decide (p.l ≤ 1099511627776 ∧ -1099511627776 ≤ p.l ∧ c.pos ≤ 1099511627776 ∧ -1099511627776 ≤ c.pos)
theorem moveP_0 {p : Po} {c : Ch} (h : p.l < c.pos) : moveP p c = some p := by simp [moveP, h]
theorem moveP_1 {p : Po} {c : Ch} (h : ¬ p.l < c.pos) (h2 : (c.old.length : Int) ≤ p.l - c.pos) : moveP p c = some ⟨p.l + (c.now.length : Int) - (c.old.length : Int), p.c⟩ := by simp [moveP, h, h2]
theorem moveP_2 {p : Po} {c : Ch} (h : ¬ p.l < c.pos) (h2 : ¬ (c.old.length : Int) ≤ p.l - c.pos) (h3 : (c.now.length : Int) ≤ p.l - c.pos) : moveP p c = none := by simp [moveP, h, h2, h3]
theorem moveP_3 {p : Po} {c : Ch} (h : ¬ p.l < c.pos) (h2 : ¬ (c.old.length : Int) ≤ p.l - c.pos) (h3 : ¬ (c.now.length : Int) ≤ p.l - c.pos) : moveP p c = some ⟨p.l, min p.c ((c.now.getD (p.l - c.pos).toNat []).length : Int)⟩ := by simp [moveP, h, h2, h3]
/-- a call's answer: a place, and whether there is one -/
def ansV (o : Option Po) : Value := .tuple #[(o.getD po0).v, .bool o.isSome]
def Great : Int := 1073741824
def fitsP (p : Po) : Bool := decide (0 ≤ p.l ∧ p.l ≤ 1073741824 ∧ 0 ≤ p.c ∧ p.c ≤ 1073741824)
def nameB (r : Int) : Bool := decide (r = 96 ∨ r = 46 ∨ r = 94 ∨ r = 91 ∨ r = 93 ∨ r = 60 ∨ r = 62 ∨ (97 ≤ r ∧ r ≤ 122))
end Go.Proofs.Ytbgbhlnidabhnaa.U
