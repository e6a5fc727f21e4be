/-
  The program's lone: the nearest bracket to a side that has not its other one between. (MADE by wip/tools/gen_blon.py.)
-/
import Derived.Test.YthlhgkeodaifcaaDoorBOut
import Derived.Test.YthlhgkeodaifcaaDoorBLone
namespace Go.Proofs.YthlhgkeodaifcaaDoor.U
open Go.RowKit Go.Shelf
set_option linter.unusedVariables false
set_option linter.unusedSimpArgs false
set_option maxRecDepth 100000
attribute [local go_sem] Oper.semAt_some

theorem But.setE {N : Nat} {E : Nat → Prop} {a b : World} (h : But N E a b) (B i : Nat) (hE : E B) (u : Value) : But N E a (b.setCell ⟨B, i, none⟩ u) := h.setCell (p := ⟨B, i, none⟩) (.inr hE) u
theorem results_cc {fn : Func} {p q : Tmp} {ty tq : TypeId} (h : fn.results = #[.cell p ty, .cell q tq]) (tmps : Array Value) (P : Program) (w : World) :
    (results fn tmps).run P w = ((asAddr (tmps.getD p undef)).run P w).andThen fun a w₁ => ((loadVar ty a).run P w₁).andThen fun v w₂ =>
      ((asAddr (tmps.getD q undef)).run P w₂).andThen fun b w₃ => ((loadVar tq b).run P w₃).andThen fun u w₄ => .ok (.tuple #[v, u]) w₄ := by
  simp only [results, h]
  simp [Sem.run_bind, Result.andThen]
theorem row1 {w : World} {b : Nat} {ty : TypeId} {v0 : Value} (h : w.heap[b]? = some (.cells #[v0] ty (0, 0))) : w.cell? ⟨b, 0, none⟩ = some v0 ∧ w.frozen? ⟨b, 0, none⟩ = false :=
  ⟨by rw [cell_row h]; rfl, by simp [World.frozen?, h]⟩
theorem row2v2 {w : World} {b : Nat} {ty : TypeId} {v0 v1 : Value} (h : w.heap[b]? = some (.cells #[v0, v1] ty (0, 0))) : w.cell? ⟨b, 0, none⟩ = some v0 ∧ w.cell? ⟨b, 1, none⟩ = some v1 ∧ w.frozen? ⟨b, 0, none⟩ = false ∧ w.frozen? ⟨b, 1, none⟩ = false :=
  ⟨by rw [cell_row h]; rfl, by rw [cell_row h]; rfl, by simp [World.frozen?, h], by simp [World.frozen?, h]⟩
theorem six (w : World) (o1 o2 o3 o4 o5 o6 : Obj) : ∃ w1, (((((w.alloc o1).alloc o2).alloc o3).alloc o4).alloc o5).alloc o6 = w1 ∧ w1.heap.size = w.heap.size + 6 ∧ w1.heap[w.heap.size]? = some o1 ∧ w1.heap[w.heap.size + 1]? = some o2 ∧ w1.heap[w.heap.size + 1 + 1]? = some o3 ∧ w1.heap[w.heap.size + 1 + 1 + 1]? = some o4 ∧ w1.heap[w.heap.size + 1 + 1 + 1 + 1]? = some o5 ∧ w1.heap[w.heap.size + 1 + 1 + 1 + 1 + 1]? = some o6 ∧ Below w.heap.size w w1 := by
  obtain ⟨w0, hw0, hs0, g1, g2, g3, hb0⟩ := three3 w o1 o2 o3
  obtain ⟨w1, hw1, hs1, g4, g5, g6, hb1⟩ := three3 w0 o4 o5 o6
  rw [hs0] at g4 g5 g6
  exact ⟨w1, by rw [hw0, hw1], by omega, keepO g1 hb1, keepO g2 hb1, keepO g3 hb1, g4, g5, g6, btr hb0 hb1⟩
/-- what lies in lone's boxes: what it is asked with, the result, the number of others -/
structure LnS (w : World) (A : Obj) (B1 B2 B3 B4 B5 : Nat) (own oth : Int) (x y : Value) (ok : Bool) (k : Int) (W : World) : Prop where
  blw : Below w.heap.size w W
  a0 : W.heap[w.heap.size]? = some A
  a1 : W.heap[B1]? = some (.cells #[.int .i32 own] 21 (0, 0))
  a2 : W.heap[B2]? = some (.cells #[.int .i32 oth] 21 (0, 0))
  a3 : W.heap[B3]? = some (.cells #[x, y] 24 (0, 0))
  a4 : W.heap[B4]? = some (.cells #[.bool ok] 4 (0, 0))
  a5 : W.heap[B5]? = some (.cells #[.int .i64 k] 3 (0, 0))
  b1 : w.heap.size < B1
  b2 : B1 < B2
  b3 : B2 < B3
  b4 : B3 < B4
  b5 : B4 < B5
variable {w W W2 : World} {A : Obj} {B1 B2 B3 B4 B5 : Nat} {own oth k : Int} {x y : Value} {ok : Bool}
theorem LnS.below (h : LnS w A B1 B2 B3 B4 B5 own oth x y ok k W) (hb : Below W.heap.size W W2) : LnS w A B1 B2 B3 B4 B5 own oth x y ok k W2 :=
  ⟨btr h.blw hb, keepO h.a0 hb, keepO h.a1 hb, keepO h.a2 hb, keepO h.a3 hb, keepO h.a4 hb, keepO h.a5 hb, h.b1, h.b2, h.b3, h.b4, h.b5⟩
theorem LnS.keepC (h : LnS w A B1 B2 B3 B4 B5 own oth x y ok k W) (hA : ∃ cur t z, A = .cells cur t z) (hb : Below w.heap.size w W2) (hk : KeepC W W2) : LnS w A B1 B2 B3 B4 B5 own oth x y ok k W2 := by
  obtain ⟨cur, t, z, rfl⟩ := hA
  exact ⟨hb, (hk _ _ _ _ h.a0).trans h.a0, (hk _ _ _ _ h.a1).trans h.a1, (hk _ _ _ _ h.a2).trans h.a2, (hk _ _ _ _ h.a3).trans h.a3, (hk _ _ _ _ h.a4).trans h.a4, (hk _ _ _ _ h.a5).trans h.a5, h.b1, h.b2, h.b3, h.b4, h.b5⟩
theorem LnS.upto (h : LnS w A B1 B2 B3 B4 B5 own oth x y ok k W) {N : Nat} (hN : B5 < N) (hb : Below N W W2) : LnS w A B1 B2 B3 B4 B5 own oth x y ok k W2 := by
  obtain ⟨h1, h2, h3, h4, h5, h6, h7, c1, c2, c3, c4, c5⟩ := h
  exact ⟨h1.trans (hb.mono (by omega)), (hb.block _ (by omega)).trans h2, (hb.block _ (by omega)).trans h3, (hb.block _ (by omega)).trans h4, (hb.block _ (by omega)).trans h5, (hb.block _ (by omega)).trans h6, (hb.block _ (by omega)).trans h7, c1, c2, c3, c4, c5⟩
theorem LnS.setK (h : LnS w A B1 B2 B3 B4 B5 own oth x y ok k W) (v : Int) : LnS w A B1 B2 B3 B4 B5 own oth x y ok v (W.setCell ⟨B5, 0, none⟩ (.int .i64 v)) := by
  obtain ⟨h1, h2, h3, h4, h5, h6, h7, c1, c2, c3, c4, c5⟩ := h
  have k0 : ¬ w.heap.size = B5 := by omega
  have k1 : ¬ B1 = B5 := by omega
  have k2 : ¬ B2 = B5 := by omega
  have k3 : ¬ B3 = B5 := by omega
  have k4 : ¬ B4 = B5 := by omega
  exact ⟨setCell_below h1 _ _ _ (by omega), (Below.heap_setCell _ _ _ _ k0).trans h2, (Below.heap_setCell _ _ _ _ k1).trans h3, (Below.heap_setCell _ _ _ _ k2).trans h4, (Below.heap_setCell _ _ _ _ k3).trans h5, (Below.heap_setCell _ _ _ _ k4).trans h6, heap_set h7 0 _, c1, c2, c3, c4, c5⟩
theorem LnS.setR (h : LnS w A B1 B2 B3 B4 B5 own oth x y ok k W) (u v : Value) (b : Bool) : LnS w A B1 B2 B3 B4 B5 own oth u v b k (((W.setCell ⟨B3, 0, none⟩ u).setCell ⟨B3, 1, none⟩ v).setCell ⟨B4, 0, none⟩ (.bool b)) := by
  obtain ⟨h1, h2, h3, h4, h5, h6, h7, c1, c2, c3, c4, c5⟩ := h
  have k0 : ¬ w.heap.size = B3 := by omega
  have k1 : ¬ B1 = B3 := by omega
  have k2 : ¬ B2 = B3 := by omega
  have k4 : ¬ B4 = B3 := by omega
  have k5 : ¬ B5 = B3 := by omega
  have j0 : ¬ w.heap.size = B4 := by omega
  have j1 : ¬ B1 = B4 := by omega
  have j2 : ¬ B2 = B4 := by omega
  have j3 : ¬ B3 = B4 := by omega
  have j5 : ¬ B5 = B4 := by omega
  refine ⟨setCell_below (setCell_below (setCell_below h1 _ _ _ (by omega)) _ _ _ (by omega)) _ _ _ (by omega), ?_, ?_, ?_, ?_, ?_, ?_, c1, c2, c3, c4, c5⟩
  · exact (Below.heap_setCell _ _ _ _ j0).trans ((Below.heap_setCell _ _ _ _ k0).trans ((Below.heap_setCell _ _ _ _ k0).trans h2))
  · exact (Below.heap_setCell _ _ _ _ j1).trans ((Below.heap_setCell _ _ _ _ k1).trans ((Below.heap_setCell _ _ _ _ k1).trans h3))
  · exact (Below.heap_setCell _ _ _ _ j2).trans ((Below.heap_setCell _ _ _ _ k2).trans ((Below.heap_setCell _ _ _ _ k2).trans h4))
  · exact (Below.heap_setCell _ _ _ _ j3).trans (heap_set (heap_set h5 0 _) 1 _)
  · refine heap_set (cs := #[.bool ok]) ?_ 0 _
    exact (Below.heap_setCell _ _ _ _ k4).trans ((Below.heap_setCell _ _ _ _ k4).trans h6)
  · exact (Below.heap_setCell _ _ _ _ j5).trans ((Below.heap_setCell _ _ _ _ k5).trans ((Below.heap_setCell _ _ _ _ k5).trans h7))
theorem LnS.cells {a : Option Addr} {n c l q : Nat} {ar : Bool} (h : LnS w (askO a n c l q ar) B1 B2 B3 B4 B5 own oth x y ok k W) : (W.cell? ⟨w.heap.size, 0, none⟩ = some (.slice a n c) ∧ W.cell? ⟨w.heap.size, 1, none⟩ = some (.int .i64 (l : Nat)) ∧ W.cell? ⟨w.heap.size, 2, none⟩ = some (.int .i64 (q : Nat)) ∧ W.cell? ⟨w.heap.size, 3, none⟩ = some (.bool ar)) ∧
    (W.cell? ⟨B1, 0, none⟩ = some (.int .i32 own) ∧ W.cell? ⟨B2, 0, none⟩ = some (.int .i32 oth)) ∧ (W.cell? ⟨B3, 0, none⟩ = some x ∧ W.cell? ⟨B3, 1, none⟩ = some y ∧ W.frozen? ⟨B3, 0, none⟩ = false ∧ W.frozen? ⟨B3, 1, none⟩ = false) ∧ (W.cell? ⟨B4, 0, none⟩ = some (.bool ok) ∧ W.frozen? ⟨B4, 0, none⟩ = false) ∧ (W.cell? ⟨B5, 0, none⟩ = some (.int .i64 k) ∧ W.frozen? ⟨B5, 0, none⟩ = false) :=
  ⟨row4 h.a0, ⟨(row1 h.a1).1, (row1 h.a2).1⟩, row2v2 h.a3, row1 h.a4, row1 h.a5⟩
/-- how far one has come -/
def LnP (own oth : Int) (p : Pl) (R0 : List (Pl × Int)) (res : Option Pl) (pre : List (Pl × Int)) (k : Nat) : Prop := ∃ rest, pre ++ rest = R0 ∧ loneP own oth p rest k = res ∧ k ≤ pre.length
theorem LnP.step {own oth : Int} {p : Pl} {R0 : List (Pl × Int)} {res : Option Pl} {pre : List (Pl × Int)} {k : Nat} {z : Pl} {r : Int} (h : LnP own oth p R0 res pre k) (hp : pre ++ [(z, r)] <+: R0) :
    ∃ rest, pre ++ [(z, r)] ++ rest = R0 ∧ (if r = own then (if k = 0 then some z else loneP own oth p rest (k - 1)) else if r = oth ∧ z ≠ p then loneP own oth p rest (k + 1) else loneP own oth p rest k) = res ∧ k ≤ pre.length := by
  obtain ⟨rest, h1, h2, h3⟩ := h
  obtain ⟨tl, ht⟩ := hp
  rw [← h1, List.append_assoc] at ht
  have := List.append_cancel_left ht
  rw [List.singleton_append] at this
  subst this
  refine ⟨tl, ?_, h2, h3⟩
  rw [← h1, List.append_assoc]; rfl
section

set_option maxHeartbeats 4000000 in
theorem alone_any (F : Nat → Prop) (a : Option Addr) (n c l q : Nat) (ar : Bool) (L : List (List Int)) (own oth sd : Int) (R0 : List (Pl × Int)) (w : World) (h : RdL F w a n c L) (hst : StandE L sd (l : Nat) (q : Nat) R0) (hR0 : R0.length ≤ 262144) :
    Calls Tryd.prog 41 #[askL a n c l q ar, .int .i32 own, .int .i32 oth, .int .i64 sd] w fun e w' => e = .returned (.tuple #[plV ((loneP own oth (l, q) R0 0).getD (0, 0)), .bool (loneP own oth (l, q) R0 0).isSome]) ∧ Below w.heap.size w w' := by
  have HC := Lib.hid (fun W => outwardC_any a n c l q ar sd W)
  obtain ⟨res, hres⟩ : ∃ r, loneP own oth (l, q) R0 0 = r := ⟨_, rfl⟩
  rw [hres]
  have HP0 : Hid (LnP own oth (l, q) R0 res [] 0) := ⟨R0, rfl, hres, Nat.zero_le _⟩
  have HH := Lib.hid h
  have HST := Lib.hid hst
  have HR0 := Lib.hid hR0
  obtain ⟨w1, hw1, hsz, g0, g1, g2, g3, g4, g5, hb1⟩ := six w (askO a n c l q ar) (.cells #[.int .i32 own] 21) (.cells #[.int .i32 oth] 21) (.cells #[.int .i64 0, .int .i64 0] 24) (.cells #[.bool false] 4) (.cells #[.int .i64 0] 3)
  obtain ⟨w2, hw2, hsz2, g6, g7, hb2⟩ := two2 w1 (askO a n c l q ar) (.cells #[.int .i64 sd] 3)
  obtain ⟨B1, e1⟩ : ∃ B, w.heap.size + 1 = B := ⟨_, rfl⟩
  rw [e1] at g1 g2 g3 g4 g5
  obtain ⟨B2, e2⟩ : ∃ B, B1 + 1 = B := ⟨_, rfl⟩
  rw [e2] at g2 g3 g4 g5
  obtain ⟨B3, e3⟩ : ∃ B, B2 + 1 = B := ⟨_, rfl⟩
  rw [e3] at g3 g4 g5
  obtain ⟨B4, e4⟩ : ∃ B, B3 + 1 = B := ⟨_, rfl⟩
  rw [e4] at g4 g5
  obtain ⟨B5, e5⟩ : ∃ B, B4 + 1 = B := ⟨_, rfl⟩
  rw [e5] at g5
  obtain ⟨S, hS⟩ : ∃ S, w1.heap.size = S := ⟨_, rfl⟩
  rw [hS] at g6 g7 hsz2
  have HLN : Hid (LnS w (askO a n c l q ar) B1 B2 B3 B4 B5 own oth (.int .i64 0) (.int .i64 0) false (0 : Nat) w2) := ⟨btr hb1 hb2, keepO g0 hb2, keepO g1 hb2, keepO g2 hb2, keepO g3 hb2, keepO g4 hb2, keepO g5 hb2, by omega, by omega, by omega, by omega, by omega⟩
  have hBS : B5 < S := by omega
  have HB2 : Hid (Below w.heap.size w w2) := btr hb1 hb2
  have HW1 := Lib.hid hw1
  have HW2 := Lib.hid hw2
  have HSS := Lib.hid hS
  have G6 := Lib.hid g6
  have G7 := Lib.hid g7
  have hs2 : w2.heap.size = S + 2 := hsz2
  have E1 := Lib.hid e1
  have E2 := Lib.hid e2
  have E3 := Lib.hid e3
  have E4 := Lib.hid e4
  have E5 := Lib.hid e5
  have HS2 := Lib.hid hs2
  obtain ⟨x0, x1, x2, x3⟩ := row4 g0
  clear h hst hR0 hres hw1 hsz g0 g1 g2 g3 g4 g5 hb1 hw2 hsz2 g6 g7 hb2 hS e1 e2 e3 e4 e5 hs2
  refine (callsIn_wide (n := 5)).1 ?_
  refine callsIn_of_wp_marks Tryd.func41 rfl trivial ?_ rfl
  simp only [Tryd.ntmps41, List.size_toArray, List.length_cons, List.length_nil, Nat.reduceAdd, Nat.reduceSub, Array.replicate_succ, Array.replicate_zero, List.push_toArray, List.append_toArray, List.nil_append, List.cons_append]
  have hB12 := HLN.out.b2
  have hB23 := HLN.out.b3
  have hB34 := HLN.out.b4
  have hB45 := HLN.out.b5
  have hB01 := HLN.out.b1
  gi_wp2
  refine ⟨trivial, ?_⟩
  rw [HW1.out]
  refine (callsIn_wide.2 (HC.out _)).mono ?_
  rintro e w3 ⟨rfl, rfl⟩
  gi_wp2
  rw [HW2.out, HSS.out, E1.out, E2.out, E3.out, E4.out, E5.out]
  refine range_free (w := w2) rfl (by omega) (gf := 51) (lb := #[.pointer (some ⟨S, 0, none⟩), .pointer (some ⟨S + 1, 0, none⟩)]) rfl trivial (enters_of Tryd.func51 (by kernel_rfl) rfl)
    (encs := fun x : Pl × Int => #[plV x.1, .int .i32 x.2]) (us := R0) (E := fun x => x = B3 ∨ x = B4 ∨ x = B5) (fun k e => by have := HS2.out; rcases e with e | e | e <;> omega) (fun _ => rfl)
    (fun o => outward_iter _ F a n c l q ar L sd R0 S (S + 1) w _ HH.out ((HB2.out.alloc HB2.out.size _).alloc (by have := HB2.out.size; simp; omega) _) _ (fun k e => by
        have h1 := HS2.out
        simp only [World.size_alloc]
        rcases e with e | e | e <;> omega)
      (((((Below.refl w2.heap.size w2).alloc (Nat.le_refl _) _).alloc (by simp) _).block _ (Array.getElem?_eq_some_iff.1 G6.out).1).trans G6.out)
      (by rw [cell_row (((((Below.refl w2.heap.size w2).alloc (Nat.le_refl _) _).alloc (by simp) _).block _ (Array.getElem?_eq_some_iff.1 G7.out).1).trans G7.out)]; rfl)
      (fun e => by rcases e with e | e | e <;> omega) (fun e => by rcases e with e | e | e <;> omega) HST.out)
    (fun pre W => ∃ k : Nat, Hid (LnP own oth (l, q) R0 res pre k) ∧ LnS w (askO a n c l q ar) B1 B2 B3 B4 B5 own oth (.int .i64 0) (.int .i64 0) false (k : Nat) W)
    (fun j pre W => j = .ret ∧ ∃ z1 z2 k : Nat, Hid (res = some (z1, z2)) ∧ LnS w (askO a n c l q ar) B1 B2 B3 B4 B5 own oth (.int .i64 (z1 : Nat)) (.int .i64 (z2 : Nat)) true (k : Nat) W)
    ?hI ?hIx ⟨0, HP0, HLN.out⟩
    (fun pre x a' W => ∃ Bx k : Nat, w2.heap.size < Bx ∧ At W Bx x.1 ∧ Hid (LnP own oth (l, q) R0 res pre k) ∧ LnS w (askO a n c l q ar) B1 B2 B3 B4 B5 own oth (.int .i64 0) (.int .i64 0) false (k : Nat) W ∧
      a' = { tmps := #[askL a n c l q ar, .int .i32 own, .int .i32 oth, .int .i64 sd, .pointer (some ⟨w.heap.size, 0, none⟩), .pointer (some ⟨B1, 0, none⟩), .pointer (some ⟨B2, 0, none⟩), undef, .pointer (some ⟨B3, 0, none⟩), .pointer (some ⟨B4, 0, none⟩), .pointer (some ⟨B5, 0, none⟩), .pointer (some ⟨Bx, 0, none⟩), .int .i32 x.2,
        askL a n c l q ar, .int .i64 sd, .func (.func 51) #[] #[.pointer (some ⟨S, 0, none⟩), .pointer (some ⟨S + 1, 0, none⟩)], plV x.1, .int .i32 x.2, undef, undef, undef, undef, undef, undef, undef, undef, undef, undef, undef, undef, undef, undef, undef, undef, undef, undef, undef, undef, undef, undef, undef, undef, undef, undef, undef, undef], defers := [] })
    ?hAx ?assign ?body ?done ?stop
  case hI =>
    rintro s W W' ⟨k, hp, hs⟩ hb
    exact ⟨k, hp, hs.upto (by have := HS2.out; omega) hb⟩
  case hIx =>
    rintro j s W W' ⟨h0, z1, z2, k, hz, hs⟩ hb
    exact ⟨h0, z1, z2, k, hz, hs.upto (by have := HS2.out; omega) hb⟩
  case hAx =>
    rintro pre x a' W W' ⟨Bx, k, hx, hu, hp, hs, rfl⟩ hb hk
    exact ⟨Bx, k, hx, hu.keep (hk _ _ _ _ hu), hp, hs.keepC ⟨_, _, _, rfl⟩ (hs.blw.trans (hb.below hs.blw.size (fun k hk e => by have := HB2.out.size; omega))) hk, rfl⟩
  case assign =>
    rintro lb pre x W K hlt ⟨k, hp, hs⟩ hpre hK
    obtain ⟨⟨x1, x2⟩, r⟩ := x
    unfold plV at hK ⊢
    simp only at hK ⊢
    gi_wp2
    have hx := heap_alloc_new W (.cells #[.int .i64 (x1 : Nat), .int .i64 (x2 : Nat)] 24)
    refine hK _ _ ?_ ⟨W.heap.size, k, by omega, hx, hp, hs.below (bal _ _), rfl⟩
    exact (But.refl _ _ W).alloc (Nat.le_refl _) _
  case body =>
    rintro lb pre x a' W hlt ⟨Bx, k, hx, hu, hp, hs, rfl⟩ hpre
    obtain ⟨⟨z1, z2⟩, r⟩ := x
    obtain ⟨rest, hr1, hr2, hr3⟩ := hp.out.step hpre
    obtain ⟨u0, u1, -, -⟩ := row2 hu
    simp only at u0 u1
    obtain ⟨⟨x0, x1, x2, x3⟩, ⟨y0, y1⟩, ⟨r0, r1, rf0, rf1⟩, ⟨s0, sf0⟩, ⟨t0, tf0⟩⟩ := hs.cells
    have hlen : pre.length ≤ 262144 := by
      have h1 := congrArg List.length hr1
      rw [List.length_append, List.length_append, List.length_singleton] at h1
      have := HR0.out
      omega
    have hk9 : (k : Int) ≤ 262144 := by omega
    have HR1 := Lib.hid hr1
    have HS := Lib.hid hs
    have HU := Lib.hid hu
    have HK3 := Lib.hid hr3
    have hk9' : (k : Int) + 1 ≤ 9223372036854775807 := by omega
    clear hpre hp hr1 hs hu hr3 hlen
    have n1 : ¬ B3 = B4 := by omega
    have n2 : ¬ B4 = B3 := by omega
    by_cases h1 : r = own
    · rw [if_pos h1] at hr2
      have e1 : (r == own) = true := by simp [h1]
      subst h1
      by_cases h2 : k = 0
      · rw [if_pos h2] at hr2
        have e2 : ((k : Int) == 0) = true := by simp; omega
        have HQ := Lib.hid hr2.symm
        clear hr2 h2
        unfold plV
        gi_wp2_with fail
        refine ⟨?_, rfl, z1, z2, HQ.out, k, HS.out.setR _ _ _⟩
        exact (((But.refl _ _ W).setE B3 0 (.inl rfl) _).setE B3 1 (.inl rfl) _).setE B4 0 (.inr (.inl rfl)) _
      · rw [if_neg h2] at hr2
        have e2 : ((k : Int) == 0) = false := by simp; omega
        obtain ⟨k1, hk1⟩ : ∃ k1, k - 1 = k1 := ⟨_, rfl⟩
        rw [hk1] at hr2
        have e3 : (k : Int) - 1 = (k1 : Int) := by omega
        have HP : Hid (LnP r oth (l, q) R0 res (pre ++ [((z1, z2), r)]) k1) := ⟨rest, HR1.out, hr2, by have := HK3.out; rw [List.length_append]; omega⟩
        clear hr2 h2 hk1
        unfold plV
        gi_wp2_with fail
        exact ⟨(But.refl _ _ W).setE B5 0 (.inr (.inr rfl)) _, k1, HP, HS.out.setK _⟩
    · rw [if_neg h1] at hr2
      have e1 : (r == own) = false := by simp [h1]
      clear h1
      by_cases h2 : r = oth
      · have e2 : (r == oth) = true := by simp [h2]
        subst h2
        by_cases h3 : (z1, z2) = (l, q)
        · rw [if_neg (fun h => h.2 h3)] at hr2
          cases h3
          have HP : Hid (LnP own r (l, q) R0 res (pre ++ [((l, q), r)]) k) := ⟨rest, HR1.out, hr2, by have := HK3.out; rw [List.length_append]; omega⟩
          clear hr2
          unfold plV
          gi_wp2_with fail
          exact ⟨But.refl _ _ W, k, HP, HS.out⟩
        · rw [if_pos ⟨rfl, h3⟩] at hr2
          obtain ⟨k1, hk1⟩ : ∃ k1, k + 1 = k1 := ⟨_, rfl⟩
          rw [hk1] at hr2
          have e3 : (k : Int) + 1 = (k1 : Int) := by omega
          have HP : Hid (LnP own r (l, q) R0 res (pre ++ [((z1, z2), r)]) k1) := ⟨rest, HR1.out, hr2, by have := HK3.out; rw [List.length_append, List.length_singleton]; omega⟩
          clear hr2 hk1
          unfold plV
          by_cases h4 : z1 = l
          · subst h4
            have h5 : ¬ (z2 : Int) = (q : Int) := fun h => h3 (by rw [show z2 = q by omega])
            clear h3
            gi_wp2_with fail
            exact ⟨(But.refl _ _ W).setE B5 0 (.inr (.inr rfl)) _, k1, HP, HS.out.setK _⟩
          · have h5 : ¬ (z1 : Int) = (l : Int) := by omega
            clear h3 h4
            gi_wp2_with fail
            exact ⟨(But.refl _ _ W).setE B5 0 (.inr (.inr rfl)) _, k1, HP, HS.out.setK _⟩
      · rw [if_neg (fun h => h2 h.1)] at hr2
        have e2 : (r == oth) = false := by simp [h2]
        have HP : Hid (LnP own oth (l, q) R0 res (pre ++ [((z1, z2), r)]) k) := ⟨rest, HR1.out, hr2, by have := HK3.out; rw [List.length_append]; omega⟩
        clear hr2 h2
        unfold plV
        gi_wp2_with fail
        exact ⟨But.refl _ _ W, k, HP, HS.out⟩
  case done =>
    rintro W ⟨k, hp, hs⟩ hK
    have HRN : Hid (res = none) := by
      obtain ⟨rest, h1, h2, -⟩ := hp.out
      have : rest = [] := by
        have h3 := congrArg List.length h1
        rw [List.length_append] at h3
        exact List.eq_nil_of_length_eq_zero (by omega)
      rw [this] at h2
      exact h2.symm
    obtain ⟨⟨x0, x1, x2, x3⟩, ⟨y0, y1⟩, ⟨r0, r1, rf0, rf1⟩, ⟨s0, sf0⟩, ⟨t0, tf0⟩⟩ := hs.cells
    have n1 : ¬ B3 = B4 := by omega
    have n2 : ¬ B4 = B3 := by omega
    have hs3 := hs.setR (.int .i64 0) (.int .i64 0) false
    have hq3 : ¬ w2.heap.size = B3 := by have := HS2.out; omega
    have hq4 : ¬ w2.heap.size = B4 := by have := HS2.out; omega
    have HD := Lib.hid hK
    have HQ3 := Lib.hid hq3
    have HQ4 := Lib.hid hq4
    clear hp hs hK hq3 hq4
    gi_wp2_with fail
    obtain ⟨W3, hW3⟩ : ∃ W3, ((W.setCell ⟨B3, 0, none⟩ (.int .i64 0)).setCell ⟨B3, 1, none⟩ (.int .i64 0)).setCell ⟨B4, 0, none⟩ (.bool false) = W3 := ⟨_, rfl⟩
    have hD3 : W3.heap[w2.heap.size]? = some (.deferred (some [])) := by
      rw [← hW3]
      exact ((Below.heap_setCell _ _ _ _ HQ4.out).trans ((Below.heap_setCell _ _ _ _ HQ3.out).trans (Below.heap_setCell _ _ _ _ HQ3.out))).trans HD.out
    rw [hW3] at hs3
    rw [hW3]
    refine ⟨by simp, .inl ⟨_, _, rfl, run_takeDeferred hD3, ?_⟩⟩
    have k3 : (W3.putObj w2.heap.size (.deferred none)).heap[B3]? = _ := (World.putObj_heap_other (fun e => HQ3.out e.symm)).trans hs3.a3
    have k4 : (W3.putObj w2.heap.size (.deferred none)).heap[B4]? = _ := (World.putObj_heap_other (fun e => HQ4.out e.symm)).trans hs3.a4
    obtain ⟨l1, l2, -, -⟩ := row2v2 k3
    obtain ⟨l3, -⟩ := row1 k4
    refine ⟨.tuple #[.agg #[.int .i64 0, .int .i64 0], .bool false], ?_, by rw [HRN.out]; rfl, hs3.blw.grown (grownBy_putObj' W3 _ _) hs3.blw.size (fun k e => by cases e; exact HB2.out.size)⟩
    rw [results_cc rfl]
    clear k3 k4
    generalize W3.putObj w2.heap.size (.deferred none) = W4 at l1 l2 l3 ⊢
    go_simp
  case stop =>
    rintro j pre W hpre ⟨rfl, z1, z2, k, hz, hs⟩ hK
    have hq3 : ¬ w2.heap.size = B3 := by have := HS2.out; omega
    have hq4 : ¬ w2.heap.size = B4 := by have := HS2.out; omega
    gi_wp2
    refine ⟨by simp, .inl ⟨_, _, rfl, run_takeDeferred hK, ?_⟩⟩
    have k3 : (W.putObj w2.heap.size (.deferred none)).heap[B3]? = _ := (World.putObj_heap_other (fun e => hq3 e.symm)).trans hs.a3
    have k4 : (W.putObj w2.heap.size (.deferred none)).heap[B4]? = _ := (World.putObj_heap_other (fun e => hq4 e.symm)).trans hs.a4
    obtain ⟨l1, l2, -, -⟩ := row2v2 k3
    obtain ⟨l3, -⟩ := row1 k4
    refine ⟨.tuple #[.agg #[.int .i64 (z1 : Nat), .int .i64 (z2 : Nat)], .bool true], ?_, by rw [hz.out]; rfl, hs.blw.grown (grownBy_putObj' W _ _) hs.blw.size (fun k e => by cases e; exact HB2.out.size)⟩
    rw [results_cc rfl]
    clear k3 k4
    generalize W.putObj w2.heap.size (.deferred none) = W4 at l1 l2 l3 ⊢
    go_simp
end
end Go.Proofs.YthlhgkeodaifcaaDoor.U
