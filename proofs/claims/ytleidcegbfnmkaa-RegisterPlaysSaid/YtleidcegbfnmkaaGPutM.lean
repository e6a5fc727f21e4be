/-
  The document's Put: what is carried through it.
-/
import Derived.Test.YtleidcegbfnmkaaGGet
namespace Go.Proofs.Ytleidcegbfnmkaa.U
open Go.RowKit
set_option linter.unusedVariables false
set_option linter.unusedSimpArgs false
set_option maxRecDepth 100000

/-- a box at b6 that holds a register's text -/
structure BoxS (W : World) (b6 : Nat) (k : Int) (a : Option Addr) (n c : Nat) : Prop where
  c0 : W.cell? ⟨b6, 0, none⟩ = some (.int .i64 k)
  c1 : W.cell? ⟨b6, 1, none⟩ = some (.slice a n c)
  z0 : W.frozen? ⟨b6, 0, none⟩ = false
  z1 : W.frozen? ⟨b6, 1, none⟩ = false
  l : b6 < W.heap.size
theorem BoxS.of {W : World} {b6 : Nat} {k : Int} {a : Option Addr} {n c : Nat} (h : W.heap[b6]? = some (.cells #[.int .i64 k, .slice a n c] 31 (0, 0))) : BoxS W b6 k a n c := ⟨cell_row h 0, cell_row h 1, frozen_row h 0, frozen_row h 1, heap_lt h⟩
theorem BoxS.fr {W W' : World} {b6 : Nat} {k : Int} {a : Option Addr} {n c : Nat} {F : Nat → Prop} (h : BoxS W b6 k a n c) (hf : Fr F W W') (hn : ¬ F b6) : BoxS W' b6 k a n c := by
  have hb := hf.block b6 h.l hn
  exact ⟨(World.cell?_of_block (a := ⟨b6, 0, none⟩) hb).trans h.c0, (World.cell?_of_block (a := ⟨b6, 1, none⟩) hb).trans h.c1, (by have := h.z0; simp only [World.frozen?] at this ⊢; rw [hb]; exact this), (by have := h.z1; simp only [World.frozen?] at this ⊢; rw [hb]; exact this), Nat.lt_of_lt_of_le h.l hf.size⟩
theorem BoxS.below {W W' : World} {b6 : Nat} {k : Int} {a : Option Addr} {n c : Nat} (h : BoxS W b6 k a n c) (hb : Below W.heap.size W W') : BoxS W' b6 k a n c := h.fr (Fr.of_below (fun _ => False) hb) (fun h => h)
/-- in the midst of Put: the registers hold s, the box at b6 holds r -/
structure PutS (P : Nat → Prop) (w W : World) (bx b6 : Nat) (s : List Nm) (r : Rg) (a : Option Addr) (n c : Nat) : Prop where
  af : AfS P w W bx s
  ok : OkS s
  box : BoxS W b6 r.k a n c
  ne : b6 ≠ bx
  rd : RdL (fun k => k ≠ bx ∧ k ≠ b6) W a n c r.L
section
variable {P : Nat → Prop} {w W W' : World} {bx b6 : Nat} {s : List Nm} {r : Rg} {a : Option Addr} {n c : Nat}
theorem AfS.comp {P' : Nat → Prop} {s2 : List Nm} (h2 : Fr (fun k => k = bx) w W) (h3 : ∀ k, P' k → P k ∨ w.heap.size ≤ k) (h : AfS P' W W' bx s2) : AfS P w W' bx s2 := by
  obtain ⟨P2, k1, k2, k3⟩ := h
  refine ⟨P2, k1, h2.trans k2 (fun _ _ h => h), fun k hk => ?_⟩
  rcases k3 k hk with e | e
  · exact h3 k e
  · exact .inr (Nat.le_trans h2.size e)
theorem AfS.below {w2 : World} (h : AfS P w W bx s) (hb : Below W.heap.size W w2) : AfS P w w2 bx s := by
  obtain ⟨P', h1, h2, h3⟩ := h
  exact AfS.comp h2 h3 (h1.same hb)
theorem PutS.pre (h : RSt P w bx s) (hok : OkS s) (hb : Below w.heap.size w W) (hx : BoxS W b6 r.k a n c) (hle : w.heap.size ≤ b6) (hr : RdL (fun k => w.heap.size ≤ k ∧ k ≠ b6) W a n c r.L) : PutS P w W bx b6 s r a n c :=
  ⟨h.same hb, hok, hx, by have := h.lt bx h.box; omega, hr.mono (fun k hk => ⟨by have := h.lt bx h.box; omega, hk.2⟩)⟩
theorem PutS.fr {s' : List Nm} (h : PutS P w W bx b6 s r a n c) (haf : AfS P w W' bx s') (hok : OkS s') (hf : Fr (fun k => k = bx) W W') : PutS P w W' bx b6 s' r a n c :=
  ⟨haf, hok, h.box.fr hf h.ne, h.ne, h.rd.frF hf (fun k hk e => hk.1 e)⟩
theorem PutS.below (h : PutS P w W bx b6 s r a n c) (hb : Below W.heap.size W W') : PutS P w W' bx b6 s r a n c := h.fr (h.af.below hb) h.ok (Fr.of_below _ hb)
/-- a register holds something now -/
theorem PutS.set {F : Nat → Prop} {g : Rg} {ga : Option Addr} {gn gc : Nat} (h : PutS P w W bx b6 s r a n c) (m : Int) (hm : 34 ≤ m ∧ m ≤ 122) (hg : g.ok) (hr : RdL F W ga gn gc g.L) :
    Calls Try.prog 38 #[.pointer (some ⟨bx, 0, none⟩), .int .i32 m, rgV g.k ga gn gc] W fun e w' => e = .returned (.tuple #[]) ∧ PutS P w w' bx b6 (setR s m g) r a n c := by
  obtain ⟨P', h1, h2, h3⟩ := h.af
  refine (rset_any F m g.k ga gn gc g.L W h1 h.ok hr (by have := hg.2.2.2; omega)).mono ?_
  rintro e w' ⟨rfl, haf⟩
  have hfr : Fr (fun k => k = bx) W w' := by obtain ⟨_, _, q, _⟩ := haf; exact q
  exact ⟨rfl, h.fr (AfS.comp h2 h3 haf) (h.ok.set hm.1 hm.2 hg) hfr⟩
theorem PutS.holds (h : PutS P w W bx b6 s r a n c) (m : Int) :
    Calls Try.prog 26 #[.pointer (some ⟨bx, 0, none⟩), .int .i32 m] W fun e w' => HoldA (fun k => k ≠ bx) w' (holdsR s m) e ∧ Below W.heap.size W w' := by
  obtain ⟨P', h1, h2, h3⟩ := h.af
  refine (rholds_any m W h1 h.ok).mono ?_
  rintro e w' ⟨ha, hb⟩
  refine ⟨?_, hb⟩
  cases ho : holdsR s m with
  | none => rw [ho] at ha; exact ha
  | some g =>
    rw [ho] at ha
    obtain ⟨ga, gc, e1, e2⟩ := ha
    exact ⟨ga, gc, e1, e2.mono (fun k hk => hk.2)⟩
/-- both last deeds of Put: the register and the unnamed one -/
theorem PutS.fin (h : PutS P w W bx b6 s r a n c) (m : Int) (hm : 34 ≤ m ∧ m ≤ 122) (hg : r.ok) :
    Calls Try.prog 38 #[.pointer (some ⟨bx, 0, none⟩), .int .i32 m, .agg #[.int .i64 r.k, .slice a n c]] W fun e w2 => e = .returned (.tuple #[]) ∧ BoxS w2 b6 r.k a n c ∧
      Hid (Calls Try.prog 38 #[.pointer (some ⟨bx, 0, none⟩), .int .i32 34, .agg #[.int .i64 r.k, .slice a n c]] w2 fun e w3 => e = .returned (.tuple #[]) ∧ Hid (AfS P w w3 bx (finR s m r))) := by
  refine (h.set m hm hg h.rd).mono ?_
  rintro e w2 ⟨rfl, h2⟩
  refine ⟨rfl, h2.box, ?_⟩
  refine (h2.set 34 (by omega) hg h2.rd).mono ?_
  rintro e w3 ⟨rfl, h3⟩
  exact ⟨rfl, h3.af⟩
end
end Go.Proofs.Ytleidcegbfnmkaa.U
