/-
  The document's Put. MADE by wip/tools/gen_rput12.py.
-/
import Derived.Test.YtleidcegbfnmkaaGPutM
namespace Go.Proofs.Ytleidcegbfnmkaa.U
open Go.RowKit
set_option linter.unusedVariables false
set_option linter.unusedSimpArgs false
set_option maxRecDepth 100000

theorem norm_k (k : Int) (L : List (List Int)) : (normR ⟨k, L⟩).k = k := by unfold normR; split <;> rfl
/-- what Put leaves -/
def PutA (P : Nat → Prop) (bx : Nat) (s : List Nm) (r : Int) (g : Rg) (d : Bool) (w : World) (e : Ending) (w' : World) : Prop := e = .returned (.int .i64 (putR s r g d).2) ∧ AfS P w w' bx (putR s r g d).1
/-- the copy of what is put lies in the box -/
theorem put_box {w wb w1 : World} {k : Int} {a a1 : Option Addr} {n c c1 : Nat} {L : List (List Int)} {P : Nat → Prop} {bx : Nat} {s : List Nm} (h : RSt P w bx s) (hok : OkS s) (hwb : w.alloc (.cells #[.int .i64 k, .slice a n c] 31) = wb) (hf : FreshL wb.heap.size w1 a1 n c1 L) (hb : Below wb.heap.size wb w1) (hw : ∀ x ∈ L, ∀ y ∈ x, (Lit.int .i32 y).wf = true) :
    BoxS ((w1.setCell ⟨w.heap.size, 0, none⟩ (.int .i64 k)).setCell ⟨w.heap.size, 1, none⟩ (.slice a1 n c1)) w.heap.size k a1 n c1 ∧
    Hid (¬ n = 0 → Hid (PutS P w ((w1.setCell ⟨w.heap.size, 0, none⟩ (.int .i64 k)).setCell ⟨w.heap.size, 1, none⟩ (.slice a1 n c1)) bx w.heap.size s (normR ⟨k, L⟩) a1 n c1 ∧ Below w.heap.size w ((w1.setCell ⟨w.heap.size, 0, none⟩ (.int .i64 k)).setCell ⟨w.heap.size, 1, none⟩ (.slice a1 n c1)))) ∧
    Hid (n = 0 → BoxS ((((w1.setCell ⟨w.heap.size, 0, none⟩ (.int .i64 k)).setCell ⟨w.heap.size, 1, none⟩ (.slice a1 n c1)).setCell ⟨w.heap.size, 1, none⟩ (.slice (some ⟨((w1.setCell ⟨w.heap.size, 0, none⟩ (.int .i64 k)).setCell ⟨w.heap.size, 1, none⟩ (.slice a1 n c1)).heap.size, 0, none⟩) 1 1)).alloc (.cells #[.slice none 0 0] 39)) w.heap.size k (some ⟨((w1.setCell ⟨w.heap.size, 0, none⟩ (.int .i64 k)).setCell ⟨w.heap.size, 1, none⟩ (.slice a1 n c1)).heap.size, 0, none⟩) 1 1 ∧ Hid (PutS P w ((((w1.setCell ⟨w.heap.size, 0, none⟩ (.int .i64 k)).setCell ⟨w.heap.size, 1, none⟩ (.slice a1 n c1)).setCell ⟨w.heap.size, 1, none⟩ (.slice (some ⟨((w1.setCell ⟨w.heap.size, 0, none⟩ (.int .i64 k)).setCell ⟨w.heap.size, 1, none⟩ (.slice a1 n c1)).heap.size, 0, none⟩) 1 1)).alloc (.cells #[.slice none 0 0] 39)) bx w.heap.size s (normR ⟨k, L⟩) (some ⟨((w1.setCell ⟨w.heap.size, 0, none⟩ (.int .i64 k)).setCell ⟨w.heap.size, 1, none⟩ (.slice a1 n c1)).heap.size, 0, none⟩) 1 1 ∧ Below w.heap.size w ((((w1.setCell ⟨w.heap.size, 0, none⟩ (.int .i64 k)).setCell ⟨w.heap.size, 1, none⟩ (.slice a1 n c1)).setCell ⟨w.heap.size, 1, none⟩ (.slice (some ⟨((w1.setCell ⟨w.heap.size, 0, none⟩ (.int .i64 k)).setCell ⟨w.heap.size, 1, none⟩ (.slice a1 n c1)).heap.size, 0, none⟩) 1 1)).alloc (.cells #[.slice none 0 0] 39)))) := by
  have hsz : wb.heap.size = w.heap.size + 1 := by rw [← hwb]; simp
  have hB : Below w.heap.size w wb := by rw [← hwb]; exact (Below.refl _ w).alloc (Nat.le_refl _) _
  have g0 : wb.heap[w.heap.size]? = some (.cells #[.int .i64 k, .slice a n c] 31 (0, 0)) := by rw [← hwb]; exact heap_alloc_new w _
  have g1 := (hb.block w.heap.size (by omega)).trans g0
  have g2 := heap_set g1 0 (.int .i64 k)
  have g3 := heap_set g2 1 (.slice a1 n c1)
  obtain ⟨ws, hws⟩ : ∃ ws, (w1.setCell ⟨w.heap.size, 0, none⟩ (.int .i64 k)).setCell ⟨w.heap.size, 1, none⟩ (.slice a1 n c1) = ws := ⟨_, rfl⟩
  have hs1 : ws.heap.size = w1.heap.size := by rw [← hws]; simp
  have hf1 : Fr (fun k => k = w.heap.size) w1 ws := by rw [← hws]; exact ((Fr.refl (fun k => k = w.heap.size) w1).setCell ⟨w.heap.size, 0, none⟩ _ (fun _ => rfl)).setCell ⟨w.heap.size, 1, none⟩ _ (fun _ => rfl)
  have hbw : Below w.heap.size w ws := by rw [← hws]; exact ((hB.trans (hb.mono (by omega))).setCell (Nat.le_refl _) _).setCell (Nat.le_refl _) _
  have hx : BoxS ws w.heap.size k a1 n c1 := by rw [← hws]; exact BoxS.of (by rw [g3]; rfl)
  have hl := hf.len
  have hrd : RdL (fun k => w.heap.size ≤ k ∧ k ≠ w.heap.size) ws a1 n c1 L := ((hf.fr hf1 (fun k h1 h2 => by omega)).rdl hw).mono (fun k hk => ⟨by omega, by omega⟩)
  rw [hws]
  refine ⟨hx, fun hn => ?_, fun hn => ?_⟩
  · have hno : normR ⟨k, L⟩ = ⟨k, L⟩ := by
      unfold normR
      rw [if_neg (by rintro rfl; simp at hl; omega)]
    rw [hno]
    exact ⟨PutS.pre (r := ⟨k, L⟩) h hok hbw hx (Nat.le_refl _) hrd, hbw⟩
  · have hno : normR ⟨k, L⟩ = ⟨k, [[]]⟩ := by
      have : L = [] := List.eq_nil_of_length_eq_zero (by omega)
      unfold normR
      rw [if_pos this]
    rw [hno]
    obtain ⟨wz, hwz⟩ : ∃ wz, ws.setCell ⟨w.heap.size, 1, none⟩ (.slice (some ⟨ws.heap.size, 0, none⟩) 1 1) = wz := ⟨_, rfl⟩
    have g4 : ws.heap[w.heap.size]? = some (.cells #[.int .i64 k, .slice a1 n c1] 31 (0, 0)) := by
      rw [← hws, g3]
      rfl
    have g5 := heap_set g4 1 (.slice (some ⟨ws.heap.size, 0, none⟩) 1 1)
    rw [hwz] at g5 ⊢
    have hzs : wz.heap.size = ws.heap.size := by rw [← hwz]; simp
    have hls : w.heap.size < ws.heap.size := by have := hb.size; omega
    have hbz : Below w.heap.size w wz := by rw [← hwz]; exact hbw.setCell (Nat.le_refl _) _
    have hx2 : BoxS (wz.alloc (.cells #[.slice none 0 0] 39)) w.heap.size k (some ⟨ws.heap.size, 0, none⟩) 1 1 := BoxS.of (by rw [Below.heap_alloc _ _ _ (by omega), g5]; rfl)
    have hb2 : Below w.heap.size w (wz.alloc (.cells #[.slice none 0 0] 39)) := hbz.alloc (by omega) _
    have ho := one_rdl0 wz
    rw [hzs] at ho
    exact ⟨hx2, PutS.pre (r := ⟨k, [[]]⟩) h hok hb2 hx2 (Nat.le_refl _) (ho.mono (fun k hk => ⟨by omega, by omega⟩)), hb2⟩
theorem BoxS.store {W : World} {b6 : Nat} {k : Int} {a : Option Addr} {n c : Nat} (h : BoxS W b6 k a n c) (k' : Int) (a' : Option Addr) (n' c' : Nat) : BoxS ((W.setCell ⟨b6, 0, none⟩ (.int .i64 k')).setCell ⟨b6, 1, none⟩ (.slice a' n' c')) b6 k' a' n' c' := by
  have h1 : (W.setCell ⟨b6, 0, none⟩ (.int .i64 k')).cell? ⟨b6, 1, none⟩ = some (.slice a n c) := (World.cell?_setCell_other _ _ _ _ (by simp)).trans h.c1
  exact ⟨(World.cell?_setCell_other _ _ _ _ (by simp)).trans (World.cell?_setCell_same _ _ _ h.c0), World.cell?_setCell_same _ _ _ h1, by simpa using h.z0, by simpa using h.z1, by simpa using h.l⟩
/-- a capital letter, where nothing is held -/
theorem grow_none {P : Nat → Prop} {w W : World} {bx b6 : Nat} {s : List Nm} {r : Rg} {a : Option Addr} {n c : Nat} {m : Int} (h : PutS P w W bx b6 s r a n c) (hr : r.ok) (hm : 34 ≤ m ∧ m ≤ 122) (ho : holdsR s m = none) :
    Calls Try.prog 26 #[.pointer (some ⟨bx, 0, none⟩), .int .i32 m] W fun e w' => e = .returned (.tuple #[.agg #[.int .i64 0, .slice none 0 0], .bool false]) ∧ BoxS w' b6 r.k a n c ∧ Hid (∀ o, Calls Try.prog 36 #[.slice a n c] (w'.alloc o) fun e wq => e = .returned (.int .i64 (sizeR r.L : Nat)) ∧ wq = w'.alloc o) ∧
      Hid (∀ o, Calls Try.prog 38 #[.pointer (some ⟨bx, 0, none⟩), .int .i32 m, .agg #[.int .i64 r.k, .slice a n c]] (w'.alloc o) fun e w2 => e = .returned (.tuple #[]) ∧ BoxS w2 b6 r.k a n c ∧
        Hid (Calls Try.prog 38 #[.pointer (some ⟨bx, 0, none⟩), .int .i32 34, .agg #[.int .i64 r.k, .slice a n c]] w2 fun e w3 => e = .returned (.tuple #[]) ∧ Hid (AfS P w w3 bx (finR s m r)))) := by
  refine (h.holds m).mono ?_
  rintro e w' ⟨h1, hb⟩
  rw [ho] at h1
  have h2 : ∀ o, PutS P w (w'.alloc o) bx b6 s r a n c := fun o => h.below (hb.trans (((Below.refl _ w').alloc (Nat.le_refl _) o).mono hb.size))
  exact ⟨h1, (h.below hb).box, fun o => rsz_any _ a n c r.L _ (h2 o).rd (by have := hr.2.2.2; omega), fun o => (h2 o).fin m hm hr⟩
/-- .. where something is held -/
theorem grow_some {P : Nat → Prop} {w W : World} {bx b6 : Nat} {s : List Nm} {r g : Rg} {a : Option Addr} {n c : Nat} {m : Int} (h0 : RSt P w bx s) (h : PutS P w W bx b6 s r a n c) (hbw : Below w.heap.size w W) (hle : w.heap.size = b6) (hr : r.ok) (hm : 34 ≤ m ∧ m ≤ 122) (ho : holdsR s m = some g) :
    Calls Try.prog 26 #[.pointer (some ⟨bx, 0, none⟩), .int .i32 m] W fun e w' => ∃ ga gn gc, e = .returned (.tuple #[.agg #[.int .i64 g.k, .slice ga gn gc], .bool true]) ∧ BoxS w' b6 r.k a n c ∧
      Hid (∀ o, Calls Try.prog 37 #[.agg #[.int .i64 g.k, .slice ga gn gc], .agg #[.int .i64 r.k, .slice a n c]] (w'.alloc o) fun e w3 => ∃ ja jn jc, e = .returned (.agg #[.int .i64 (joinR g r).k, .slice ja jn jc]) ∧ BoxS w3 b6 r.k a n c ∧ BoxS ((w3.setCell ⟨b6, 0, none⟩ (.int .i64 (joinR g r).k)).setCell ⟨b6, 1, none⟩ (.slice ja jn jc)) b6 (joinR g r).k ja jn jc ∧
        Hid (Calls Try.prog 36 #[.slice ja jn jc] ((w3.setCell ⟨b6, 0, none⟩ (.int .i64 (joinR g r).k)).setCell ⟨b6, 1, none⟩ (.slice ja jn jc)) fun e wq => e = .returned (.int .i64 (sizeR (joinR g r).L : Nat)) ∧ wq = ((w3.setCell ⟨b6, 0, none⟩ (.int .i64 (joinR g r).k)).setCell ⟨b6, 1, none⟩ (.slice ja jn jc))) ∧
        Hid (AfS P w ((w3.setCell ⟨b6, 0, none⟩ (.int .i64 (joinR g r).k)).setCell ⟨b6, 1, none⟩ (.slice ja jn jc)) bx s) ∧
        Hid ((joinR g r).ok → Calls Try.prog 38 #[.pointer (some ⟨bx, 0, none⟩), .int .i32 m, .agg #[.int .i64 (joinR g r).k, .slice ja jn jc]] ((w3.setCell ⟨b6, 0, none⟩ (.int .i64 (joinR g r).k)).setCell ⟨b6, 1, none⟩ (.slice ja jn jc)) fun e w2 => e = .returned (.tuple #[]) ∧ BoxS w2 b6 (joinR g r).k ja jn jc ∧
          Hid (Calls Try.prog 38 #[.pointer (some ⟨bx, 0, none⟩), .int .i32 34, .agg #[.int .i64 (joinR g r).k, .slice ja jn jc]] w2 fun e w4 => e = .returned (.tuple #[]) ∧ Hid (AfS P w w4 bx (finR s m (joinR g r)))))) := by
  have hg := h.ok.holds ho
  refine (h.holds m).mono ?_
  rintro e w' ⟨h1, hb⟩
  rw [ho] at h1
  obtain ⟨ga, gc, rfl, hrd⟩ := h1
  refine ⟨ga, g.L.length, gc, rfl, (h.below hb).box, fun o => ?_⟩
  have hbo : Below w'.heap.size w' (w'.alloc o) := (Below.refl _ w').alloc (Nat.le_refl _) o
  have h2 : PutS P w (w'.alloc o) bx b6 s r a n c := h.below (hb.trans (hbo.mono hb.size))
  have hbw2 : Below w.heap.size w (w'.alloc o) := hbw.trans ((hb.trans (hbo.mono hb.size)).mono hbw.size)
  have hl6 := h2.box.l
  refine (rjoin_any _ _ g r ga a g.L.length n gc c (w'.alloc o) (hrd.below hbo) h2.rd hg hr).mono ?_
  rintro e w3 ⟨ja, jc, rfl, hj, hb3⟩
  have hx3 := h2.box.below hb3
  have hne := h.ne
  have hJ := join_size hg.2.2.1 hr.2.2.1
  have hsz : sizeR (joinR g r).L ≤ 131072 := by have := hg.2.2.2; have := hr.2.2.2; omega
  have hbw3 : Below w.heap.size w w3 := hbw2.trans (hb3.mono hbw2.size)
  obtain ⟨W3, hW3⟩ : ∃ W3, (w3.setCell ⟨b6, 0, none⟩ (.int .i64 (joinR g r).k)).setCell ⟨b6, 1, none⟩ (.slice ja (joinR g r).L.length jc) = W3 := ⟨_, rfl⟩
  have hbW : Below w.heap.size w W3 := by rw [← hW3]; exact (hbw3.setCell (by simp only; omega) _).setCell (by simp only; omega) _
  have hfW : Fr (fun k => k = b6) w3 W3 := by rw [← hW3]; exact ((Fr.refl (fun k => k = b6) w3).setCell ⟨b6, 0, none⟩ _ (fun _ => rfl)).setCell ⟨b6, 1, none⟩ _ (fun _ => rfl)
  have hxW : BoxS W3 b6 (joinR g r).k ja (joinR g r).L.length jc := by rw [← hW3]; exact hx3.store _ _ _ _
  have hrW : RdL (fun k => w.heap.size ≤ k ∧ k ≠ b6) W3 ja (joinR g r).L.length jc (joinR g r).L := (hj.frF hfW (fun k h1 h2 => by omega)).mono (fun k hk => ⟨by omega, by omega⟩)
  refine ⟨ja, (joinR g r).L.length, jc, rfl, hx3, ?_⟩
  rw [hW3]
  have hP : PutS P w W3 bx b6 s (joinR g r) ja (joinR g r).L.length jc := PutS.pre h0 h.ok hbW hxW (by omega) hrW
  exact ⟨hxW, rsz_any _ ja _ jc (joinR g r).L W3 hrW (by omega), hP.af, fun hok => hP.fin m hm hok⟩
/-- one step of the shift, where nothing is held -/
theorem shift_none {P : Nat → Prop} {w W : World} {bx b6 : Nat} {s : List Nm} {r : Rg} {a : Option Addr} {n c j : Nat} {m : Int} (h : PutS P w W bx b6 (shiftR j s) r a n c) (hm : 57 - (j : Int) = m) (ho : holdsR (shiftR j s) (m - 1) = none) :
    Calls Try.prog 26 #[.pointer (some ⟨bx, 0, none⟩), .int .i32 (m - 1)] W fun e w' => e = .returned (.tuple #[.agg #[.int .i64 0, .slice none 0 0], .bool false]) ∧ Hid (∀ o, BoxS (w'.alloc o) b6 r.k a n c ∧ Hid (PutS P w (w'.alloc o) bx b6 (shiftR (j + 1) s) r a n c)) := by
  refine (h.holds (m - 1)).mono ?_
  rintro e w' ⟨h1, hb⟩
  rw [ho] at h1
  have hs : shiftR (j + 1) s = shiftR j s := by
    show stepS (shiftR j s) (57 - (j : Int)) = _
    rw [hm]
    unfold stepS
    rw [ho]
  refine ⟨h1, fun o => ?_⟩
  have h2 := h.below (hb.trans ((Below.refl _ w').alloc (Nat.le_refl _) o |>.mono hb.size))
  rw [hs]
  exact ⟨h2.box, h2⟩
/-- .. where something is held -/
theorem shift_some {P : Nat → Prop} {w W : World} {bx b6 : Nat} {s : List Nm} {r : Rg} {a : Option Addr} {n c j : Nat} {m : Int} {g : Rg} (h : PutS P w W bx b6 (shiftR j s) r a n c) (hm : 57 - (j : Int) = m) (hj : j < 8) (ho : holdsR (shiftR j s) (m - 1) = some g) :
    Calls Try.prog 26 #[.pointer (some ⟨bx, 0, none⟩), .int .i32 (m - 1)] W fun e w' => ∃ ga gn gc, e = .returned (.tuple #[.agg #[.int .i64 g.k, .slice ga gn gc], .bool true]) ∧
      Hid (∀ o, Calls Try.prog 38 #[.pointer (some ⟨bx, 0, none⟩), .int .i32 m, .agg #[.int .i64 g.k, .slice ga gn gc]] (w'.alloc o) fun e w5 => e = .returned (.tuple #[]) ∧ BoxS w5 b6 r.k a n c ∧ Hid (PutS P w w5 bx b6 (shiftR (j + 1) s) r a n c)) := by
  refine (h.holds (m - 1)).mono ?_
  rintro e w' ⟨h1, hb⟩
  rw [ho] at h1
  obtain ⟨ga, gc, rfl, hr⟩ := h1
  have hs : shiftR (j + 1) s = setR (shiftR j s) m g := by
    show stepS (shiftR j s) (57 - (j : Int)) = _
    rw [hm]
    unfold stepS
    rw [ho]
  refine ⟨ga, g.L.length, gc, rfl, fun o => ?_⟩
  have hbo : Below w'.heap.size w' (w'.alloc o) := (Below.refl _ w').alloc (Nat.le_refl _) o
  have h2 := h.below (hb.trans (hbo.mono hb.size))
  refine (h2.set m (by omega) (h.ok.holds ho) (hr.below hbo)).mono ?_
  rintro e w5 ⟨rfl, h3⟩
  rw [hs]
  exact ⟨rfl, h3.box, h3⟩

set_option maxHeartbeats 4000000 in
theorem rputLittle_any {P : Nat → Prop} {bx : Nat} {s : List Nm} (F : Nat → Prop) (r k : Int) (a : Option Addr) (n c : Nat) (L : List (List Int)) (d : Bool) (w : World) (h : RSt P w bx s) (hok : OkS s) (hr : RdL F w a n c L) (hs : sizeR L ≤ 1048576) (k0 : 0 ≤ k) (k2 : k ≤ 2) (hz : sizeR L ≤ 65536) (hl : littleR r = true) :
    Calls Try.prog 16 #[.pointer (some ⟨bx, 0, none⟩), .int .i32 r, rgV k a n c, .bool d] w (PutA P bx s r ⟨k, L⟩ d w) := by
  show Calls _ _ #[.pointer (some ⟨bx, 0, none⟩), .int .i32 r, .agg #[.int .i64 k, .slice a n c], .bool d] w fun e w' => e = .returned (.int .i64 (putR s r ⟨k, L⟩ d).2) ∧ AfS P w w' bx (putR s r ⟨k, L⟩ d).1
  have hwf := lines_wfG hr
  obtain ⟨wb, hwb⟩ : ∃ wb, w.alloc (.cells #[.int .i64 k, .slice a n c] 31) = wb := ⟨_, rfl⟩
  have hsz : wb.heap.size = w.heap.size + 1 := by rw [← hwb]; simp
  have hB : Below w.heap.size w wb := by rw [← hwb]; exact (Below.refl _ w).alloc (Nat.le_refl _) _
  have hx : BoxS wb w.heap.size k a n c := by rw [← hwb]; exact BoxS.of (heap_alloc_new w _)
  have HSZ := Lib.hid (rsz_any F a n c L wb (hr.below hB) (by omega))
  have HT : Hid (Calls Try.prog 14 #[.agg #[.int .i64 k, .slice a n c]] wb fun e w1 => ∃ a1 c1, e = .returned (.agg #[.int .i64 k, .slice a1 n c1]) ∧ BoxS w1 w.heap.size k a n c ∧ BoxS ((w1.setCell ⟨w.heap.size, 0, none⟩ (.int .i64 k)).setCell ⟨w.heap.size, 1, none⟩ (.slice a1 n c1)) w.heap.size k a1 n c1 ∧
    Hid (¬ n = 0 → Hid (PutS P w ((w1.setCell ⟨w.heap.size, 0, none⟩ (.int .i64 k)).setCell ⟨w.heap.size, 1, none⟩ (.slice a1 n c1)) bx w.heap.size s (normR ⟨k, L⟩) a1 n c1 ∧ Below w.heap.size w ((w1.setCell ⟨w.heap.size, 0, none⟩ (.int .i64 k)).setCell ⟨w.heap.size, 1, none⟩ (.slice a1 n c1)))) ∧
    Hid (n = 0 → BoxS ((((w1.setCell ⟨w.heap.size, 0, none⟩ (.int .i64 k)).setCell ⟨w.heap.size, 1, none⟩ (.slice a1 n c1)).setCell ⟨w.heap.size, 1, none⟩ (.slice (some ⟨((w1.setCell ⟨w.heap.size, 0, none⟩ (.int .i64 k)).setCell ⟨w.heap.size, 1, none⟩ (.slice a1 n c1)).heap.size, 0, none⟩) 1 1)).alloc (.cells #[.slice none 0 0] 39)) w.heap.size k (some ⟨((w1.setCell ⟨w.heap.size, 0, none⟩ (.int .i64 k)).setCell ⟨w.heap.size, 1, none⟩ (.slice a1 n c1)).heap.size, 0, none⟩) 1 1 ∧ Hid (PutS P w ((((w1.setCell ⟨w.heap.size, 0, none⟩ (.int .i64 k)).setCell ⟨w.heap.size, 1, none⟩ (.slice a1 n c1)).setCell ⟨w.heap.size, 1, none⟩ (.slice (some ⟨((w1.setCell ⟨w.heap.size, 0, none⟩ (.int .i64 k)).setCell ⟨w.heap.size, 1, none⟩ (.slice a1 n c1)).heap.size, 0, none⟩) 1 1)).alloc (.cells #[.slice none 0 0] 39)) bx w.heap.size s (normR ⟨k, L⟩) (some ⟨((w1.setCell ⟨w.heap.size, 0, none⟩ (.int .i64 k)).setCell ⟨w.heap.size, 1, none⟩ (.slice a1 n c1)).heap.size, 0, none⟩) 1 1 ∧ Below w.heap.size w ((((w1.setCell ⟨w.heap.size, 0, none⟩ (.int .i64 k)).setCell ⟨w.heap.size, 1, none⟩ (.slice a1 n c1)).setCell ⟨w.heap.size, 1, none⟩ (.slice (some ⟨((w1.setCell ⟨w.heap.size, 0, none⟩ (.int .i64 k)).setCell ⟨w.heap.size, 1, none⟩ (.slice a1 n c1)).heap.size, 0, none⟩) 1 1)).alloc (.cells #[.slice none 0 0] 39))))) := by
    refine (rtwinR_any F k a n c L wb (hr.below hB) hs).mono ?_
    rintro e w1 ⟨a1, c1, rfl, hf, hb⟩
    exact ⟨a1, c1, rfl, hx.below (hb.mono (Nat.le_refl _)), put_box h hok hwb hf hb hwf⟩
  have HBIG : Hid (∀ c w, Calls Try.prog 24 #[.int .i32 c] w fun e w' => e = .returned (.bool (bigR c)) ∧ w' = w) := rbig_any
  have HLIT : Hid (∀ c w, Calls Try.prog 25 #[.int .i32 c] w fun e w' => e = .returned (.bool (littleR c)) ∧ w' = w) := rlittle_any
  have HB := Lib.hid (And.intro hB hsz)
  have HW := Lib.hid hwb
  have HH := Lib.hid (And.intro h hok)
  clear h hok hwb hB hr hwf hs hsz
  obtain ⟨b, hbe⟩ : ∃ b, w.heap.size = b := ⟨_, rfl⟩
  have HBE := Lib.hid hbe
  rw [hbe] at hx HT
  clear hbe
  obtain ⟨x0, x1, x2, x3, x4⟩ := hx
  have q1 : decide (k < 0) = false := by simp; omega
  have q2 : decide (2 < k) = false := by simp; omega
  have q3 : decide ((65536 : Int) < (sizeR L : Nat)) = false := by simp; omega
  have HNO := Lib.hid (norm_ok (r := ⟨k, L⟩) k0 k2 hz)
  have hl2 := hl
  unfold littleR at hl2
  simp only [Bool.and_eq_true, decide_eq_true_eq] at hl2
  have tl : littleR r = true := hl
  have hbg : bigR r = false := by unfold bigR; simp; omega
  have tb : bigR r = false := hbg
  have t1 : (r != 0) = true := by simp; omega
  have t2 : (r != 34) = true := by simp; omega
  have t3 : (r != 95) = true := by simp; omega
  have t4 : (r == 95) = false := by simp; omega
  have HPUT : Hid (putR s r ⟨k, L⟩ d = (finR s r (normR ⟨k, L⟩), 0)) := by
    have hbad : badR r ⟨k, L⟩ = false := by unfold badR; rw [hl]; simp; omega
    show _ = _
    unfold putR
    rw [hbad, hbg, hl, if_neg (by simp), if_neg (by omega), if_neg (by simp), if_pos rfl]
  clear hl hbg k0 k2 hz
  go_enter Try.func16, Try.ntmps16
  go_upto_region 1 with fail
  rw [HW.out, HBE.out]
  go_upto_region 4 with (first
    | (go_at_call 24; refine (HBIG.out _ _).mono ?_; rintro e wq ⟨rfl, hwq⟩; subst hwq; rw [tb])
    | (go_at_call 25; refine (HLIT.out _ _).mono ?_; rintro e wq ⟨rfl, hwq⟩; subst hwq; rw [tl])
    | (go_at_call 36; refine HSZ.out.mono ?_; rintro e wq ⟨rfl, hwq⟩; subst hwq)
    | (go_at_call 14; refine HT.out.mono ?_; rintro e w1 ⟨a1, c1, rfl, ⟨e0, e1, e2, e3, e4⟩, HS1⟩))
  obtain ⟨ws, hws⟩ : ∃ ws, (w1.setCell ⟨b, 0, none⟩ (.int .i64 k)).setCell ⟨b, 1, none⟩ (.slice a1 n c1) = ws := ⟨_, rfl⟩
  rw [hws] at HS1
  rw [hws]
  obtain ⟨⟨i0, i1, i2, i3, i4⟩, HS2, HE⟩ := HS1
  clear hws
  go_upto_if 56 with fail
  go_cut [9] (fun v9 wx => v9 = undef ∧ ∃ (a2 : Option Addr) (n2 c2 : Nat), BoxS wx b k a2 n2 c2 ∧ Hid (PutS P w wx bx b s (normR ⟨k, L⟩) a2 n2 c2 ∧ Below b w wx))
  case first =>
    by_cases hn0 : n = 0
    · have t0 : ((n : Int) == 0) = true := by simp [hn0]
      obtain ⟨⟨v0, v1, v2, v3, v4⟩, HE2⟩ := HE.out hn0
      clear hn0
      go_wp2
      go_meet
      exact ⟨rfl, _, _, _, ⟨v0, v1, v2, v3, v4⟩, HE2⟩
    · have t0 : ((n : Int) == 0) = false := by simp; omega
      go_wp2
      go_meet
      exact ⟨rfl, _, _, _, ⟨i0, i1, i2, i3, i4⟩, HS2.out hn0⟩
  case rest =>
    obtain ⟨rfl, a2, n2, c2, ⟨v0, v1, v2, v3, v4⟩, HPS⟩ := hcut
    have hfin := HPS.out.1.fin (r) (by omega) HNO.out
    rw [norm_k] at hfin
    have HFIN := Lib.hid hfin
    clear hfin
    go_wp2_with (first
      | (go_at_call 24; refine (HBIG.out _ _).mono ?_; rintro e wq ⟨rfl, hwq⟩; subst hwq; rw [tb])
      | (go_at_call 25; refine (HLIT.out _ _).mono ?_; rintro e wq ⟨rfl, hwq⟩; subst hwq; rw [tl])
      | (go_at_call 38; (with_reducible refine HFIN.out.mono ?_); rintro e w5 ⟨rfl, ⟨o0, o1, o2, o3, o4⟩, HF2⟩)
      | (go_at_call 38; (with_reducible refine HF2.out.mono ?_); rintro e w6 ⟨rfl, HAF⟩))
    go_ret
    rw [HPUT.out]
    exact ⟨rfl, HAF.out⟩

set_option maxHeartbeats 4000000 in
theorem rputUnder_any {P : Nat → Prop} {bx : Nat} {s : List Nm} (F : Nat → Prop) (k : Int) (a : Option Addr) (n c : Nat) (L : List (List Int)) (d : Bool) (w : World) (h : RSt P w bx s) (hok : OkS s) (hr : RdL F w a n c L) (hs : sizeR L ≤ 1048576) (k0 : 0 ≤ k) (k2 : k ≤ 2) (hz : sizeR L ≤ 65536) :
    Calls Try.prog 16 #[.pointer (some ⟨bx, 0, none⟩), .int .i32 95, rgV k a n c, .bool d] w (PutA P bx s 95 ⟨k, L⟩ d w) := by
  show Calls _ _ #[.pointer (some ⟨bx, 0, none⟩), .int .i32 95, .agg #[.int .i64 k, .slice a n c], .bool d] w fun e w' => e = .returned (.int .i64 (putR s 95 ⟨k, L⟩ d).2) ∧ AfS P w w' bx (putR s 95 ⟨k, L⟩ d).1
  have hwf := lines_wfG hr
  obtain ⟨wb, hwb⟩ : ∃ wb, w.alloc (.cells #[.int .i64 k, .slice a n c] 31) = wb := ⟨_, rfl⟩
  have hsz : wb.heap.size = w.heap.size + 1 := by rw [← hwb]; simp
  have hB : Below w.heap.size w wb := by rw [← hwb]; exact (Below.refl _ w).alloc (Nat.le_refl _) _
  have hx : BoxS wb w.heap.size k a n c := by rw [← hwb]; exact BoxS.of (heap_alloc_new w _)
  have HSZ := Lib.hid (rsz_any F a n c L wb (hr.below hB) (by omega))
  have HT : Hid (Calls Try.prog 14 #[.agg #[.int .i64 k, .slice a n c]] wb fun e w1 => ∃ a1 c1, e = .returned (.agg #[.int .i64 k, .slice a1 n c1]) ∧ BoxS w1 w.heap.size k a n c ∧ BoxS ((w1.setCell ⟨w.heap.size, 0, none⟩ (.int .i64 k)).setCell ⟨w.heap.size, 1, none⟩ (.slice a1 n c1)) w.heap.size k a1 n c1 ∧
    Hid (¬ n = 0 → Hid (PutS P w ((w1.setCell ⟨w.heap.size, 0, none⟩ (.int .i64 k)).setCell ⟨w.heap.size, 1, none⟩ (.slice a1 n c1)) bx w.heap.size s (normR ⟨k, L⟩) a1 n c1 ∧ Below w.heap.size w ((w1.setCell ⟨w.heap.size, 0, none⟩ (.int .i64 k)).setCell ⟨w.heap.size, 1, none⟩ (.slice a1 n c1)))) ∧
    Hid (n = 0 → BoxS ((((w1.setCell ⟨w.heap.size, 0, none⟩ (.int .i64 k)).setCell ⟨w.heap.size, 1, none⟩ (.slice a1 n c1)).setCell ⟨w.heap.size, 1, none⟩ (.slice (some ⟨((w1.setCell ⟨w.heap.size, 0, none⟩ (.int .i64 k)).setCell ⟨w.heap.size, 1, none⟩ (.slice a1 n c1)).heap.size, 0, none⟩) 1 1)).alloc (.cells #[.slice none 0 0] 39)) w.heap.size k (some ⟨((w1.setCell ⟨w.heap.size, 0, none⟩ (.int .i64 k)).setCell ⟨w.heap.size, 1, none⟩ (.slice a1 n c1)).heap.size, 0, none⟩) 1 1 ∧ Hid (PutS P w ((((w1.setCell ⟨w.heap.size, 0, none⟩ (.int .i64 k)).setCell ⟨w.heap.size, 1, none⟩ (.slice a1 n c1)).setCell ⟨w.heap.size, 1, none⟩ (.slice (some ⟨((w1.setCell ⟨w.heap.size, 0, none⟩ (.int .i64 k)).setCell ⟨w.heap.size, 1, none⟩ (.slice a1 n c1)).heap.size, 0, none⟩) 1 1)).alloc (.cells #[.slice none 0 0] 39)) bx w.heap.size s (normR ⟨k, L⟩) (some ⟨((w1.setCell ⟨w.heap.size, 0, none⟩ (.int .i64 k)).setCell ⟨w.heap.size, 1, none⟩ (.slice a1 n c1)).heap.size, 0, none⟩) 1 1 ∧ Below w.heap.size w ((((w1.setCell ⟨w.heap.size, 0, none⟩ (.int .i64 k)).setCell ⟨w.heap.size, 1, none⟩ (.slice a1 n c1)).setCell ⟨w.heap.size, 1, none⟩ (.slice (some ⟨((w1.setCell ⟨w.heap.size, 0, none⟩ (.int .i64 k)).setCell ⟨w.heap.size, 1, none⟩ (.slice a1 n c1)).heap.size, 0, none⟩) 1 1)).alloc (.cells #[.slice none 0 0] 39))))) := by
    refine (rtwinR_any F k a n c L wb (hr.below hB) hs).mono ?_
    rintro e w1 ⟨a1, c1, rfl, hf, hb⟩
    exact ⟨a1, c1, rfl, hx.below (hb.mono (Nat.le_refl _)), put_box h hok hwb hf hb hwf⟩
  have HBIG : Hid (∀ c w, Calls Try.prog 24 #[.int .i32 c] w fun e w' => e = .returned (.bool (bigR c)) ∧ w' = w) := rbig_any
  have HLIT : Hid (∀ c w, Calls Try.prog 25 #[.int .i32 c] w fun e w' => e = .returned (.bool (littleR c)) ∧ w' = w) := rlittle_any
  have HB := Lib.hid (And.intro hB hsz)
  have HW := Lib.hid hwb
  have HH := Lib.hid (And.intro h hok)
  clear h hok hwb hB hr hwf hs hsz
  obtain ⟨b, hbe⟩ : ∃ b, w.heap.size = b := ⟨_, rfl⟩
  have HBE := Lib.hid hbe
  rw [hbe] at hx HT
  clear hbe
  obtain ⟨x0, x1, x2, x3, x4⟩ := hx
  have q1 : decide (k < 0) = false := by simp; omega
  have q2 : decide (2 < k) = false := by simp; omega
  have q3 : decide ((65536 : Int) < (sizeR L : Nat)) = false := by simp; omega
  have HNO := Lib.hid (norm_ok (r := ⟨k, L⟩) k0 k2 hz)
  have tb : bigR 95 = false := by decide
  have tl : littleR 95 = false := by decide
  have HPUT : Hid (putR s 95 ⟨k, L⟩ d = (s, 0)) := by
    have hbad : badR 95 ⟨k, L⟩ = false := by unfold badR; simp [bigR, littleR]; omega
    show _ = _
    unfold putR
    rw [hbad]
    simp [bigR, littleR]
  clear k0 k2 hz
  go_enter Try.func16, Try.ntmps16
  go_upto_region 1 with fail
  rw [HW.out, HBE.out]
  go_upto_region 4 with (first
    | (go_at_call 24; refine (HBIG.out _ _).mono ?_; rintro e wq ⟨rfl, hwq⟩; subst hwq; rw [tb])
    | (go_at_call 25; refine (HLIT.out _ _).mono ?_; rintro e wq ⟨rfl, hwq⟩; subst hwq; rw [tl])
    | (go_at_call 36; refine HSZ.out.mono ?_; rintro e wq ⟨rfl, hwq⟩; subst hwq)
    | (go_at_call 14; refine HT.out.mono ?_; rintro e w1 ⟨a1, c1, rfl, ⟨e0, e1, e2, e3, e4⟩, HS1⟩))
  obtain ⟨ws, hws⟩ : ∃ ws, (w1.setCell ⟨b, 0, none⟩ (.int .i64 k)).setCell ⟨b, 1, none⟩ (.slice a1 n c1) = ws := ⟨_, rfl⟩
  rw [hws] at HS1
  rw [hws]
  obtain ⟨⟨i0, i1, i2, i3, i4⟩, HS2, HE⟩ := HS1
  clear hws
  go_upto_if 56 with fail
  go_cut [9] (fun v9 wx => v9 = undef ∧ ∃ (a2 : Option Addr) (n2 c2 : Nat), BoxS wx b k a2 n2 c2 ∧ Hid (PutS P w wx bx b s (normR ⟨k, L⟩) a2 n2 c2 ∧ Below b w wx))
  case first =>
    by_cases hn0 : n = 0
    · have t0 : ((n : Int) == 0) = true := by simp [hn0]
      obtain ⟨⟨v0, v1, v2, v3, v4⟩, HE2⟩ := HE.out hn0
      clear hn0
      go_wp2
      go_meet
      exact ⟨rfl, _, _, _, ⟨v0, v1, v2, v3, v4⟩, HE2⟩
    · have t0 : ((n : Int) == 0) = false := by simp; omega
      go_wp2
      go_meet
      exact ⟨rfl, _, _, _, ⟨i0, i1, i2, i3, i4⟩, HS2.out hn0⟩
  case rest =>
    obtain ⟨rfl, a2, n2, c2, ⟨v0, v1, v2, v3, v4⟩, HPS⟩ := hcut
    go_wp2_with fail
    go_ret
    rw [HPUT.out]
    exact ⟨rfl, HPS.out.1.af⟩

set_option maxHeartbeats 4000000 in
theorem rputYankZero_any {P : Nat → Prop} {bx : Nat} {s : List Nm} (F : Nat → Prop) (k : Int) (a : Option Addr) (n c : Nat) (L : List (List Int)) (w : World) (h : RSt P w bx s) (hok : OkS s) (hr : RdL F w a n c L) (hs : sizeR L ≤ 1048576) (k0 : 0 ≤ k) (k2 : k ≤ 2) (hz : sizeR L ≤ 65536) :
    Calls Try.prog 16 #[.pointer (some ⟨bx, 0, none⟩), .int .i32 0, rgV k a n c, .bool false] w (PutA P bx s 0 ⟨k, L⟩ false w) := by
  show Calls _ _ #[.pointer (some ⟨bx, 0, none⟩), .int .i32 0, .agg #[.int .i64 k, .slice a n c], .bool false] w fun e w' => e = .returned (.int .i64 (putR s 0 ⟨k, L⟩ false).2) ∧ AfS P w w' bx (putR s 0 ⟨k, L⟩ false).1
  have hwf := lines_wfG hr
  obtain ⟨wb, hwb⟩ : ∃ wb, w.alloc (.cells #[.int .i64 k, .slice a n c] 31) = wb := ⟨_, rfl⟩
  have hsz : wb.heap.size = w.heap.size + 1 := by rw [← hwb]; simp
  have hB : Below w.heap.size w wb := by rw [← hwb]; exact (Below.refl _ w).alloc (Nat.le_refl _) _
  have hx : BoxS wb w.heap.size k a n c := by rw [← hwb]; exact BoxS.of (heap_alloc_new w _)
  have HSZ := Lib.hid (rsz_any F a n c L wb (hr.below hB) (by omega))
  have HT : Hid (Calls Try.prog 14 #[.agg #[.int .i64 k, .slice a n c]] wb fun e w1 => ∃ a1 c1, e = .returned (.agg #[.int .i64 k, .slice a1 n c1]) ∧ BoxS w1 w.heap.size k a n c ∧ BoxS ((w1.setCell ⟨w.heap.size, 0, none⟩ (.int .i64 k)).setCell ⟨w.heap.size, 1, none⟩ (.slice a1 n c1)) w.heap.size k a1 n c1 ∧
    Hid (¬ n = 0 → Hid (PutS P w ((w1.setCell ⟨w.heap.size, 0, none⟩ (.int .i64 k)).setCell ⟨w.heap.size, 1, none⟩ (.slice a1 n c1)) bx w.heap.size s (normR ⟨k, L⟩) a1 n c1 ∧ Below w.heap.size w ((w1.setCell ⟨w.heap.size, 0, none⟩ (.int .i64 k)).setCell ⟨w.heap.size, 1, none⟩ (.slice a1 n c1)))) ∧
    Hid (n = 0 → BoxS ((((w1.setCell ⟨w.heap.size, 0, none⟩ (.int .i64 k)).setCell ⟨w.heap.size, 1, none⟩ (.slice a1 n c1)).setCell ⟨w.heap.size, 1, none⟩ (.slice (some ⟨((w1.setCell ⟨w.heap.size, 0, none⟩ (.int .i64 k)).setCell ⟨w.heap.size, 1, none⟩ (.slice a1 n c1)).heap.size, 0, none⟩) 1 1)).alloc (.cells #[.slice none 0 0] 39)) w.heap.size k (some ⟨((w1.setCell ⟨w.heap.size, 0, none⟩ (.int .i64 k)).setCell ⟨w.heap.size, 1, none⟩ (.slice a1 n c1)).heap.size, 0, none⟩) 1 1 ∧ Hid (PutS P w ((((w1.setCell ⟨w.heap.size, 0, none⟩ (.int .i64 k)).setCell ⟨w.heap.size, 1, none⟩ (.slice a1 n c1)).setCell ⟨w.heap.size, 1, none⟩ (.slice (some ⟨((w1.setCell ⟨w.heap.size, 0, none⟩ (.int .i64 k)).setCell ⟨w.heap.size, 1, none⟩ (.slice a1 n c1)).heap.size, 0, none⟩) 1 1)).alloc (.cells #[.slice none 0 0] 39)) bx w.heap.size s (normR ⟨k, L⟩) (some ⟨((w1.setCell ⟨w.heap.size, 0, none⟩ (.int .i64 k)).setCell ⟨w.heap.size, 1, none⟩ (.slice a1 n c1)).heap.size, 0, none⟩) 1 1 ∧ Below w.heap.size w ((((w1.setCell ⟨w.heap.size, 0, none⟩ (.int .i64 k)).setCell ⟨w.heap.size, 1, none⟩ (.slice a1 n c1)).setCell ⟨w.heap.size, 1, none⟩ (.slice (some ⟨((w1.setCell ⟨w.heap.size, 0, none⟩ (.int .i64 k)).setCell ⟨w.heap.size, 1, none⟩ (.slice a1 n c1)).heap.size, 0, none⟩) 1 1)).alloc (.cells #[.slice none 0 0] 39))))) := by
    refine (rtwinR_any F k a n c L wb (hr.below hB) hs).mono ?_
    rintro e w1 ⟨a1, c1, rfl, hf, hb⟩
    exact ⟨a1, c1, rfl, hx.below (hb.mono (Nat.le_refl _)), put_box h hok hwb hf hb hwf⟩
  have HBIG : Hid (∀ c w, Calls Try.prog 24 #[.int .i32 c] w fun e w' => e = .returned (.bool (bigR c)) ∧ w' = w) := rbig_any
  have HLIT : Hid (∀ c w, Calls Try.prog 25 #[.int .i32 c] w fun e w' => e = .returned (.bool (littleR c)) ∧ w' = w) := rlittle_any
  have HB := Lib.hid (And.intro hB hsz)
  have HW := Lib.hid hwb
  have HH := Lib.hid (And.intro h hok)
  clear h hok hwb hB hr hwf hs hsz
  obtain ⟨b, hbe⟩ : ∃ b, w.heap.size = b := ⟨_, rfl⟩
  have HBE := Lib.hid hbe
  rw [hbe] at hx HT
  clear hbe
  obtain ⟨x0, x1, x2, x3, x4⟩ := hx
  have q1 : decide (k < 0) = false := by simp; omega
  have q2 : decide (2 < k) = false := by simp; omega
  have q3 : decide ((65536 : Int) < (sizeR L : Nat)) = false := by simp; omega
  have HNO := Lib.hid (norm_ok (r := ⟨k, L⟩) k0 k2 hz)
  have tb : bigR 0 = false := by decide
  have tl : littleR 0 = false := by decide
  have HPUT : Hid (putR s 0 ⟨k, L⟩ false = (finR s 48 (normR ⟨k, L⟩), 0)) := by
    have hbad : badR 0 ⟨k, L⟩ = false := by unfold badR; simp [bigR, littleR]; omega
    show _ = _
    unfold putR
    rw [hbad]
    simp [bigR, littleR]
  clear k0 k2 hz
  go_enter Try.func16, Try.ntmps16
  go_upto_region 1 with fail
  rw [HW.out, HBE.out]
  go_upto_region 4 with (first
    | (go_at_call 24; refine (HBIG.out _ _).mono ?_; rintro e wq ⟨rfl, hwq⟩; subst hwq; rw [tb])
    | (go_at_call 25; refine (HLIT.out _ _).mono ?_; rintro e wq ⟨rfl, hwq⟩; subst hwq; rw [tl])
    | (go_at_call 36; refine HSZ.out.mono ?_; rintro e wq ⟨rfl, hwq⟩; subst hwq)
    | (go_at_call 14; refine HT.out.mono ?_; rintro e w1 ⟨a1, c1, rfl, ⟨e0, e1, e2, e3, e4⟩, HS1⟩))
  obtain ⟨ws, hws⟩ : ∃ ws, (w1.setCell ⟨b, 0, none⟩ (.int .i64 k)).setCell ⟨b, 1, none⟩ (.slice a1 n c1) = ws := ⟨_, rfl⟩
  rw [hws] at HS1
  rw [hws]
  obtain ⟨⟨i0, i1, i2, i3, i4⟩, HS2, HE⟩ := HS1
  clear hws
  go_upto_if 56 with fail
  go_cut [9] (fun v9 wx => v9 = undef ∧ ∃ (a2 : Option Addr) (n2 c2 : Nat), BoxS wx b k a2 n2 c2 ∧ Hid (PutS P w wx bx b s (normR ⟨k, L⟩) a2 n2 c2 ∧ Below b w wx))
  case first =>
    by_cases hn0 : n = 0
    · have t0 : ((n : Int) == 0) = true := by simp [hn0]
      obtain ⟨⟨v0, v1, v2, v3, v4⟩, HE2⟩ := HE.out hn0
      clear hn0
      go_wp2
      go_meet
      exact ⟨rfl, _, _, _, ⟨v0, v1, v2, v3, v4⟩, HE2⟩
    · have t0 : ((n : Int) == 0) = false := by simp; omega
      go_wp2
      go_meet
      exact ⟨rfl, _, _, _, ⟨i0, i1, i2, i3, i4⟩, HS2.out hn0⟩
  case rest =>
    obtain ⟨rfl, a2, n2, c2, ⟨v0, v1, v2, v3, v4⟩, HPS⟩ := hcut
    have hfin := HPS.out.1.fin (48) (by omega) HNO.out
    rw [norm_k] at hfin
    have HFIN := Lib.hid hfin
    clear hfin
    go_wp2_with (first
      | (go_at_call 24; refine (HBIG.out _ _).mono ?_; rintro e wq ⟨rfl, hwq⟩; subst hwq; rw [tb])
      | (go_at_call 25; refine (HLIT.out _ _).mono ?_; rintro e wq ⟨rfl, hwq⟩; subst hwq; rw [tl])
      | (go_at_call 38; (with_reducible refine HFIN.out.mono ?_); rintro e w5 ⟨rfl, ⟨o0, o1, o2, o3, o4⟩, HF2⟩)
      | (go_at_call 38; (with_reducible refine HF2.out.mono ?_); rintro e w6 ⟨rfl, HAF⟩))
    go_ret
    rw [HPUT.out]
    exact ⟨rfl, HAF.out⟩

set_option maxHeartbeats 4000000 in
theorem rputOneZero_any {P : Nat → Prop} {bx : Nat} {s : List Nm} (F : Nat → Prop) (k : Int) (a : Option Addr) (n c : Nat) (L : List (List Int)) (w : World) (h : RSt P w bx s) (hok : OkS s) (hr : RdL F w a n c L) (hs : sizeR L ≤ 1048576) (k0 : 0 ≤ k) (k2 : k ≤ 2) (hz : sizeR L ≤ 65536) (hk1 : k ≠ 1) (hln : ¬ 1 < (normR ⟨k, L⟩).L.length) :
    Calls Try.prog 16 #[.pointer (some ⟨bx, 0, none⟩), .int .i32 0, rgV k a n c, .bool true] w (PutA P bx s 0 ⟨k, L⟩ true w) := by
  show Calls _ _ #[.pointer (some ⟨bx, 0, none⟩), .int .i32 0, .agg #[.int .i64 k, .slice a n c], .bool true] w fun e w' => e = .returned (.int .i64 (putR s 0 ⟨k, L⟩ true).2) ∧ AfS P w w' bx (putR s 0 ⟨k, L⟩ true).1
  have hwf := lines_wfG hr
  obtain ⟨wb, hwb⟩ : ∃ wb, w.alloc (.cells #[.int .i64 k, .slice a n c] 31) = wb := ⟨_, rfl⟩
  have hsz : wb.heap.size = w.heap.size + 1 := by rw [← hwb]; simp
  have hB : Below w.heap.size w wb := by rw [← hwb]; exact (Below.refl _ w).alloc (Nat.le_refl _) _
  have hx : BoxS wb w.heap.size k a n c := by rw [← hwb]; exact BoxS.of (heap_alloc_new w _)
  have HSZ := Lib.hid (rsz_any F a n c L wb (hr.below hB) (by omega))
  have HT : Hid (Calls Try.prog 14 #[.agg #[.int .i64 k, .slice a n c]] wb fun e w1 => ∃ a1 c1, e = .returned (.agg #[.int .i64 k, .slice a1 n c1]) ∧ BoxS w1 w.heap.size k a n c ∧ BoxS ((w1.setCell ⟨w.heap.size, 0, none⟩ (.int .i64 k)).setCell ⟨w.heap.size, 1, none⟩ (.slice a1 n c1)) w.heap.size k a1 n c1 ∧
    Hid (¬ n = 0 → Hid (PutS P w ((w1.setCell ⟨w.heap.size, 0, none⟩ (.int .i64 k)).setCell ⟨w.heap.size, 1, none⟩ (.slice a1 n c1)) bx w.heap.size s (normR ⟨k, L⟩) a1 n c1 ∧ Below w.heap.size w ((w1.setCell ⟨w.heap.size, 0, none⟩ (.int .i64 k)).setCell ⟨w.heap.size, 1, none⟩ (.slice a1 n c1)))) ∧
    Hid (n = 0 → BoxS ((((w1.setCell ⟨w.heap.size, 0, none⟩ (.int .i64 k)).setCell ⟨w.heap.size, 1, none⟩ (.slice a1 n c1)).setCell ⟨w.heap.size, 1, none⟩ (.slice (some ⟨((w1.setCell ⟨w.heap.size, 0, none⟩ (.int .i64 k)).setCell ⟨w.heap.size, 1, none⟩ (.slice a1 n c1)).heap.size, 0, none⟩) 1 1)).alloc (.cells #[.slice none 0 0] 39)) w.heap.size k (some ⟨((w1.setCell ⟨w.heap.size, 0, none⟩ (.int .i64 k)).setCell ⟨w.heap.size, 1, none⟩ (.slice a1 n c1)).heap.size, 0, none⟩) 1 1 ∧ Hid (PutS P w ((((w1.setCell ⟨w.heap.size, 0, none⟩ (.int .i64 k)).setCell ⟨w.heap.size, 1, none⟩ (.slice a1 n c1)).setCell ⟨w.heap.size, 1, none⟩ (.slice (some ⟨((w1.setCell ⟨w.heap.size, 0, none⟩ (.int .i64 k)).setCell ⟨w.heap.size, 1, none⟩ (.slice a1 n c1)).heap.size, 0, none⟩) 1 1)).alloc (.cells #[.slice none 0 0] 39)) bx w.heap.size s (normR ⟨k, L⟩) (some ⟨((w1.setCell ⟨w.heap.size, 0, none⟩ (.int .i64 k)).setCell ⟨w.heap.size, 1, none⟩ (.slice a1 n c1)).heap.size, 0, none⟩) 1 1 ∧ Below w.heap.size w ((((w1.setCell ⟨w.heap.size, 0, none⟩ (.int .i64 k)).setCell ⟨w.heap.size, 1, none⟩ (.slice a1 n c1)).setCell ⟨w.heap.size, 1, none⟩ (.slice (some ⟨((w1.setCell ⟨w.heap.size, 0, none⟩ (.int .i64 k)).setCell ⟨w.heap.size, 1, none⟩ (.slice a1 n c1)).heap.size, 0, none⟩) 1 1)).alloc (.cells #[.slice none 0 0] 39))))) := by
    refine (rtwinR_any F k a n c L wb (hr.below hB) hs).mono ?_
    rintro e w1 ⟨a1, c1, rfl, hf, hb⟩
    exact ⟨a1, c1, rfl, hx.below (hb.mono (Nat.le_refl _)), put_box h hok hwb hf hb hwf⟩
  have HBIG : Hid (∀ c w, Calls Try.prog 24 #[.int .i32 c] w fun e w' => e = .returned (.bool (bigR c)) ∧ w' = w) := rbig_any
  have HLIT : Hid (∀ c w, Calls Try.prog 25 #[.int .i32 c] w fun e w' => e = .returned (.bool (littleR c)) ∧ w' = w) := rlittle_any
  have HB := Lib.hid (And.intro hB hsz)
  have HW := Lib.hid hwb
  have HH := Lib.hid (And.intro h hok)
  clear h hok hwb hB hr hwf hs hsz
  obtain ⟨b, hbe⟩ : ∃ b, w.heap.size = b := ⟨_, rfl⟩
  have HBE := Lib.hid hbe
  rw [hbe] at hx HT
  clear hbe
  obtain ⟨x0, x1, x2, x3, x4⟩ := hx
  have q1 : decide (k < 0) = false := by simp; omega
  have q2 : decide (2 < k) = false := by simp; omega
  have q3 : decide ((65536 : Int) < (sizeR L : Nat)) = false := by simp; omega
  have HNO := Lib.hid (norm_ok (r := ⟨k, L⟩) k0 k2 hz)
  have tb : bigR 0 = false := by decide
  have tl : littleR 0 = false := by decide
  have HPUT : Hid (putR s 0 ⟨k, L⟩ true = (finR s 45 (normR ⟨k, L⟩), 0)) := by
    have hbad : badR 0 ⟨k, L⟩ = false := by unfold badR; simp [bigR, littleR]; omega
    have hd : ¬ ((normR ⟨k, L⟩).k = 1 ∨ 1 < (normR ⟨k, L⟩).L.length) := by rw [norm_k]; intro h; rcases h with h | h; exact hk1 h; exact hln h
    show _ = _
    unfold putR
    rw [hbad, if_neg (by simp), if_neg (by decide), if_neg (by decide), if_neg (by decide), if_neg (by decide), if_neg hd]
  have tk : (k == 1) = false := by simpa using hk1
  have HLN := Lib.hid hln
  clear k0 k2 hz hk1 hln
  go_enter Try.func16, Try.ntmps16
  go_upto_region 1 with fail
  rw [HW.out, HBE.out]
  go_upto_region 4 with (first
    | (go_at_call 24; refine (HBIG.out _ _).mono ?_; rintro e wq ⟨rfl, hwq⟩; subst hwq; rw [tb])
    | (go_at_call 25; refine (HLIT.out _ _).mono ?_; rintro e wq ⟨rfl, hwq⟩; subst hwq; rw [tl])
    | (go_at_call 36; refine HSZ.out.mono ?_; rintro e wq ⟨rfl, hwq⟩; subst hwq)
    | (go_at_call 14; refine HT.out.mono ?_; rintro e w1 ⟨a1, c1, rfl, ⟨e0, e1, e2, e3, e4⟩, HS1⟩))
  obtain ⟨ws, hws⟩ : ∃ ws, (w1.setCell ⟨b, 0, none⟩ (.int .i64 k)).setCell ⟨b, 1, none⟩ (.slice a1 n c1) = ws := ⟨_, rfl⟩
  rw [hws] at HS1
  rw [hws]
  obtain ⟨⟨i0, i1, i2, i3, i4⟩, HS2, HE⟩ := HS1
  clear hws
  go_upto_if 56 with fail
  go_cut [9] (fun v9 wx => v9 = undef ∧ ∃ (a2 : Option Addr) (n2 c2 : Nat), BoxS wx b k a2 n2 c2 ∧ Hid (PutS P w wx bx b s (normR ⟨k, L⟩) a2 n2 c2 ∧ Below b w wx))
  case first =>
    by_cases hn0 : n = 0
    · have t0 : ((n : Int) == 0) = true := by simp [hn0]
      obtain ⟨⟨v0, v1, v2, v3, v4⟩, HE2⟩ := HE.out hn0
      clear hn0
      go_wp2
      go_meet
      exact ⟨rfl, _, _, _, ⟨v0, v1, v2, v3, v4⟩, HE2⟩
    · have t0 : ((n : Int) == 0) = false := by simp; omega
      go_wp2
      go_meet
      exact ⟨rfl, _, _, _, ⟨i0, i1, i2, i3, i4⟩, HS2.out hn0⟩
  case rest =>
    obtain ⟨rfl, a2, n2, c2, ⟨v0, v1, v2, v3, v4⟩, HPS⟩ := hcut
    have hl2 : decide ((1 : Int) < (n2 : Int)) = false := by
      have h1 := HPS.out.1.rd.len
      have h2 := HLN.out
      simp
      omega
    have hfin := HPS.out.1.fin (45) (by omega) HNO.out
    rw [norm_k] at hfin
    have HFIN := Lib.hid hfin
    clear hfin
    go_wp2_with (first
      | (go_at_call 24; refine (HBIG.out _ _).mono ?_; rintro e wq ⟨rfl, hwq⟩; subst hwq; rw [tb])
      | (go_at_call 25; refine (HLIT.out _ _).mono ?_; rintro e wq ⟨rfl, hwq⟩; subst hwq; rw [tl])
      | (go_at_call 38; (with_reducible refine HFIN.out.mono ?_); rintro e w5 ⟨rfl, ⟨o0, o1, o2, o3, o4⟩, HF2⟩)
      | (go_at_call 38; (with_reducible refine HF2.out.mono ?_); rintro e w6 ⟨rfl, HAF⟩))
    go_ret
    rw [HPUT.out]
    exact ⟨rfl, HAF.out⟩

set_option maxHeartbeats 4000000 in
theorem rputManyZero_any {P : Nat → Prop} {bx : Nat} {s : List Nm} (F : Nat → Prop) (k : Int) (a : Option Addr) (n c : Nat) (L : List (List Int)) (w : World) (h : RSt P w bx s) (hok : OkS s) (hr : RdL F w a n c L) (hs : sizeR L ≤ 1048576) (k0 : 0 ≤ k) (k2 : k ≤ 2) (hz : sizeR L ≤ 65536) (hmany : k = 1 ∨ 1 < (normR ⟨k, L⟩).L.length) :
    Calls Try.prog 16 #[.pointer (some ⟨bx, 0, none⟩), .int .i32 0, rgV k a n c, .bool true] w (PutA P bx s 0 ⟨k, L⟩ true w) := by
  show Calls _ _ #[.pointer (some ⟨bx, 0, none⟩), .int .i32 0, .agg #[.int .i64 k, .slice a n c], .bool true] w fun e w' => e = .returned (.int .i64 (putR s 0 ⟨k, L⟩ true).2) ∧ AfS P w w' bx (putR s 0 ⟨k, L⟩ true).1
  have hwf := lines_wfG hr
  obtain ⟨wb, hwb⟩ : ∃ wb, w.alloc (.cells #[.int .i64 k, .slice a n c] 31) = wb := ⟨_, rfl⟩
  have hsz : wb.heap.size = w.heap.size + 1 := by rw [← hwb]; simp
  have hB : Below w.heap.size w wb := by rw [← hwb]; exact (Below.refl _ w).alloc (Nat.le_refl _) _
  have hx : BoxS wb w.heap.size k a n c := by rw [← hwb]; exact BoxS.of (heap_alloc_new w _)
  have HSZ := Lib.hid (rsz_any F a n c L wb (hr.below hB) (by omega))
  have HT : Hid (Calls Try.prog 14 #[.agg #[.int .i64 k, .slice a n c]] wb fun e w1 => ∃ a1 c1, e = .returned (.agg #[.int .i64 k, .slice a1 n c1]) ∧ BoxS w1 w.heap.size k a n c ∧ BoxS ((w1.setCell ⟨w.heap.size, 0, none⟩ (.int .i64 k)).setCell ⟨w.heap.size, 1, none⟩ (.slice a1 n c1)) w.heap.size k a1 n c1 ∧
    Hid (¬ n = 0 → Hid (PutS P w ((w1.setCell ⟨w.heap.size, 0, none⟩ (.int .i64 k)).setCell ⟨w.heap.size, 1, none⟩ (.slice a1 n c1)) bx w.heap.size s (normR ⟨k, L⟩) a1 n c1 ∧ Below w.heap.size w ((w1.setCell ⟨w.heap.size, 0, none⟩ (.int .i64 k)).setCell ⟨w.heap.size, 1, none⟩ (.slice a1 n c1)))) ∧
    Hid (n = 0 → BoxS ((((w1.setCell ⟨w.heap.size, 0, none⟩ (.int .i64 k)).setCell ⟨w.heap.size, 1, none⟩ (.slice a1 n c1)).setCell ⟨w.heap.size, 1, none⟩ (.slice (some ⟨((w1.setCell ⟨w.heap.size, 0, none⟩ (.int .i64 k)).setCell ⟨w.heap.size, 1, none⟩ (.slice a1 n c1)).heap.size, 0, none⟩) 1 1)).alloc (.cells #[.slice none 0 0] 39)) w.heap.size k (some ⟨((w1.setCell ⟨w.heap.size, 0, none⟩ (.int .i64 k)).setCell ⟨w.heap.size, 1, none⟩ (.slice a1 n c1)).heap.size, 0, none⟩) 1 1 ∧ Hid (PutS P w ((((w1.setCell ⟨w.heap.size, 0, none⟩ (.int .i64 k)).setCell ⟨w.heap.size, 1, none⟩ (.slice a1 n c1)).setCell ⟨w.heap.size, 1, none⟩ (.slice (some ⟨((w1.setCell ⟨w.heap.size, 0, none⟩ (.int .i64 k)).setCell ⟨w.heap.size, 1, none⟩ (.slice a1 n c1)).heap.size, 0, none⟩) 1 1)).alloc (.cells #[.slice none 0 0] 39)) bx w.heap.size s (normR ⟨k, L⟩) (some ⟨((w1.setCell ⟨w.heap.size, 0, none⟩ (.int .i64 k)).setCell ⟨w.heap.size, 1, none⟩ (.slice a1 n c1)).heap.size, 0, none⟩) 1 1 ∧ Below w.heap.size w ((((w1.setCell ⟨w.heap.size, 0, none⟩ (.int .i64 k)).setCell ⟨w.heap.size, 1, none⟩ (.slice a1 n c1)).setCell ⟨w.heap.size, 1, none⟩ (.slice (some ⟨((w1.setCell ⟨w.heap.size, 0, none⟩ (.int .i64 k)).setCell ⟨w.heap.size, 1, none⟩ (.slice a1 n c1)).heap.size, 0, none⟩) 1 1)).alloc (.cells #[.slice none 0 0] 39))))) := by
    refine (rtwinR_any F k a n c L wb (hr.below hB) hs).mono ?_
    rintro e w1 ⟨a1, c1, rfl, hf, hb⟩
    exact ⟨a1, c1, rfl, hx.below (hb.mono (Nat.le_refl _)), put_box h hok hwb hf hb hwf⟩
  have HBIG : Hid (∀ c w, Calls Try.prog 24 #[.int .i32 c] w fun e w' => e = .returned (.bool (bigR c)) ∧ w' = w) := rbig_any
  have HLIT : Hid (∀ c w, Calls Try.prog 25 #[.int .i32 c] w fun e w' => e = .returned (.bool (littleR c)) ∧ w' = w) := rlittle_any
  have HB := Lib.hid (And.intro hB hsz)
  have HW := Lib.hid hwb
  have HH := Lib.hid (And.intro h hok)
  clear h hok hwb hB hr hwf hs hsz
  obtain ⟨b, hbe⟩ : ∃ b, w.heap.size = b := ⟨_, rfl⟩
  have HBE := Lib.hid hbe
  rw [hbe] at hx HT
  clear hbe
  obtain ⟨x0, x1, x2, x3, x4⟩ := hx
  have q1 : decide (k < 0) = false := by simp; omega
  have q2 : decide (2 < k) = false := by simp; omega
  have q3 : decide ((65536 : Int) < (sizeR L : Nat)) = false := by simp; omega
  have HNO := Lib.hid (norm_ok (r := ⟨k, L⟩) k0 k2 hz)
  have tb : bigR 0 = false := by decide
  have tl : littleR 0 = false := by decide
  have HPUT : Hid (putR s 0 ⟨k, L⟩ true = (finR (shiftR 8 s) 49 (normR ⟨k, L⟩), 0)) := by
    have hbad : badR 0 ⟨k, L⟩ = false := by unfold badR; simp [bigR, littleR]; omega
    have hd : (normR ⟨k, L⟩).k = 1 ∨ 1 < (normR ⟨k, L⟩).L.length := by rw [norm_k]; exact hmany
    show _ = _
    unfold putR
    rw [hbad, if_neg (by simp), if_neg (by decide), if_neg (by decide), if_neg (by decide), if_neg (by decide), if_pos hd]
  have HMANY := Lib.hid hmany
  clear k0 k2 hz hmany
  go_enter Try.func16, Try.ntmps16
  go_upto_region 1 with fail
  rw [HW.out, HBE.out]
  go_upto_region 4 with (first
    | (go_at_call 24; refine (HBIG.out _ _).mono ?_; rintro e wq ⟨rfl, hwq⟩; subst hwq; rw [tb])
    | (go_at_call 25; refine (HLIT.out _ _).mono ?_; rintro e wq ⟨rfl, hwq⟩; subst hwq; rw [tl])
    | (go_at_call 36; refine HSZ.out.mono ?_; rintro e wq ⟨rfl, hwq⟩; subst hwq)
    | (go_at_call 14; refine HT.out.mono ?_; rintro e w1 ⟨a1, c1, rfl, ⟨e0, e1, e2, e3, e4⟩, HS1⟩))
  obtain ⟨ws, hws⟩ : ∃ ws, (w1.setCell ⟨b, 0, none⟩ (.int .i64 k)).setCell ⟨b, 1, none⟩ (.slice a1 n c1) = ws := ⟨_, rfl⟩
  rw [hws] at HS1
  rw [hws]
  obtain ⟨⟨i0, i1, i2, i3, i4⟩, HS2, HE⟩ := HS1
  clear hws
  go_upto_if 56 with fail
  go_cut [9] (fun v9 wx => v9 = undef ∧ ∃ (a2 : Option Addr) (n2 c2 : Nat), BoxS wx b k a2 n2 c2 ∧ Hid (PutS P w wx bx b s (normR ⟨k, L⟩) a2 n2 c2 ∧ Below b w wx))
  case first =>
    by_cases hn0 : n = 0
    · have t0 : ((n : Int) == 0) = true := by simp [hn0]
      obtain ⟨⟨v0, v1, v2, v3, v4⟩, HE2⟩ := HE.out hn0
      clear hn0
      go_wp2
      go_meet
      exact ⟨rfl, _, _, _, ⟨v0, v1, v2, v3, v4⟩, HE2⟩
    · have t0 : ((n : Int) == 0) = false := by simp; omega
      go_wp2
      go_meet
      exact ⟨rfl, _, _, _, ⟨i0, i1, i2, i3, i4⟩, HS2.out hn0⟩
  case rest =>
    obtain ⟨rfl, a2, n2, c2, ⟨v0, v1, v2, v3, v4⟩, HPS⟩ := hcut
    by_cases hk1 : k = 1
    · have tk : (k == 1) = true := by simpa using hk1
      clear hk1
      go_wp2_with (first
        | (go_at_call 24; refine (HBIG.out _ _).mono ?_; rintro e wq ⟨rfl, hwq⟩; subst hwq; rw [tb])
        | (go_at_call 25; refine (HLIT.out _ _).mono ?_; rintro e wq ⟨rfl, hwq⟩; subst hwq; rw [tl]))
      go_loopw [12] (fun v wr => ∃ j : Nat, v = .int .i32 (57 - (j : Int)) ∧ j ≤ 8 ∧ BoxS wr b k a2 n2 c2 ∧ Hid (PutS P w wr bx b (shiftR j s) (normR ⟨k, L⟩) a2 n2 c2)) (fun v _ => (intOf v).toNat)
      case atStart => exact ⟨0, by simp, by omega, ⟨v0, v1, v2, v3, v4⟩, HPS.out.1⟩
      case round =>
        obtain ⟨j, rfl, hj, ⟨g0, g1, g2, g3, g4⟩, HJ⟩ := hrel
        by_cases hj8 : j < 8
        · have t9 : decide ((49 : Int) < 57 - (j : Int)) = true := by simp; omega
          have y9 : IntKind.i32.wrap (57 - (j : Int) - 1) = 57 - (j : Int) - 1 := by unfold IntKind.wrap; simp [IntKind.signed, IntKind.bits]; omega
          obtain ⟨m, hm⟩ : ∃ m : Int, 57 - (j : Int) = m := ⟨_, rfl⟩
          rw [hm] at t9 y9 ⊢
          have HMJ := Lib.hid hm
          cases ho : holdsR (shiftR j s) (m - 1) with
          | none =>
            have hnx := shift_none HJ.out hm ho
            rw [norm_k] at hnx
            have HNX := Lib.hid hnx
            clear ho hm hnx
            go_wp2_with (go_at_call 26; (with_reducible refine HNX.out.mono ?_); rintro e w2 ⟨rfl, HNN⟩)
            go_roundw
            case rel => exact ⟨j + 1, by have := HMJ.out; first | (rw [← this]; go_num; done) | (congr 1; omega), by omega, (HNN.out _).1, (HNN.out _).2⟩
            case measure => have := HMJ.out; simp [intOf]; omega
          | some g =>
            have hnx := shift_some HJ.out hm hj8 ho
            rw [norm_k] at hnx
            have HNX := Lib.hid hnx
            clear ho hm hnx
            obtain ⟨gk, gL⟩ := g
            go_wp2_with (first
              | (go_at_call 26; (with_reducible refine HNX.out.mono ?_); rintro e w2 ⟨ga, gn, gc, rfl, HNN⟩)
              | (go_at_call 38; (with_reducible refine (HNN.out _).mono ?_); rintro e w5 ⟨rfl, ⟨o0, o1, o2, o3, o4⟩, HNP⟩))
            go_roundw
            case rel => exact ⟨j + 1, by have := HMJ.out; first | (rw [← this]; go_num; done) | (congr 1; omega), by omega, ⟨o0, o1, o2, o3, o4⟩, HNP⟩
            case measure => have := HMJ.out; simp [intOf]; omega
        · obtain rfl : j = 8 := by omega
          have t9 : decide ((49 : Int) < 57 - ((8 : Nat) : Int)) = false := by decide
          have hfin := HJ.out.fin 49 (by omega) HNO.out
          rw [norm_k] at hfin
          have HFIN := Lib.hid hfin
          clear hfin
          go_wp2_with (first
            | (go_at_call 38; (with_reducible refine HFIN.out.mono ?_); rintro e w5 ⟨rfl, ⟨o0, o1, o2, o3, o4⟩, HF2⟩)
            | (go_at_call 38; (with_reducible refine HF2.out.mono ?_); rintro e w6 ⟨rfl, HAF⟩))
          go_ret
          rw [HPUT.out]
          exact ⟨rfl, HAF.out⟩
    · have tk : (k == 1) = false := by simpa using hk1
      have hl2 : decide ((1 : Int) < (n2 : Int)) = true := by
        have h1 := HPS.out.1.rd.len
        have h2 := HMANY.out
        simp
        omega
      go_wp2_with (first
        | (go_at_call 24; refine (HBIG.out _ _).mono ?_; rintro e wq ⟨rfl, hwq⟩; subst hwq; rw [tb])
        | (go_at_call 25; refine (HLIT.out _ _).mono ?_; rintro e wq ⟨rfl, hwq⟩; subst hwq; rw [tl]))
      go_loopw [12] (fun v wr => ∃ j : Nat, v = .int .i32 (57 - (j : Int)) ∧ j ≤ 8 ∧ BoxS wr b k a2 n2 c2 ∧ Hid (PutS P w wr bx b (shiftR j s) (normR ⟨k, L⟩) a2 n2 c2)) (fun v _ => (intOf v).toNat)
      case atStart => exact ⟨0, by simp, by omega, ⟨v0, v1, v2, v3, v4⟩, HPS.out.1⟩
      case round =>
        obtain ⟨j, rfl, hj, ⟨g0, g1, g2, g3, g4⟩, HJ⟩ := hrel
        by_cases hj8 : j < 8
        · have t9 : decide ((49 : Int) < 57 - (j : Int)) = true := by simp; omega
          have y9 : IntKind.i32.wrap (57 - (j : Int) - 1) = 57 - (j : Int) - 1 := by unfold IntKind.wrap; simp [IntKind.signed, IntKind.bits]; omega
          obtain ⟨m, hm⟩ : ∃ m : Int, 57 - (j : Int) = m := ⟨_, rfl⟩
          rw [hm] at t9 y9 ⊢
          have HMJ := Lib.hid hm
          cases ho : holdsR (shiftR j s) (m - 1) with
          | none =>
            have hnx := shift_none HJ.out hm ho
            rw [norm_k] at hnx
            have HNX := Lib.hid hnx
            clear ho hm hnx
            go_wp2_with (go_at_call 26; (with_reducible refine HNX.out.mono ?_); rintro e w2 ⟨rfl, HNN⟩)
            go_roundw
            case rel => exact ⟨j + 1, by have := HMJ.out; first | (rw [← this]; go_num; done) | (congr 1; omega), by omega, (HNN.out _).1, (HNN.out _).2⟩
            case measure => have := HMJ.out; simp [intOf]; omega
          | some g =>
            have hnx := shift_some HJ.out hm hj8 ho
            rw [norm_k] at hnx
            have HNX := Lib.hid hnx
            clear ho hm hnx
            obtain ⟨gk, gL⟩ := g
            go_wp2_with (first
              | (go_at_call 26; (with_reducible refine HNX.out.mono ?_); rintro e w2 ⟨ga, gn, gc, rfl, HNN⟩)
              | (go_at_call 38; (with_reducible refine (HNN.out _).mono ?_); rintro e w5 ⟨rfl, ⟨o0, o1, o2, o3, o4⟩, HNP⟩))
            go_roundw
            case rel => exact ⟨j + 1, by have := HMJ.out; first | (rw [← this]; go_num; done) | (congr 1; omega), by omega, ⟨o0, o1, o2, o3, o4⟩, HNP⟩
            case measure => have := HMJ.out; simp [intOf]; omega
        · obtain rfl : j = 8 := by omega
          have t9 : decide ((49 : Int) < 57 - ((8 : Nat) : Int)) = false := by decide
          have hfin := HJ.out.fin 49 (by omega) HNO.out
          rw [norm_k] at hfin
          have HFIN := Lib.hid hfin
          clear hfin
          go_wp2_with (first
            | (go_at_call 38; (with_reducible refine HFIN.out.mono ?_); rintro e w5 ⟨rfl, ⟨o0, o1, o2, o3, o4⟩, HF2⟩)
            | (go_at_call 38; (with_reducible refine HF2.out.mono ?_); rintro e w6 ⟨rfl, HAF⟩))
          go_ret
          rw [HPUT.out]
          exact ⟨rfl, HAF.out⟩

set_option maxHeartbeats 4000000 in
theorem rputYankQuote_any {P : Nat → Prop} {bx : Nat} {s : List Nm} (F : Nat → Prop) (k : Int) (a : Option Addr) (n c : Nat) (L : List (List Int)) (w : World) (h : RSt P w bx s) (hok : OkS s) (hr : RdL F w a n c L) (hs : sizeR L ≤ 1048576) (k0 : 0 ≤ k) (k2 : k ≤ 2) (hz : sizeR L ≤ 65536) :
    Calls Try.prog 16 #[.pointer (some ⟨bx, 0, none⟩), .int .i32 34, rgV k a n c, .bool false] w (PutA P bx s 34 ⟨k, L⟩ false w) := by
  show Calls _ _ #[.pointer (some ⟨bx, 0, none⟩), .int .i32 34, .agg #[.int .i64 k, .slice a n c], .bool false] w fun e w' => e = .returned (.int .i64 (putR s 34 ⟨k, L⟩ false).2) ∧ AfS P w w' bx (putR s 34 ⟨k, L⟩ false).1
  have hwf := lines_wfG hr
  obtain ⟨wb, hwb⟩ : ∃ wb, w.alloc (.cells #[.int .i64 k, .slice a n c] 31) = wb := ⟨_, rfl⟩
  have hsz : wb.heap.size = w.heap.size + 1 := by rw [← hwb]; simp
  have hB : Below w.heap.size w wb := by rw [← hwb]; exact (Below.refl _ w).alloc (Nat.le_refl _) _
  have hx : BoxS wb w.heap.size k a n c := by rw [← hwb]; exact BoxS.of (heap_alloc_new w _)
  have HSZ := Lib.hid (rsz_any F a n c L wb (hr.below hB) (by omega))
  have HT : Hid (Calls Try.prog 14 #[.agg #[.int .i64 k, .slice a n c]] wb fun e w1 => ∃ a1 c1, e = .returned (.agg #[.int .i64 k, .slice a1 n c1]) ∧ BoxS w1 w.heap.size k a n c ∧ BoxS ((w1.setCell ⟨w.heap.size, 0, none⟩ (.int .i64 k)).setCell ⟨w.heap.size, 1, none⟩ (.slice a1 n c1)) w.heap.size k a1 n c1 ∧
    Hid (¬ n = 0 → Hid (PutS P w ((w1.setCell ⟨w.heap.size, 0, none⟩ (.int .i64 k)).setCell ⟨w.heap.size, 1, none⟩ (.slice a1 n c1)) bx w.heap.size s (normR ⟨k, L⟩) a1 n c1 ∧ Below w.heap.size w ((w1.setCell ⟨w.heap.size, 0, none⟩ (.int .i64 k)).setCell ⟨w.heap.size, 1, none⟩ (.slice a1 n c1)))) ∧
    Hid (n = 0 → BoxS ((((w1.setCell ⟨w.heap.size, 0, none⟩ (.int .i64 k)).setCell ⟨w.heap.size, 1, none⟩ (.slice a1 n c1)).setCell ⟨w.heap.size, 1, none⟩ (.slice (some ⟨((w1.setCell ⟨w.heap.size, 0, none⟩ (.int .i64 k)).setCell ⟨w.heap.size, 1, none⟩ (.slice a1 n c1)).heap.size, 0, none⟩) 1 1)).alloc (.cells #[.slice none 0 0] 39)) w.heap.size k (some ⟨((w1.setCell ⟨w.heap.size, 0, none⟩ (.int .i64 k)).setCell ⟨w.heap.size, 1, none⟩ (.slice a1 n c1)).heap.size, 0, none⟩) 1 1 ∧ Hid (PutS P w ((((w1.setCell ⟨w.heap.size, 0, none⟩ (.int .i64 k)).setCell ⟨w.heap.size, 1, none⟩ (.slice a1 n c1)).setCell ⟨w.heap.size, 1, none⟩ (.slice (some ⟨((w1.setCell ⟨w.heap.size, 0, none⟩ (.int .i64 k)).setCell ⟨w.heap.size, 1, none⟩ (.slice a1 n c1)).heap.size, 0, none⟩) 1 1)).alloc (.cells #[.slice none 0 0] 39)) bx w.heap.size s (normR ⟨k, L⟩) (some ⟨((w1.setCell ⟨w.heap.size, 0, none⟩ (.int .i64 k)).setCell ⟨w.heap.size, 1, none⟩ (.slice a1 n c1)).heap.size, 0, none⟩) 1 1 ∧ Below w.heap.size w ((((w1.setCell ⟨w.heap.size, 0, none⟩ (.int .i64 k)).setCell ⟨w.heap.size, 1, none⟩ (.slice a1 n c1)).setCell ⟨w.heap.size, 1, none⟩ (.slice (some ⟨((w1.setCell ⟨w.heap.size, 0, none⟩ (.int .i64 k)).setCell ⟨w.heap.size, 1, none⟩ (.slice a1 n c1)).heap.size, 0, none⟩) 1 1)).alloc (.cells #[.slice none 0 0] 39))))) := by
    refine (rtwinR_any F k a n c L wb (hr.below hB) hs).mono ?_
    rintro e w1 ⟨a1, c1, rfl, hf, hb⟩
    exact ⟨a1, c1, rfl, hx.below (hb.mono (Nat.le_refl _)), put_box h hok hwb hf hb hwf⟩
  have HBIG : Hid (∀ c w, Calls Try.prog 24 #[.int .i32 c] w fun e w' => e = .returned (.bool (bigR c)) ∧ w' = w) := rbig_any
  have HLIT : Hid (∀ c w, Calls Try.prog 25 #[.int .i32 c] w fun e w' => e = .returned (.bool (littleR c)) ∧ w' = w) := rlittle_any
  have HB := Lib.hid (And.intro hB hsz)
  have HW := Lib.hid hwb
  have HH := Lib.hid (And.intro h hok)
  clear h hok hwb hB hr hwf hs hsz
  obtain ⟨b, hbe⟩ : ∃ b, w.heap.size = b := ⟨_, rfl⟩
  have HBE := Lib.hid hbe
  rw [hbe] at hx HT
  clear hbe
  obtain ⟨x0, x1, x2, x3, x4⟩ := hx
  have q1 : decide (k < 0) = false := by simp; omega
  have q2 : decide (2 < k) = false := by simp; omega
  have q3 : decide ((65536 : Int) < (sizeR L : Nat)) = false := by simp; omega
  have HNO := Lib.hid (norm_ok (r := ⟨k, L⟩) k0 k2 hz)
  have tb : bigR 34 = false := by decide
  have tl : littleR 34 = false := by decide
  have HPUT : Hid (putR s 34 ⟨k, L⟩ false = (finR s 48 (normR ⟨k, L⟩), 0)) := by
    have hbad : badR 34 ⟨k, L⟩ = false := by unfold badR; simp [bigR, littleR]; omega
    show _ = _
    unfold putR
    rw [hbad]
    simp [bigR, littleR]
  clear k0 k2 hz
  go_enter Try.func16, Try.ntmps16
  go_upto_region 1 with fail
  rw [HW.out, HBE.out]
  go_upto_region 4 with (first
    | (go_at_call 24; refine (HBIG.out _ _).mono ?_; rintro e wq ⟨rfl, hwq⟩; subst hwq; rw [tb])
    | (go_at_call 25; refine (HLIT.out _ _).mono ?_; rintro e wq ⟨rfl, hwq⟩; subst hwq; rw [tl])
    | (go_at_call 36; refine HSZ.out.mono ?_; rintro e wq ⟨rfl, hwq⟩; subst hwq)
    | (go_at_call 14; refine HT.out.mono ?_; rintro e w1 ⟨a1, c1, rfl, ⟨e0, e1, e2, e3, e4⟩, HS1⟩))
  obtain ⟨ws, hws⟩ : ∃ ws, (w1.setCell ⟨b, 0, none⟩ (.int .i64 k)).setCell ⟨b, 1, none⟩ (.slice a1 n c1) = ws := ⟨_, rfl⟩
  rw [hws] at HS1
  rw [hws]
  obtain ⟨⟨i0, i1, i2, i3, i4⟩, HS2, HE⟩ := HS1
  clear hws
  go_upto_if 56 with fail
  go_cut [9] (fun v9 wx => v9 = undef ∧ ∃ (a2 : Option Addr) (n2 c2 : Nat), BoxS wx b k a2 n2 c2 ∧ Hid (PutS P w wx bx b s (normR ⟨k, L⟩) a2 n2 c2 ∧ Below b w wx))
  case first =>
    by_cases hn0 : n = 0
    · have t0 : ((n : Int) == 0) = true := by simp [hn0]
      obtain ⟨⟨v0, v1, v2, v3, v4⟩, HE2⟩ := HE.out hn0
      clear hn0
      go_wp2
      go_meet
      exact ⟨rfl, _, _, _, ⟨v0, v1, v2, v3, v4⟩, HE2⟩
    · have t0 : ((n : Int) == 0) = false := by simp; omega
      go_wp2
      go_meet
      exact ⟨rfl, _, _, _, ⟨i0, i1, i2, i3, i4⟩, HS2.out hn0⟩
  case rest =>
    obtain ⟨rfl, a2, n2, c2, ⟨v0, v1, v2, v3, v4⟩, HPS⟩ := hcut
    have hfin := HPS.out.1.fin (48) (by omega) HNO.out
    rw [norm_k] at hfin
    have HFIN := Lib.hid hfin
    clear hfin
    go_wp2_with (first
      | (go_at_call 24; refine (HBIG.out _ _).mono ?_; rintro e wq ⟨rfl, hwq⟩; subst hwq; rw [tb])
      | (go_at_call 25; refine (HLIT.out _ _).mono ?_; rintro e wq ⟨rfl, hwq⟩; subst hwq; rw [tl])
      | (go_at_call 38; (with_reducible refine HFIN.out.mono ?_); rintro e w5 ⟨rfl, ⟨o0, o1, o2, o3, o4⟩, HF2⟩)
      | (go_at_call 38; (with_reducible refine HF2.out.mono ?_); rintro e w6 ⟨rfl, HAF⟩))
    go_ret
    rw [HPUT.out]
    exact ⟨rfl, HAF.out⟩

set_option maxHeartbeats 4000000 in
theorem rputOneQuote_any {P : Nat → Prop} {bx : Nat} {s : List Nm} (F : Nat → Prop) (k : Int) (a : Option Addr) (n c : Nat) (L : List (List Int)) (w : World) (h : RSt P w bx s) (hok : OkS s) (hr : RdL F w a n c L) (hs : sizeR L ≤ 1048576) (k0 : 0 ≤ k) (k2 : k ≤ 2) (hz : sizeR L ≤ 65536) (hk1 : k ≠ 1) (hln : ¬ 1 < (normR ⟨k, L⟩).L.length) :
    Calls Try.prog 16 #[.pointer (some ⟨bx, 0, none⟩), .int .i32 34, rgV k a n c, .bool true] w (PutA P bx s 34 ⟨k, L⟩ true w) := by
  show Calls _ _ #[.pointer (some ⟨bx, 0, none⟩), .int .i32 34, .agg #[.int .i64 k, .slice a n c], .bool true] w fun e w' => e = .returned (.int .i64 (putR s 34 ⟨k, L⟩ true).2) ∧ AfS P w w' bx (putR s 34 ⟨k, L⟩ true).1
  have hwf := lines_wfG hr
  obtain ⟨wb, hwb⟩ : ∃ wb, w.alloc (.cells #[.int .i64 k, .slice a n c] 31) = wb := ⟨_, rfl⟩
  have hsz : wb.heap.size = w.heap.size + 1 := by rw [← hwb]; simp
  have hB : Below w.heap.size w wb := by rw [← hwb]; exact (Below.refl _ w).alloc (Nat.le_refl _) _
  have hx : BoxS wb w.heap.size k a n c := by rw [← hwb]; exact BoxS.of (heap_alloc_new w _)
  have HSZ := Lib.hid (rsz_any F a n c L wb (hr.below hB) (by omega))
  have HT : Hid (Calls Try.prog 14 #[.agg #[.int .i64 k, .slice a n c]] wb fun e w1 => ∃ a1 c1, e = .returned (.agg #[.int .i64 k, .slice a1 n c1]) ∧ BoxS w1 w.heap.size k a n c ∧ BoxS ((w1.setCell ⟨w.heap.size, 0, none⟩ (.int .i64 k)).setCell ⟨w.heap.size, 1, none⟩ (.slice a1 n c1)) w.heap.size k a1 n c1 ∧
    Hid (¬ n = 0 → Hid (PutS P w ((w1.setCell ⟨w.heap.size, 0, none⟩ (.int .i64 k)).setCell ⟨w.heap.size, 1, none⟩ (.slice a1 n c1)) bx w.heap.size s (normR ⟨k, L⟩) a1 n c1 ∧ Below w.heap.size w ((w1.setCell ⟨w.heap.size, 0, none⟩ (.int .i64 k)).setCell ⟨w.heap.size, 1, none⟩ (.slice a1 n c1)))) ∧
    Hid (n = 0 → BoxS ((((w1.setCell ⟨w.heap.size, 0, none⟩ (.int .i64 k)).setCell ⟨w.heap.size, 1, none⟩ (.slice a1 n c1)).setCell ⟨w.heap.size, 1, none⟩ (.slice (some ⟨((w1.setCell ⟨w.heap.size, 0, none⟩ (.int .i64 k)).setCell ⟨w.heap.size, 1, none⟩ (.slice a1 n c1)).heap.size, 0, none⟩) 1 1)).alloc (.cells #[.slice none 0 0] 39)) w.heap.size k (some ⟨((w1.setCell ⟨w.heap.size, 0, none⟩ (.int .i64 k)).setCell ⟨w.heap.size, 1, none⟩ (.slice a1 n c1)).heap.size, 0, none⟩) 1 1 ∧ Hid (PutS P w ((((w1.setCell ⟨w.heap.size, 0, none⟩ (.int .i64 k)).setCell ⟨w.heap.size, 1, none⟩ (.slice a1 n c1)).setCell ⟨w.heap.size, 1, none⟩ (.slice (some ⟨((w1.setCell ⟨w.heap.size, 0, none⟩ (.int .i64 k)).setCell ⟨w.heap.size, 1, none⟩ (.slice a1 n c1)).heap.size, 0, none⟩) 1 1)).alloc (.cells #[.slice none 0 0] 39)) bx w.heap.size s (normR ⟨k, L⟩) (some ⟨((w1.setCell ⟨w.heap.size, 0, none⟩ (.int .i64 k)).setCell ⟨w.heap.size, 1, none⟩ (.slice a1 n c1)).heap.size, 0, none⟩) 1 1 ∧ Below w.heap.size w ((((w1.setCell ⟨w.heap.size, 0, none⟩ (.int .i64 k)).setCell ⟨w.heap.size, 1, none⟩ (.slice a1 n c1)).setCell ⟨w.heap.size, 1, none⟩ (.slice (some ⟨((w1.setCell ⟨w.heap.size, 0, none⟩ (.int .i64 k)).setCell ⟨w.heap.size, 1, none⟩ (.slice a1 n c1)).heap.size, 0, none⟩) 1 1)).alloc (.cells #[.slice none 0 0] 39))))) := by
    refine (rtwinR_any F k a n c L wb (hr.below hB) hs).mono ?_
    rintro e w1 ⟨a1, c1, rfl, hf, hb⟩
    exact ⟨a1, c1, rfl, hx.below (hb.mono (Nat.le_refl _)), put_box h hok hwb hf hb hwf⟩
  have HBIG : Hid (∀ c w, Calls Try.prog 24 #[.int .i32 c] w fun e w' => e = .returned (.bool (bigR c)) ∧ w' = w) := rbig_any
  have HLIT : Hid (∀ c w, Calls Try.prog 25 #[.int .i32 c] w fun e w' => e = .returned (.bool (littleR c)) ∧ w' = w) := rlittle_any
  have HB := Lib.hid (And.intro hB hsz)
  have HW := Lib.hid hwb
  have HH := Lib.hid (And.intro h hok)
  clear h hok hwb hB hr hwf hs hsz
  obtain ⟨b, hbe⟩ : ∃ b, w.heap.size = b := ⟨_, rfl⟩
  have HBE := Lib.hid hbe
  rw [hbe] at hx HT
  clear hbe
  obtain ⟨x0, x1, x2, x3, x4⟩ := hx
  have q1 : decide (k < 0) = false := by simp; omega
  have q2 : decide (2 < k) = false := by simp; omega
  have q3 : decide ((65536 : Int) < (sizeR L : Nat)) = false := by simp; omega
  have HNO := Lib.hid (norm_ok (r := ⟨k, L⟩) k0 k2 hz)
  have tb : bigR 34 = false := by decide
  have tl : littleR 34 = false := by decide
  have HPUT : Hid (putR s 34 ⟨k, L⟩ true = (finR s 45 (normR ⟨k, L⟩), 0)) := by
    have hbad : badR 34 ⟨k, L⟩ = false := by unfold badR; simp [bigR, littleR]; omega
    have hd : ¬ ((normR ⟨k, L⟩).k = 1 ∨ 1 < (normR ⟨k, L⟩).L.length) := by rw [norm_k]; intro h; rcases h with h | h; exact hk1 h; exact hln h
    show _ = _
    unfold putR
    rw [hbad, if_neg (by simp), if_neg (by decide), if_neg (by decide), if_neg (by decide), if_neg (by decide), if_neg hd]
  have tk : (k == 1) = false := by simpa using hk1
  have HLN := Lib.hid hln
  clear k0 k2 hz hk1 hln
  go_enter Try.func16, Try.ntmps16
  go_upto_region 1 with fail
  rw [HW.out, HBE.out]
  go_upto_region 4 with (first
    | (go_at_call 24; refine (HBIG.out _ _).mono ?_; rintro e wq ⟨rfl, hwq⟩; subst hwq; rw [tb])
    | (go_at_call 25; refine (HLIT.out _ _).mono ?_; rintro e wq ⟨rfl, hwq⟩; subst hwq; rw [tl])
    | (go_at_call 36; refine HSZ.out.mono ?_; rintro e wq ⟨rfl, hwq⟩; subst hwq)
    | (go_at_call 14; refine HT.out.mono ?_; rintro e w1 ⟨a1, c1, rfl, ⟨e0, e1, e2, e3, e4⟩, HS1⟩))
  obtain ⟨ws, hws⟩ : ∃ ws, (w1.setCell ⟨b, 0, none⟩ (.int .i64 k)).setCell ⟨b, 1, none⟩ (.slice a1 n c1) = ws := ⟨_, rfl⟩
  rw [hws] at HS1
  rw [hws]
  obtain ⟨⟨i0, i1, i2, i3, i4⟩, HS2, HE⟩ := HS1
  clear hws
  go_upto_if 56 with fail
  go_cut [9] (fun v9 wx => v9 = undef ∧ ∃ (a2 : Option Addr) (n2 c2 : Nat), BoxS wx b k a2 n2 c2 ∧ Hid (PutS P w wx bx b s (normR ⟨k, L⟩) a2 n2 c2 ∧ Below b w wx))
  case first =>
    by_cases hn0 : n = 0
    · have t0 : ((n : Int) == 0) = true := by simp [hn0]
      obtain ⟨⟨v0, v1, v2, v3, v4⟩, HE2⟩ := HE.out hn0
      clear hn0
      go_wp2
      go_meet
      exact ⟨rfl, _, _, _, ⟨v0, v1, v2, v3, v4⟩, HE2⟩
    · have t0 : ((n : Int) == 0) = false := by simp; omega
      go_wp2
      go_meet
      exact ⟨rfl, _, _, _, ⟨i0, i1, i2, i3, i4⟩, HS2.out hn0⟩
  case rest =>
    obtain ⟨rfl, a2, n2, c2, ⟨v0, v1, v2, v3, v4⟩, HPS⟩ := hcut
    have hl2 : decide ((1 : Int) < (n2 : Int)) = false := by
      have h1 := HPS.out.1.rd.len
      have h2 := HLN.out
      simp
      omega
    have hfin := HPS.out.1.fin (45) (by omega) HNO.out
    rw [norm_k] at hfin
    have HFIN := Lib.hid hfin
    clear hfin
    go_wp2_with (first
      | (go_at_call 24; refine (HBIG.out _ _).mono ?_; rintro e wq ⟨rfl, hwq⟩; subst hwq; rw [tb])
      | (go_at_call 25; refine (HLIT.out _ _).mono ?_; rintro e wq ⟨rfl, hwq⟩; subst hwq; rw [tl])
      | (go_at_call 38; (with_reducible refine HFIN.out.mono ?_); rintro e w5 ⟨rfl, ⟨o0, o1, o2, o3, o4⟩, HF2⟩)
      | (go_at_call 38; (with_reducible refine HF2.out.mono ?_); rintro e w6 ⟨rfl, HAF⟩))
    go_ret
    rw [HPUT.out]
    exact ⟨rfl, HAF.out⟩

set_option maxHeartbeats 4000000 in
theorem rputManyQuote_any {P : Nat → Prop} {bx : Nat} {s : List Nm} (F : Nat → Prop) (k : Int) (a : Option Addr) (n c : Nat) (L : List (List Int)) (w : World) (h : RSt P w bx s) (hok : OkS s) (hr : RdL F w a n c L) (hs : sizeR L ≤ 1048576) (k0 : 0 ≤ k) (k2 : k ≤ 2) (hz : sizeR L ≤ 65536) (hmany : k = 1 ∨ 1 < (normR ⟨k, L⟩).L.length) :
    Calls Try.prog 16 #[.pointer (some ⟨bx, 0, none⟩), .int .i32 34, rgV k a n c, .bool true] w (PutA P bx s 34 ⟨k, L⟩ true w) := by
  show Calls _ _ #[.pointer (some ⟨bx, 0, none⟩), .int .i32 34, .agg #[.int .i64 k, .slice a n c], .bool true] w fun e w' => e = .returned (.int .i64 (putR s 34 ⟨k, L⟩ true).2) ∧ AfS P w w' bx (putR s 34 ⟨k, L⟩ true).1
  have hwf := lines_wfG hr
  obtain ⟨wb, hwb⟩ : ∃ wb, w.alloc (.cells #[.int .i64 k, .slice a n c] 31) = wb := ⟨_, rfl⟩
  have hsz : wb.heap.size = w.heap.size + 1 := by rw [← hwb]; simp
  have hB : Below w.heap.size w wb := by rw [← hwb]; exact (Below.refl _ w).alloc (Nat.le_refl _) _
  have hx : BoxS wb w.heap.size k a n c := by rw [← hwb]; exact BoxS.of (heap_alloc_new w _)
  have HSZ := Lib.hid (rsz_any F a n c L wb (hr.below hB) (by omega))
  have HT : Hid (Calls Try.prog 14 #[.agg #[.int .i64 k, .slice a n c]] wb fun e w1 => ∃ a1 c1, e = .returned (.agg #[.int .i64 k, .slice a1 n c1]) ∧ BoxS w1 w.heap.size k a n c ∧ BoxS ((w1.setCell ⟨w.heap.size, 0, none⟩ (.int .i64 k)).setCell ⟨w.heap.size, 1, none⟩ (.slice a1 n c1)) w.heap.size k a1 n c1 ∧
    Hid (¬ n = 0 → Hid (PutS P w ((w1.setCell ⟨w.heap.size, 0, none⟩ (.int .i64 k)).setCell ⟨w.heap.size, 1, none⟩ (.slice a1 n c1)) bx w.heap.size s (normR ⟨k, L⟩) a1 n c1 ∧ Below w.heap.size w ((w1.setCell ⟨w.heap.size, 0, none⟩ (.int .i64 k)).setCell ⟨w.heap.size, 1, none⟩ (.slice a1 n c1)))) ∧
    Hid (n = 0 → BoxS ((((w1.setCell ⟨w.heap.size, 0, none⟩ (.int .i64 k)).setCell ⟨w.heap.size, 1, none⟩ (.slice a1 n c1)).setCell ⟨w.heap.size, 1, none⟩ (.slice (some ⟨((w1.setCell ⟨w.heap.size, 0, none⟩ (.int .i64 k)).setCell ⟨w.heap.size, 1, none⟩ (.slice a1 n c1)).heap.size, 0, none⟩) 1 1)).alloc (.cells #[.slice none 0 0] 39)) w.heap.size k (some ⟨((w1.setCell ⟨w.heap.size, 0, none⟩ (.int .i64 k)).setCell ⟨w.heap.size, 1, none⟩ (.slice a1 n c1)).heap.size, 0, none⟩) 1 1 ∧ Hid (PutS P w ((((w1.setCell ⟨w.heap.size, 0, none⟩ (.int .i64 k)).setCell ⟨w.heap.size, 1, none⟩ (.slice a1 n c1)).setCell ⟨w.heap.size, 1, none⟩ (.slice (some ⟨((w1.setCell ⟨w.heap.size, 0, none⟩ (.int .i64 k)).setCell ⟨w.heap.size, 1, none⟩ (.slice a1 n c1)).heap.size, 0, none⟩) 1 1)).alloc (.cells #[.slice none 0 0] 39)) bx w.heap.size s (normR ⟨k, L⟩) (some ⟨((w1.setCell ⟨w.heap.size, 0, none⟩ (.int .i64 k)).setCell ⟨w.heap.size, 1, none⟩ (.slice a1 n c1)).heap.size, 0, none⟩) 1 1 ∧ Below w.heap.size w ((((w1.setCell ⟨w.heap.size, 0, none⟩ (.int .i64 k)).setCell ⟨w.heap.size, 1, none⟩ (.slice a1 n c1)).setCell ⟨w.heap.size, 1, none⟩ (.slice (some ⟨((w1.setCell ⟨w.heap.size, 0, none⟩ (.int .i64 k)).setCell ⟨w.heap.size, 1, none⟩ (.slice a1 n c1)).heap.size, 0, none⟩) 1 1)).alloc (.cells #[.slice none 0 0] 39))))) := by
    refine (rtwinR_any F k a n c L wb (hr.below hB) hs).mono ?_
    rintro e w1 ⟨a1, c1, rfl, hf, hb⟩
    exact ⟨a1, c1, rfl, hx.below (hb.mono (Nat.le_refl _)), put_box h hok hwb hf hb hwf⟩
  have HBIG : Hid (∀ c w, Calls Try.prog 24 #[.int .i32 c] w fun e w' => e = .returned (.bool (bigR c)) ∧ w' = w) := rbig_any
  have HLIT : Hid (∀ c w, Calls Try.prog 25 #[.int .i32 c] w fun e w' => e = .returned (.bool (littleR c)) ∧ w' = w) := rlittle_any
  have HB := Lib.hid (And.intro hB hsz)
  have HW := Lib.hid hwb
  have HH := Lib.hid (And.intro h hok)
  clear h hok hwb hB hr hwf hs hsz
  obtain ⟨b, hbe⟩ : ∃ b, w.heap.size = b := ⟨_, rfl⟩
  have HBE := Lib.hid hbe
  rw [hbe] at hx HT
  clear hbe
  obtain ⟨x0, x1, x2, x3, x4⟩ := hx
  have q1 : decide (k < 0) = false := by simp; omega
  have q2 : decide (2 < k) = false := by simp; omega
  have q3 : decide ((65536 : Int) < (sizeR L : Nat)) = false := by simp; omega
  have HNO := Lib.hid (norm_ok (r := ⟨k, L⟩) k0 k2 hz)
  have tb : bigR 34 = false := by decide
  have tl : littleR 34 = false := by decide
  have HPUT : Hid (putR s 34 ⟨k, L⟩ true = (finR (shiftR 8 s) 49 (normR ⟨k, L⟩), 0)) := by
    have hbad : badR 34 ⟨k, L⟩ = false := by unfold badR; simp [bigR, littleR]; omega
    have hd : (normR ⟨k, L⟩).k = 1 ∨ 1 < (normR ⟨k, L⟩).L.length := by rw [norm_k]; exact hmany
    show _ = _
    unfold putR
    rw [hbad, if_neg (by simp), if_neg (by decide), if_neg (by decide), if_neg (by decide), if_neg (by decide), if_pos hd]
  have HMANY := Lib.hid hmany
  clear k0 k2 hz hmany
  go_enter Try.func16, Try.ntmps16
  go_upto_region 1 with fail
  rw [HW.out, HBE.out]
  go_upto_region 4 with (first
    | (go_at_call 24; refine (HBIG.out _ _).mono ?_; rintro e wq ⟨rfl, hwq⟩; subst hwq; rw [tb])
    | (go_at_call 25; refine (HLIT.out _ _).mono ?_; rintro e wq ⟨rfl, hwq⟩; subst hwq; rw [tl])
    | (go_at_call 36; refine HSZ.out.mono ?_; rintro e wq ⟨rfl, hwq⟩; subst hwq)
    | (go_at_call 14; refine HT.out.mono ?_; rintro e w1 ⟨a1, c1, rfl, ⟨e0, e1, e2, e3, e4⟩, HS1⟩))
  obtain ⟨ws, hws⟩ : ∃ ws, (w1.setCell ⟨b, 0, none⟩ (.int .i64 k)).setCell ⟨b, 1, none⟩ (.slice a1 n c1) = ws := ⟨_, rfl⟩
  rw [hws] at HS1
  rw [hws]
  obtain ⟨⟨i0, i1, i2, i3, i4⟩, HS2, HE⟩ := HS1
  clear hws
  go_upto_if 56 with fail
  go_cut [9] (fun v9 wx => v9 = undef ∧ ∃ (a2 : Option Addr) (n2 c2 : Nat), BoxS wx b k a2 n2 c2 ∧ Hid (PutS P w wx bx b s (normR ⟨k, L⟩) a2 n2 c2 ∧ Below b w wx))
  case first =>
    by_cases hn0 : n = 0
    · have t0 : ((n : Int) == 0) = true := by simp [hn0]
      obtain ⟨⟨v0, v1, v2, v3, v4⟩, HE2⟩ := HE.out hn0
      clear hn0
      go_wp2
      go_meet
      exact ⟨rfl, _, _, _, ⟨v0, v1, v2, v3, v4⟩, HE2⟩
    · have t0 : ((n : Int) == 0) = false := by simp; omega
      go_wp2
      go_meet
      exact ⟨rfl, _, _, _, ⟨i0, i1, i2, i3, i4⟩, HS2.out hn0⟩
  case rest =>
    obtain ⟨rfl, a2, n2, c2, ⟨v0, v1, v2, v3, v4⟩, HPS⟩ := hcut
    by_cases hk1 : k = 1
    · have tk : (k == 1) = true := by simpa using hk1
      clear hk1
      go_wp2_with (first
        | (go_at_call 24; refine (HBIG.out _ _).mono ?_; rintro e wq ⟨rfl, hwq⟩; subst hwq; rw [tb])
        | (go_at_call 25; refine (HLIT.out _ _).mono ?_; rintro e wq ⟨rfl, hwq⟩; subst hwq; rw [tl]))
      go_loopw [12] (fun v wr => ∃ j : Nat, v = .int .i32 (57 - (j : Int)) ∧ j ≤ 8 ∧ BoxS wr b k a2 n2 c2 ∧ Hid (PutS P w wr bx b (shiftR j s) (normR ⟨k, L⟩) a2 n2 c2)) (fun v _ => (intOf v).toNat)
      case atStart => exact ⟨0, by simp, by omega, ⟨v0, v1, v2, v3, v4⟩, HPS.out.1⟩
      case round =>
        obtain ⟨j, rfl, hj, ⟨g0, g1, g2, g3, g4⟩, HJ⟩ := hrel
        by_cases hj8 : j < 8
        · have t9 : decide ((49 : Int) < 57 - (j : Int)) = true := by simp; omega
          have y9 : IntKind.i32.wrap (57 - (j : Int) - 1) = 57 - (j : Int) - 1 := by unfold IntKind.wrap; simp [IntKind.signed, IntKind.bits]; omega
          obtain ⟨m, hm⟩ : ∃ m : Int, 57 - (j : Int) = m := ⟨_, rfl⟩
          rw [hm] at t9 y9 ⊢
          have HMJ := Lib.hid hm
          cases ho : holdsR (shiftR j s) (m - 1) with
          | none =>
            have hnx := shift_none HJ.out hm ho
            rw [norm_k] at hnx
            have HNX := Lib.hid hnx
            clear ho hm hnx
            go_wp2_with (go_at_call 26; (with_reducible refine HNX.out.mono ?_); rintro e w2 ⟨rfl, HNN⟩)
            go_roundw
            case rel => exact ⟨j + 1, by have := HMJ.out; first | (rw [← this]; go_num; done) | (congr 1; omega), by omega, (HNN.out _).1, (HNN.out _).2⟩
            case measure => have := HMJ.out; simp [intOf]; omega
          | some g =>
            have hnx := shift_some HJ.out hm hj8 ho
            rw [norm_k] at hnx
            have HNX := Lib.hid hnx
            clear ho hm hnx
            obtain ⟨gk, gL⟩ := g
            go_wp2_with (first
              | (go_at_call 26; (with_reducible refine HNX.out.mono ?_); rintro e w2 ⟨ga, gn, gc, rfl, HNN⟩)
              | (go_at_call 38; (with_reducible refine (HNN.out _).mono ?_); rintro e w5 ⟨rfl, ⟨o0, o1, o2, o3, o4⟩, HNP⟩))
            go_roundw
            case rel => exact ⟨j + 1, by have := HMJ.out; first | (rw [← this]; go_num; done) | (congr 1; omega), by omega, ⟨o0, o1, o2, o3, o4⟩, HNP⟩
            case measure => have := HMJ.out; simp [intOf]; omega
        · obtain rfl : j = 8 := by omega
          have t9 : decide ((49 : Int) < 57 - ((8 : Nat) : Int)) = false := by decide
          have hfin := HJ.out.fin 49 (by omega) HNO.out
          rw [norm_k] at hfin
          have HFIN := Lib.hid hfin
          clear hfin
          go_wp2_with (first
            | (go_at_call 38; (with_reducible refine HFIN.out.mono ?_); rintro e w5 ⟨rfl, ⟨o0, o1, o2, o3, o4⟩, HF2⟩)
            | (go_at_call 38; (with_reducible refine HF2.out.mono ?_); rintro e w6 ⟨rfl, HAF⟩))
          go_ret
          rw [HPUT.out]
          exact ⟨rfl, HAF.out⟩
    · have tk : (k == 1) = false := by simpa using hk1
      have hl2 : decide ((1 : Int) < (n2 : Int)) = true := by
        have h1 := HPS.out.1.rd.len
        have h2 := HMANY.out
        simp
        omega
      go_wp2_with (first
        | (go_at_call 24; refine (HBIG.out _ _).mono ?_; rintro e wq ⟨rfl, hwq⟩; subst hwq; rw [tb])
        | (go_at_call 25; refine (HLIT.out _ _).mono ?_; rintro e wq ⟨rfl, hwq⟩; subst hwq; rw [tl]))
      go_loopw [12] (fun v wr => ∃ j : Nat, v = .int .i32 (57 - (j : Int)) ∧ j ≤ 8 ∧ BoxS wr b k a2 n2 c2 ∧ Hid (PutS P w wr bx b (shiftR j s) (normR ⟨k, L⟩) a2 n2 c2)) (fun v _ => (intOf v).toNat)
      case atStart => exact ⟨0, by simp, by omega, ⟨v0, v1, v2, v3, v4⟩, HPS.out.1⟩
      case round =>
        obtain ⟨j, rfl, hj, ⟨g0, g1, g2, g3, g4⟩, HJ⟩ := hrel
        by_cases hj8 : j < 8
        · have t9 : decide ((49 : Int) < 57 - (j : Int)) = true := by simp; omega
          have y9 : IntKind.i32.wrap (57 - (j : Int) - 1) = 57 - (j : Int) - 1 := by unfold IntKind.wrap; simp [IntKind.signed, IntKind.bits]; omega
          obtain ⟨m, hm⟩ : ∃ m : Int, 57 - (j : Int) = m := ⟨_, rfl⟩
          rw [hm] at t9 y9 ⊢
          have HMJ := Lib.hid hm
          cases ho : holdsR (shiftR j s) (m - 1) with
          | none =>
            have hnx := shift_none HJ.out hm ho
            rw [norm_k] at hnx
            have HNX := Lib.hid hnx
            clear ho hm hnx
            go_wp2_with (go_at_call 26; (with_reducible refine HNX.out.mono ?_); rintro e w2 ⟨rfl, HNN⟩)
            go_roundw
            case rel => exact ⟨j + 1, by have := HMJ.out; first | (rw [← this]; go_num; done) | (congr 1; omega), by omega, (HNN.out _).1, (HNN.out _).2⟩
            case measure => have := HMJ.out; simp [intOf]; omega
          | some g =>
            have hnx := shift_some HJ.out hm hj8 ho
            rw [norm_k] at hnx
            have HNX := Lib.hid hnx
            clear ho hm hnx
            obtain ⟨gk, gL⟩ := g
            go_wp2_with (first
              | (go_at_call 26; (with_reducible refine HNX.out.mono ?_); rintro e w2 ⟨ga, gn, gc, rfl, HNN⟩)
              | (go_at_call 38; (with_reducible refine (HNN.out _).mono ?_); rintro e w5 ⟨rfl, ⟨o0, o1, o2, o3, o4⟩, HNP⟩))
            go_roundw
            case rel => exact ⟨j + 1, by have := HMJ.out; first | (rw [← this]; go_num; done) | (congr 1; omega), by omega, ⟨o0, o1, o2, o3, o4⟩, HNP⟩
            case measure => have := HMJ.out; simp [intOf]; omega
        · obtain rfl : j = 8 := by omega
          have t9 : decide ((49 : Int) < 57 - ((8 : Nat) : Int)) = false := by decide
          have hfin := HJ.out.fin 49 (by omega) HNO.out
          rw [norm_k] at hfin
          have HFIN := Lib.hid hfin
          clear hfin
          go_wp2_with (first
            | (go_at_call 38; (with_reducible refine HFIN.out.mono ?_); rintro e w5 ⟨rfl, ⟨o0, o1, o2, o3, o4⟩, HF2⟩)
            | (go_at_call 38; (with_reducible refine HF2.out.mono ?_); rintro e w6 ⟨rfl, HAF⟩))
          go_ret
          rw [HPUT.out]
          exact ⟨rfl, HAF.out⟩

set_option maxHeartbeats 4000000 in
theorem rputBig_any {P : Nat → Prop} {bx : Nat} {s : List Nm} (F : Nat → Prop) (r k : Int) (a : Option Addr) (n c : Nat) (L : List (List Int)) (d : Bool) (w : World) (h : RSt P w bx s) (hok : OkS s) (hr : RdL F w a n c L) (hs : sizeR L ≤ 1048576) (k0 : 0 ≤ k) (k2 : k ≤ 2) (hz : sizeR L ≤ 65536) (hl : bigR r = true) :
    Calls Try.prog 16 #[.pointer (some ⟨bx, 0, none⟩), .int .i32 r, rgV k a n c, .bool d] w (PutA P bx s r ⟨k, L⟩ d w) := by
  show Calls _ _ #[.pointer (some ⟨bx, 0, none⟩), .int .i32 r, .agg #[.int .i64 k, .slice a n c], .bool d] w fun e w' => e = .returned (.int .i64 (putR s r ⟨k, L⟩ d).2) ∧ AfS P w w' bx (putR s r ⟨k, L⟩ d).1
  have hwf := lines_wfG hr
  obtain ⟨wb, hwb⟩ : ∃ wb, w.alloc (.cells #[.int .i64 k, .slice a n c] 31) = wb := ⟨_, rfl⟩
  have hsz : wb.heap.size = w.heap.size + 1 := by rw [← hwb]; simp
  have hB : Below w.heap.size w wb := by rw [← hwb]; exact (Below.refl _ w).alloc (Nat.le_refl _) _
  have hx : BoxS wb w.heap.size k a n c := by rw [← hwb]; exact BoxS.of (heap_alloc_new w _)
  have HSZ := Lib.hid (rsz_any F a n c L wb (hr.below hB) (by omega))
  have HT : Hid (Calls Try.prog 14 #[.agg #[.int .i64 k, .slice a n c]] wb fun e w1 => ∃ a1 c1, e = .returned (.agg #[.int .i64 k, .slice a1 n c1]) ∧ BoxS w1 w.heap.size k a n c ∧ BoxS ((w1.setCell ⟨w.heap.size, 0, none⟩ (.int .i64 k)).setCell ⟨w.heap.size, 1, none⟩ (.slice a1 n c1)) w.heap.size k a1 n c1 ∧
    Hid (¬ n = 0 → Hid (PutS P w ((w1.setCell ⟨w.heap.size, 0, none⟩ (.int .i64 k)).setCell ⟨w.heap.size, 1, none⟩ (.slice a1 n c1)) bx w.heap.size s (normR ⟨k, L⟩) a1 n c1 ∧ Below w.heap.size w ((w1.setCell ⟨w.heap.size, 0, none⟩ (.int .i64 k)).setCell ⟨w.heap.size, 1, none⟩ (.slice a1 n c1)))) ∧
    Hid (n = 0 → BoxS ((((w1.setCell ⟨w.heap.size, 0, none⟩ (.int .i64 k)).setCell ⟨w.heap.size, 1, none⟩ (.slice a1 n c1)).setCell ⟨w.heap.size, 1, none⟩ (.slice (some ⟨((w1.setCell ⟨w.heap.size, 0, none⟩ (.int .i64 k)).setCell ⟨w.heap.size, 1, none⟩ (.slice a1 n c1)).heap.size, 0, none⟩) 1 1)).alloc (.cells #[.slice none 0 0] 39)) w.heap.size k (some ⟨((w1.setCell ⟨w.heap.size, 0, none⟩ (.int .i64 k)).setCell ⟨w.heap.size, 1, none⟩ (.slice a1 n c1)).heap.size, 0, none⟩) 1 1 ∧ Hid (PutS P w ((((w1.setCell ⟨w.heap.size, 0, none⟩ (.int .i64 k)).setCell ⟨w.heap.size, 1, none⟩ (.slice a1 n c1)).setCell ⟨w.heap.size, 1, none⟩ (.slice (some ⟨((w1.setCell ⟨w.heap.size, 0, none⟩ (.int .i64 k)).setCell ⟨w.heap.size, 1, none⟩ (.slice a1 n c1)).heap.size, 0, none⟩) 1 1)).alloc (.cells #[.slice none 0 0] 39)) bx w.heap.size s (normR ⟨k, L⟩) (some ⟨((w1.setCell ⟨w.heap.size, 0, none⟩ (.int .i64 k)).setCell ⟨w.heap.size, 1, none⟩ (.slice a1 n c1)).heap.size, 0, none⟩) 1 1 ∧ Below w.heap.size w ((((w1.setCell ⟨w.heap.size, 0, none⟩ (.int .i64 k)).setCell ⟨w.heap.size, 1, none⟩ (.slice a1 n c1)).setCell ⟨w.heap.size, 1, none⟩ (.slice (some ⟨((w1.setCell ⟨w.heap.size, 0, none⟩ (.int .i64 k)).setCell ⟨w.heap.size, 1, none⟩ (.slice a1 n c1)).heap.size, 0, none⟩) 1 1)).alloc (.cells #[.slice none 0 0] 39))))) := by
    refine (rtwinR_any F k a n c L wb (hr.below hB) hs).mono ?_
    rintro e w1 ⟨a1, c1, rfl, hf, hb⟩
    exact ⟨a1, c1, rfl, hx.below (hb.mono (Nat.le_refl _)), put_box h hok hwb hf hb hwf⟩
  have HBIG : Hid (∀ c w, Calls Try.prog 24 #[.int .i32 c] w fun e w' => e = .returned (.bool (bigR c)) ∧ w' = w) := rbig_any
  have HLIT : Hid (∀ c w, Calls Try.prog 25 #[.int .i32 c] w fun e w' => e = .returned (.bool (littleR c)) ∧ w' = w) := rlittle_any
  have HB := Lib.hid (And.intro hB hsz)
  have HW := Lib.hid hwb
  have HH := Lib.hid (And.intro h hok)
  clear h hok hwb hB hr hwf hs hsz
  obtain ⟨b, hbe⟩ : ∃ b, w.heap.size = b := ⟨_, rfl⟩
  have HBE := Lib.hid hbe
  rw [hbe] at hx HT
  clear hbe
  obtain ⟨x0, x1, x2, x3, x4⟩ := hx
  have q1 : decide (k < 0) = false := by simp; omega
  have q2 : decide (2 < k) = false := by simp; omega
  have q3 : decide ((65536 : Int) < (sizeR L : Nat)) = false := by simp; omega
  have HNO := Lib.hid (norm_ok (r := ⟨k, L⟩) k0 k2 hz)
  have hl2 := hl
  unfold bigR at hl2
  simp only [Bool.and_eq_true, decide_eq_true_eq] at hl2
  have tb : bigR r = true := hl
  have hlt : littleR r = false := by unfold littleR; simp; omega
  have tl : littleR r = false := hlt
  have t1 : (r != 0) = true := by simp; omega
  have t2 : (r != 34) = true := by simp; omega
  have t3 : (r != 95) = true := by simp; omega
  have t4 : (r == 95) = false := by simp; omega
  have y1 : IntKind.i32.wrap (r - 65) = r - 65 := by unfold IntKind.wrap; simp [IntKind.signed, IntKind.bits]; omega
  have y2 : IntKind.i32.wrap (r - 65 + 97) = r + 32 := by unfold IntKind.wrap; simp [IntKind.signed, IntKind.bits]; omega
  have HPUT : Hid (putR s r ⟨k, L⟩ d = (if 65536 < sizeR (grownR s (r + 32) (normR ⟨k, L⟩)).L then (s, 3) else (finR s (r + 32) (grownR s (r + 32) (normR ⟨k, L⟩)), 0))) := by
    have hbad : badR r ⟨k, L⟩ = false := by unfold badR; rw [hl]; simp; omega
    show _ = _
    unfold putR
    rw [hbad, hl, if_neg (by simp), if_neg (by omega), if_pos rfl]
  clear hl hlt k0 k2 hz
  go_enter Try.func16, Try.ntmps16
  go_upto_region 1 with fail
  rw [HW.out, HBE.out]
  go_upto_region 4 with (first
    | (go_at_call 24; refine (HBIG.out _ _).mono ?_; rintro e wq ⟨rfl, hwq⟩; subst hwq; rw [tb])
    | (go_at_call 25; refine (HLIT.out _ _).mono ?_; rintro e wq ⟨rfl, hwq⟩; subst hwq; rw [tl])
    | (go_at_call 36; refine HSZ.out.mono ?_; rintro e wq ⟨rfl, hwq⟩; subst hwq)
    | (go_at_call 14; refine HT.out.mono ?_; rintro e w1 ⟨a1, c1, rfl, ⟨e0, e1, e2, e3, e4⟩, HS1⟩))
  obtain ⟨ws, hws⟩ : ∃ ws, (w1.setCell ⟨b, 0, none⟩ (.int .i64 k)).setCell ⟨b, 1, none⟩ (.slice a1 n c1) = ws := ⟨_, rfl⟩
  rw [hws] at HS1
  rw [hws]
  obtain ⟨⟨i0, i1, i2, i3, i4⟩, HS2, HE⟩ := HS1
  clear hws
  go_upto_if 56 with fail
  go_cut [9] (fun v9 wx => v9 = undef ∧ ∃ (a2 : Option Addr) (n2 c2 : Nat), BoxS wx b k a2 n2 c2 ∧ Hid (PutS P w wx bx b s (normR ⟨k, L⟩) a2 n2 c2 ∧ Below b w wx))
  case first =>
    by_cases hn0 : n = 0
    · have t0 : ((n : Int) == 0) = true := by simp [hn0]
      obtain ⟨⟨v0, v1, v2, v3, v4⟩, HE2⟩ := HE.out hn0
      clear hn0
      go_wp2
      go_meet
      exact ⟨rfl, _, _, _, ⟨v0, v1, v2, v3, v4⟩, HE2⟩
    · have t0 : ((n : Int) == 0) = false := by simp; omega
      go_wp2
      go_meet
      exact ⟨rfl, _, _, _, ⟨i0, i1, i2, i3, i4⟩, HS2.out hn0⟩
  case rest =>
    obtain ⟨rfl, a2, n2, c2, ⟨v0, v1, v2, v3, v4⟩, HPS⟩ := hcut
    cases ho : holdsR s (r + 32) with
    | none =>
      have hgr : grownR s (r + 32) (normR ⟨k, L⟩) = normR ⟨k, L⟩ := by unfold grownR; rw [ho]
      have hno := HNO.out
      have hnx := grow_none HPS.out.1 hno (m := r + 32) (by omega) ho
      rw [norm_k] at hnx
      rw [hgr, if_neg (by have := hno.2.2.2; omega)] at HPUT
      obtain ⟨sz, hsz⟩ : ∃ sz, sizeR (normR ⟨k, L⟩).L = sz := ⟨_, rfl⟩
      have q4 : decide ((65536 : Int) < (sz : Nat)) = false := by have := hno.2.2.2; simp; omega
      rw [hsz] at hnx
      have HNX := Lib.hid hnx
      clear ho hgr hno hnx hsz
      go_wp2_with (first
        | (go_at_call 24; refine (HBIG.out _ _).mono ?_; rintro e wq ⟨rfl, hwq⟩; subst hwq; rw [tb])
        | (go_at_call 26; (with_reducible refine HNX.out.mono ?_); rintro e w2 ⟨rfl, ⟨m0, m1, m2, m3, m4⟩, HZ, HNN⟩)
        | (go_at_call 36; refine (HZ.out _).mono ?_; rintro e wq ⟨rfl, hwq⟩; subst hwq)
        | (go_at_call 38; (with_reducible refine (HNN.out _).mono ?_); rintro e w5 ⟨rfl, ⟨o0, o1, o2, o3, o4⟩, HF2⟩)
        | (go_at_call 38; (with_reducible refine HF2.out.mono ?_); rintro e w6 ⟨rfl, HAF⟩))
      go_ret
      rw [HPUT.out]
      exact ⟨rfl, HAF.out⟩
    | some g =>
      have hgr : grownR s (r + 32) (normR ⟨k, L⟩) = joinR g (normR ⟨k, L⟩) := by unfold grownR; rw [ho]
      have hno := HNO.out
      have hnx := grow_some HH.out.1 HPS.out.1 (by have := HPS.out.2; rw [← HBE.out] at this; exact this) HBE.out hno (m := r + 32) (by omega) ho
      have hJ := join_size (a := g) (b := normR ⟨k, L⟩) (HH.out.2.holds ho).2.2.1 hno.2.2.1
      rw [norm_k] at hnx
      rw [hgr] at HPUT
      obtain ⟨J, hJe⟩ : ∃ J, joinR g (normR ⟨k, L⟩) = J := ⟨_, rfl⟩
      rw [hJe] at hnx HPUT hJ
      obtain ⟨gk, gL⟩ := g
      obtain ⟨jk, jL⟩ := J
      obtain ⟨sz, hsz⟩ : ∃ sz, sizeR jL = sz := ⟨_, rfl⟩
      by_cases hfull : 65536 < sz
      · have q4 : decide ((65536 : Int) < (sz : Nat)) = true := by simp; omega
        rw [if_pos (by rw [hsz]; exact hfull)] at HPUT
        simp only [hsz] at hnx
        have HNX := Lib.hid hnx
        clear ho hgr hno hnx hsz hJ hJe hfull
        go_wp2_with (first
          | (go_at_call 24; refine (HBIG.out _ _).mono ?_; rintro e wq ⟨rfl, hwq⟩; subst hwq; rw [tb])
          | (go_at_call 26; (with_reducible refine HNX.out.mono ?_); rintro e w2 ⟨ga, gn, gc, rfl, ⟨m0, m1, m2, m3, m4⟩, HJJ⟩)
          | (go_at_call 37; (with_reducible refine (HJJ.out _).mono ?_); rintro e w3 ⟨ja, jn, jc, rfl, ⟨p0, p1, p2, p3, p4⟩, ⟨r0, r1, r2, r3, r4⟩, HZ, HAS, HFN⟩)
          | (go_at_call 36; refine HZ.out.mono ?_; rintro e wq ⟨rfl, hwq⟩; subst hwq))
        go_ret
        rw [HPUT.out]
        exact ⟨rfl, HAS.out⟩
      · have q4 : decide ((65536 : Int) < (sz : Nat)) = false := by simp; omega
        rw [if_neg (by rw [hsz]; exact hfull)] at HPUT
        have HJO : Hid (Rg.ok ⟨jk, jL⟩) := ⟨hJ.2.2.1, hJ.2.2.2, hJ.2.1, by simp only; omega⟩
        simp only [hsz] at hnx
        have HNX := Lib.hid hnx
        clear ho hgr hno hnx hsz hJ hJe hfull
        go_wp2_with (first
          | (go_at_call 24; refine (HBIG.out _ _).mono ?_; rintro e wq ⟨rfl, hwq⟩; subst hwq; rw [tb])
          | (go_at_call 26; (with_reducible refine HNX.out.mono ?_); rintro e w2 ⟨ga, gn, gc, rfl, ⟨m0, m1, m2, m3, m4⟩, HJJ⟩)
          | (go_at_call 37; (with_reducible refine (HJJ.out _).mono ?_); rintro e w3 ⟨ja, jn, jc, rfl, ⟨p0, p1, p2, p3, p4⟩, ⟨r0, r1, r2, r3, r4⟩, HZ, HAS, HFN⟩)
          | (go_at_call 36; refine HZ.out.mono ?_; rintro e wq ⟨rfl, hwq⟩; subst hwq)
          | (go_at_call 38; (with_reducible refine (HFN.out HJO.out).mono ?_); rintro e w5 ⟨rfl, ⟨o0, o1, o2, o3, o4⟩, HF2⟩)
          | (go_at_call 38; (with_reducible refine HF2.out.mono ?_); rintro e w6 ⟨rfl, HAF⟩))
        go_ret
        rw [HPUT.out]
        exact ⟨rfl, HAF.out⟩

set_option maxHeartbeats 4000000 in
theorem rputBad_any {P : Nat → Prop} {bx : Nat} {s : List Nm} (F : Nat → Prop) (r k : Int) (a : Option Addr) (n c : Nat) (L : List (List Int)) (d : Bool) (w : World) (h : RSt P w bx s) (hok : OkS s) (hr : RdL F w a n c L) (hs : sizeR L ≤ 1048576) (hbad : badR r ⟨k, L⟩ = true) :
    Calls Try.prog 16 #[.pointer (some ⟨bx, 0, none⟩), .int .i32 r, rgV k a n c, .bool d] w (PutA P bx s r ⟨k, L⟩ d w) := by
  show Calls _ _ #[.pointer (some ⟨bx, 0, none⟩), .int .i32 r, .agg #[.int .i64 k, .slice a n c], .bool d] w fun e w' => e = .returned (.int .i64 (putR s r ⟨k, L⟩ d).2) ∧ AfS P w w' bx (putR s r ⟨k, L⟩ d).1
  have hwf := lines_wfG hr
  obtain ⟨wb, hwb⟩ : ∃ wb, w.alloc (.cells #[.int .i64 k, .slice a n c] 31) = wb := ⟨_, rfl⟩
  have hsz : wb.heap.size = w.heap.size + 1 := by rw [← hwb]; simp
  have hB : Below w.heap.size w wb := by rw [← hwb]; exact (Below.refl _ w).alloc (Nat.le_refl _) _
  have hx : BoxS wb w.heap.size k a n c := by rw [← hwb]; exact BoxS.of (heap_alloc_new w _)
  have HSZ := Lib.hid (rsz_any F a n c L wb (hr.below hB) (by omega))
  have HT : Hid (Calls Try.prog 14 #[.agg #[.int .i64 k, .slice a n c]] wb fun e w1 => ∃ a1 c1, e = .returned (.agg #[.int .i64 k, .slice a1 n c1]) ∧ BoxS w1 w.heap.size k a n c ∧ BoxS ((w1.setCell ⟨w.heap.size, 0, none⟩ (.int .i64 k)).setCell ⟨w.heap.size, 1, none⟩ (.slice a1 n c1)) w.heap.size k a1 n c1 ∧
    Hid (¬ n = 0 → Hid (PutS P w ((w1.setCell ⟨w.heap.size, 0, none⟩ (.int .i64 k)).setCell ⟨w.heap.size, 1, none⟩ (.slice a1 n c1)) bx w.heap.size s (normR ⟨k, L⟩) a1 n c1 ∧ Below w.heap.size w ((w1.setCell ⟨w.heap.size, 0, none⟩ (.int .i64 k)).setCell ⟨w.heap.size, 1, none⟩ (.slice a1 n c1)))) ∧
    Hid (n = 0 → BoxS ((((w1.setCell ⟨w.heap.size, 0, none⟩ (.int .i64 k)).setCell ⟨w.heap.size, 1, none⟩ (.slice a1 n c1)).setCell ⟨w.heap.size, 1, none⟩ (.slice (some ⟨((w1.setCell ⟨w.heap.size, 0, none⟩ (.int .i64 k)).setCell ⟨w.heap.size, 1, none⟩ (.slice a1 n c1)).heap.size, 0, none⟩) 1 1)).alloc (.cells #[.slice none 0 0] 39)) w.heap.size k (some ⟨((w1.setCell ⟨w.heap.size, 0, none⟩ (.int .i64 k)).setCell ⟨w.heap.size, 1, none⟩ (.slice a1 n c1)).heap.size, 0, none⟩) 1 1 ∧ Hid (PutS P w ((((w1.setCell ⟨w.heap.size, 0, none⟩ (.int .i64 k)).setCell ⟨w.heap.size, 1, none⟩ (.slice a1 n c1)).setCell ⟨w.heap.size, 1, none⟩ (.slice (some ⟨((w1.setCell ⟨w.heap.size, 0, none⟩ (.int .i64 k)).setCell ⟨w.heap.size, 1, none⟩ (.slice a1 n c1)).heap.size, 0, none⟩) 1 1)).alloc (.cells #[.slice none 0 0] 39)) bx w.heap.size s (normR ⟨k, L⟩) (some ⟨((w1.setCell ⟨w.heap.size, 0, none⟩ (.int .i64 k)).setCell ⟨w.heap.size, 1, none⟩ (.slice a1 n c1)).heap.size, 0, none⟩) 1 1 ∧ Below w.heap.size w ((((w1.setCell ⟨w.heap.size, 0, none⟩ (.int .i64 k)).setCell ⟨w.heap.size, 1, none⟩ (.slice a1 n c1)).setCell ⟨w.heap.size, 1, none⟩ (.slice (some ⟨((w1.setCell ⟨w.heap.size, 0, none⟩ (.int .i64 k)).setCell ⟨w.heap.size, 1, none⟩ (.slice a1 n c1)).heap.size, 0, none⟩) 1 1)).alloc (.cells #[.slice none 0 0] 39))))) := by
    refine (rtwinR_any F k a n c L wb (hr.below hB) hs).mono ?_
    rintro e w1 ⟨a1, c1, rfl, hf, hb⟩
    exact ⟨a1, c1, rfl, hx.below (hb.mono (Nat.le_refl _)), put_box h hok hwb hf hb hwf⟩
  have HBIG : Hid (∀ c w, Calls Try.prog 24 #[.int .i32 c] w fun e w' => e = .returned (.bool (bigR c)) ∧ w' = w) := rbig_any
  have HLIT : Hid (∀ c w, Calls Try.prog 25 #[.int .i32 c] w fun e w' => e = .returned (.bool (littleR c)) ∧ w' = w) := rlittle_any
  have HB := Lib.hid (And.intro hB hsz)
  have HW := Lib.hid hwb
  have HH := Lib.hid (And.intro h hok)
  clear h hok hwb hB hr hwf hs hsz
  obtain ⟨b, hbe⟩ : ∃ b, w.heap.size = b := ⟨_, rfl⟩
  have HBE := Lib.hid hbe
  rw [hbe] at hx HT
  clear hbe
  obtain ⟨x0, x1, x2, x3, x4⟩ := hx
  have HPUT : Hid (putR s r ⟨k, L⟩ d = (s, 1)) := by
    show _ = _
    unfold putR
    rw [if_pos hbad]
  unfold badR at hbad
  by_cases h0 : r = 0
  · subst h0
    have tb : bigR 0 = false := by decide
    have tl : littleR 0 = false := by decide
    by_cases k0 : k < 0
    · have q1 : decide (k < 0) = true := by simpa using k0
      clear k0 hbad
      go_enter Try.func16, Try.ntmps16
      go_upto_region 1 with fail
      rw [HW.out, HBE.out]
      go_wp2_with (first
        | (go_at_call 24; refine (HBIG.out _ _).mono ?_; rintro e wq ⟨rfl, hwq⟩; subst hwq; rw [tb])
        | (go_at_call 25; refine (HLIT.out _ _).mono ?_; rintro e wq ⟨rfl, hwq⟩; subst hwq; rw [tl])
        | (go_at_call 36; refine HSZ.out.mono ?_; rintro e wq ⟨rfl, hwq⟩; subst hwq))
      go_ret
      rw [HPUT.out]
      exact ⟨rfl, HH.out.1.same HB.out.1⟩
    have q1 : decide (k < 0) = false := by simpa using k0
    by_cases k2 : 2 < k
    · have q2 : decide (2 < k) = true := by simpa using k2
      clear k0 k2 hbad
      go_enter Try.func16, Try.ntmps16
      go_upto_region 1 with fail
      rw [HW.out, HBE.out]
      go_wp2_with (first
        | (go_at_call 24; refine (HBIG.out _ _).mono ?_; rintro e wq ⟨rfl, hwq⟩; subst hwq; rw [tb])
        | (go_at_call 25; refine (HLIT.out _ _).mono ?_; rintro e wq ⟨rfl, hwq⟩; subst hwq; rw [tl])
        | (go_at_call 36; refine HSZ.out.mono ?_; rintro e wq ⟨rfl, hwq⟩; subst hwq))
      go_ret
      rw [HPUT.out]
      exact ⟨rfl, HH.out.1.same HB.out.1⟩
    have q2 : decide (2 < k) = false := by simpa using k2
    by_cases hz : 65536 < sizeR L
    · have q3 : decide ((65536 : Int) < (sizeR L : Nat)) = true := by simp; omega
      clear k0 k2 hz hbad
      go_enter Try.func16, Try.ntmps16
      go_upto_region 1 with fail
      rw [HW.out, HBE.out]
      go_wp2_with (first
        | (go_at_call 24; refine (HBIG.out _ _).mono ?_; rintro e wq ⟨rfl, hwq⟩; subst hwq; rw [tb])
        | (go_at_call 25; refine (HLIT.out _ _).mono ?_; rintro e wq ⟨rfl, hwq⟩; subst hwq; rw [tl])
        | (go_at_call 36; refine HSZ.out.mono ?_; rintro e wq ⟨rfl, hwq⟩; subst hwq))
      go_ret
      rw [HPUT.out]
      exact ⟨rfl, HH.out.1.same HB.out.1⟩
    exfalso
    simp [littleR, bigR, k0, k2, hz] at hbad
  have t0 : (r != 0) = true := by simpa using h0
  by_cases h34 : r = 34
  · subst h34
    have tb : bigR 34 = false := by decide
    have tl : littleR 34 = false := by decide
    by_cases k0 : k < 0
    · have q1 : decide (k < 0) = true := by simpa using k0
      clear k0 hbad
      go_enter Try.func16, Try.ntmps16
      go_upto_region 1 with fail
      rw [HW.out, HBE.out]
      go_wp2_with (first
        | (go_at_call 24; refine (HBIG.out _ _).mono ?_; rintro e wq ⟨rfl, hwq⟩; subst hwq; rw [tb])
        | (go_at_call 25; refine (HLIT.out _ _).mono ?_; rintro e wq ⟨rfl, hwq⟩; subst hwq; rw [tl])
        | (go_at_call 36; refine HSZ.out.mono ?_; rintro e wq ⟨rfl, hwq⟩; subst hwq))
      go_ret
      rw [HPUT.out]
      exact ⟨rfl, HH.out.1.same HB.out.1⟩
    have q1 : decide (k < 0) = false := by simpa using k0
    by_cases k2 : 2 < k
    · have q2 : decide (2 < k) = true := by simpa using k2
      clear k0 k2 hbad
      go_enter Try.func16, Try.ntmps16
      go_upto_region 1 with fail
      rw [HW.out, HBE.out]
      go_wp2_with (first
        | (go_at_call 24; refine (HBIG.out _ _).mono ?_; rintro e wq ⟨rfl, hwq⟩; subst hwq; rw [tb])
        | (go_at_call 25; refine (HLIT.out _ _).mono ?_; rintro e wq ⟨rfl, hwq⟩; subst hwq; rw [tl])
        | (go_at_call 36; refine HSZ.out.mono ?_; rintro e wq ⟨rfl, hwq⟩; subst hwq))
      go_ret
      rw [HPUT.out]
      exact ⟨rfl, HH.out.1.same HB.out.1⟩
    have q2 : decide (2 < k) = false := by simpa using k2
    by_cases hz : 65536 < sizeR L
    · have q3 : decide ((65536 : Int) < (sizeR L : Nat)) = true := by simp; omega
      clear k0 k2 hz hbad
      go_enter Try.func16, Try.ntmps16
      go_upto_region 1 with fail
      rw [HW.out, HBE.out]
      go_wp2_with (first
        | (go_at_call 24; refine (HBIG.out _ _).mono ?_; rintro e wq ⟨rfl, hwq⟩; subst hwq; rw [tb])
        | (go_at_call 25; refine (HLIT.out _ _).mono ?_; rintro e wq ⟨rfl, hwq⟩; subst hwq; rw [tl])
        | (go_at_call 36; refine HSZ.out.mono ?_; rintro e wq ⟨rfl, hwq⟩; subst hwq))
      go_ret
      rw [HPUT.out]
      exact ⟨rfl, HH.out.1.same HB.out.1⟩
    exfalso
    simp [littleR, bigR, k0, k2, hz] at hbad
  have t34 : (r != 34) = true := by simpa using h34
  by_cases h95 : r = 95
  · subst h95
    have tb : bigR 95 = false := by decide
    have tl : littleR 95 = false := by decide
    by_cases k0 : k < 0
    · have q1 : decide (k < 0) = true := by simpa using k0
      clear k0 hbad
      go_enter Try.func16, Try.ntmps16
      go_upto_region 1 with fail
      rw [HW.out, HBE.out]
      go_wp2_with (first
        | (go_at_call 24; refine (HBIG.out _ _).mono ?_; rintro e wq ⟨rfl, hwq⟩; subst hwq; rw [tb])
        | (go_at_call 25; refine (HLIT.out _ _).mono ?_; rintro e wq ⟨rfl, hwq⟩; subst hwq; rw [tl])
        | (go_at_call 36; refine HSZ.out.mono ?_; rintro e wq ⟨rfl, hwq⟩; subst hwq))
      go_ret
      rw [HPUT.out]
      exact ⟨rfl, HH.out.1.same HB.out.1⟩
    have q1 : decide (k < 0) = false := by simpa using k0
    by_cases k2 : 2 < k
    · have q2 : decide (2 < k) = true := by simpa using k2
      clear k0 k2 hbad
      go_enter Try.func16, Try.ntmps16
      go_upto_region 1 with fail
      rw [HW.out, HBE.out]
      go_wp2_with (first
        | (go_at_call 24; refine (HBIG.out _ _).mono ?_; rintro e wq ⟨rfl, hwq⟩; subst hwq; rw [tb])
        | (go_at_call 25; refine (HLIT.out _ _).mono ?_; rintro e wq ⟨rfl, hwq⟩; subst hwq; rw [tl])
        | (go_at_call 36; refine HSZ.out.mono ?_; rintro e wq ⟨rfl, hwq⟩; subst hwq))
      go_ret
      rw [HPUT.out]
      exact ⟨rfl, HH.out.1.same HB.out.1⟩
    have q2 : decide (2 < k) = false := by simpa using k2
    by_cases hz : 65536 < sizeR L
    · have q3 : decide ((65536 : Int) < (sizeR L : Nat)) = true := by simp; omega
      clear k0 k2 hz hbad
      go_enter Try.func16, Try.ntmps16
      go_upto_region 1 with fail
      rw [HW.out, HBE.out]
      go_wp2_with (first
        | (go_at_call 24; refine (HBIG.out _ _).mono ?_; rintro e wq ⟨rfl, hwq⟩; subst hwq; rw [tb])
        | (go_at_call 25; refine (HLIT.out _ _).mono ?_; rintro e wq ⟨rfl, hwq⟩; subst hwq; rw [tl])
        | (go_at_call 36; refine HSZ.out.mono ?_; rintro e wq ⟨rfl, hwq⟩; subst hwq))
      go_ret
      rw [HPUT.out]
      exact ⟨rfl, HH.out.1.same HB.out.1⟩
    exfalso
    simp [littleR, bigR, k0, k2, hz] at hbad
  have t95 : (r != 95) = true := by simpa using h95
  by_cases hl : littleR r = true
  · have tl : littleR r = true := hl
    by_cases k0 : k < 0
    · have q1 : decide (k < 0) = true := by simpa using k0
      clear k0 hbad hl h0 h34 h95
      go_enter Try.func16, Try.ntmps16
      go_upto_region 1 with fail
      rw [HW.out, HBE.out]
      go_wp2_with (first
        | (go_at_call 24; refine (HBIG.out _ _).mono ?_; rintro e wq ⟨rfl, hwq⟩; subst hwq; rw [tb])
        | (go_at_call 25; refine (HLIT.out _ _).mono ?_; rintro e wq ⟨rfl, hwq⟩; subst hwq; rw [tl])
        | (go_at_call 36; refine HSZ.out.mono ?_; rintro e wq ⟨rfl, hwq⟩; subst hwq))
      go_ret
      rw [HPUT.out]
      exact ⟨rfl, HH.out.1.same HB.out.1⟩
    have q1 : decide (k < 0) = false := by simpa using k0
    by_cases k2 : 2 < k
    · have q2 : decide (2 < k) = true := by simpa using k2
      clear k0 k2 hbad hl h0 h34 h95
      go_enter Try.func16, Try.ntmps16
      go_upto_region 1 with fail
      rw [HW.out, HBE.out]
      go_wp2_with (first
        | (go_at_call 24; refine (HBIG.out _ _).mono ?_; rintro e wq ⟨rfl, hwq⟩; subst hwq; rw [tb])
        | (go_at_call 25; refine (HLIT.out _ _).mono ?_; rintro e wq ⟨rfl, hwq⟩; subst hwq; rw [tl])
        | (go_at_call 36; refine HSZ.out.mono ?_; rintro e wq ⟨rfl, hwq⟩; subst hwq))
      go_ret
      rw [HPUT.out]
      exact ⟨rfl, HH.out.1.same HB.out.1⟩
    have q2 : decide (2 < k) = false := by simpa using k2
    by_cases hz : 65536 < sizeR L
    · have q3 : decide ((65536 : Int) < (sizeR L : Nat)) = true := by simp; omega
      clear k0 k2 hz hbad hl h0 h34 h95
      go_enter Try.func16, Try.ntmps16
      go_upto_region 1 with fail
      rw [HW.out, HBE.out]
      go_wp2_with (first
        | (go_at_call 24; refine (HBIG.out _ _).mono ?_; rintro e wq ⟨rfl, hwq⟩; subst hwq; rw [tb])
        | (go_at_call 25; refine (HLIT.out _ _).mono ?_; rintro e wq ⟨rfl, hwq⟩; subst hwq; rw [tl])
        | (go_at_call 36; refine HSZ.out.mono ?_; rintro e wq ⟨rfl, hwq⟩; subst hwq))
      go_ret
      rw [HPUT.out]
      exact ⟨rfl, HH.out.1.same HB.out.1⟩
    exfalso
    simp [hl, k0, k2, hz] at hbad
  have tl : littleR r = false := by simpa using hl
  by_cases hbg : bigR r = true
  · have tb : bigR r = true := hbg
    by_cases k0 : k < 0
    · have q1 : decide (k < 0) = true := by simpa using k0
      clear k0 hbad hl hbg h0 h34 h95
      go_enter Try.func16, Try.ntmps16
      go_upto_region 1 with fail
      rw [HW.out, HBE.out]
      go_wp2_with (first
        | (go_at_call 24; refine (HBIG.out _ _).mono ?_; rintro e wq ⟨rfl, hwq⟩; subst hwq; rw [tb])
        | (go_at_call 25; refine (HLIT.out _ _).mono ?_; rintro e wq ⟨rfl, hwq⟩; subst hwq; rw [tl])
        | (go_at_call 36; refine HSZ.out.mono ?_; rintro e wq ⟨rfl, hwq⟩; subst hwq))
      go_ret
      rw [HPUT.out]
      exact ⟨rfl, HH.out.1.same HB.out.1⟩
    have q1 : decide (k < 0) = false := by simpa using k0
    by_cases k2 : 2 < k
    · have q2 : decide (2 < k) = true := by simpa using k2
      clear k0 k2 hbad hl hbg h0 h34 h95
      go_enter Try.func16, Try.ntmps16
      go_upto_region 1 with fail
      rw [HW.out, HBE.out]
      go_wp2_with (first
        | (go_at_call 24; refine (HBIG.out _ _).mono ?_; rintro e wq ⟨rfl, hwq⟩; subst hwq; rw [tb])
        | (go_at_call 25; refine (HLIT.out _ _).mono ?_; rintro e wq ⟨rfl, hwq⟩; subst hwq; rw [tl])
        | (go_at_call 36; refine HSZ.out.mono ?_; rintro e wq ⟨rfl, hwq⟩; subst hwq))
      go_ret
      rw [HPUT.out]
      exact ⟨rfl, HH.out.1.same HB.out.1⟩
    have q2 : decide (2 < k) = false := by simpa using k2
    by_cases hz : 65536 < sizeR L
    · have q3 : decide ((65536 : Int) < (sizeR L : Nat)) = true := by simp; omega
      clear k0 k2 hz hbad hl hbg h0 h34 h95
      go_enter Try.func16, Try.ntmps16
      go_upto_region 1 with fail
      rw [HW.out, HBE.out]
      go_wp2_with (first
        | (go_at_call 24; refine (HBIG.out _ _).mono ?_; rintro e wq ⟨rfl, hwq⟩; subst hwq; rw [tb])
        | (go_at_call 25; refine (HLIT.out _ _).mono ?_; rintro e wq ⟨rfl, hwq⟩; subst hwq; rw [tl])
        | (go_at_call 36; refine HSZ.out.mono ?_; rintro e wq ⟨rfl, hwq⟩; subst hwq))
      go_ret
      rw [HPUT.out]
      exact ⟨rfl, HH.out.1.same HB.out.1⟩
    exfalso
    simp [hbg, k0, k2, hz] at hbad
  have tb : bigR r = false := by simpa using hbg
  clear hbad hl hbg h0 h34 h95
  go_enter Try.func16, Try.ntmps16
  go_upto_region 1 with fail
  rw [HW.out, HBE.out]
  go_wp2_with (first
    | (go_at_call 24; refine (HBIG.out _ _).mono ?_; rintro e wq ⟨rfl, hwq⟩; subst hwq; rw [tb])
    | (go_at_call 25; refine (HLIT.out _ _).mono ?_; rintro e wq ⟨rfl, hwq⟩; subst hwq; rw [tl])
    | (go_at_call 36; refine HSZ.out.mono ?_; rintro e wq ⟨rfl, hwq⟩; subst hwq))
  go_ret
  rw [HPUT.out]
  exact ⟨rfl, HH.out.1.same HB.out.1⟩


set_option maxHeartbeats 1000000 in
/-- the document's Put -/
theorem rputR_any {P : Nat → Prop} {bx : Nat} {s : List Nm} (F : Nat → Prop) (r k : Int) (a : Option Addr) (n c : Nat) (L : List (List Int)) (d : Bool) (w : World) (h : RSt P w bx s) (hok : OkS s) (hr : RdL F w a n c L) (hs : sizeR L ≤ 1048576) :
    Calls Try.prog 16 #[.pointer (some ⟨bx, 0, none⟩), .int .i32 r, rgV k a n c, .bool d] w (PutA P bx s r ⟨k, L⟩ d w) := by
  by_cases hbad : badR r ⟨k, L⟩ = true
  · exact rputBad_any F r k a n c L d w h hok hr hs hbad
  have hb := hbad
  unfold badR at hb
  simp only [Bool.or_eq_true, Bool.and_eq_true, decide_eq_true_eq, Bool.not_eq_true', not_or, not_and] at hb
  obtain ⟨⟨⟨b1, b2⟩, b3⟩, b4⟩ := hb
  have k0 : 0 ≤ k := by omega
  have k2 : k ≤ 2 := by omega
  have hz : sizeR L ≤ 65536 := by omega
  by_cases h95 : r = 95
  · subst h95; exact rputUnder_any F k a n c L d w h hok hr hs k0 k2 hz
  by_cases hl : littleR r = true
  · exact rputLittle_any F r k a n c L d w h hok hr hs k0 k2 hz hl
  by_cases hbg : bigR r = true
  · exact rputBig_any F r k a n c L d w h hok hr hs k0 k2 hz hbg
  have hr2 : r = 0 ∨ r = 34 := by
    by_cases h0 : r = 0
    · exact .inl h0
    by_cases h34 : r = 34
    · exact .inr h34
    exact absurd (by simpa using hbg) (b1 ⟨⟨⟨h0, h34⟩, h95⟩, by simpa using hl⟩)
  rcases hr2 with rfl | rfl
  · cases d
    · exact rputYankZero_any F k a n c L w h hok hr hs k0 k2 hz
    · by_cases hm : k = 1 ∨ 1 < (normR ⟨k, L⟩).L.length
      · exact rputManyZero_any F k a n c L w h hok hr hs k0 k2 hz hm
      · exact rputOneZero_any F k a n c L w h hok hr hs k0 k2 hz (fun e => hm (.inl e)) (fun e => hm (.inr e))
  · cases d
    · exact rputYankQuote_any F k a n c L w h hok hr hs k0 k2 hz
    · by_cases hm : k = 1 ∨ 1 < (normR ⟨k, L⟩).L.length
      · exact rputManyQuote_any F k a n c L w h hok hr hs k0 k2 hz hm
      · exact rputOneQuote_any F k a n c L w h hok hr hs k0 k2 hz (fun e => hm (.inl e)) (fun e => hm (.inr e))
end Go.Proofs.Ytleidcegbfnmkaa.U
