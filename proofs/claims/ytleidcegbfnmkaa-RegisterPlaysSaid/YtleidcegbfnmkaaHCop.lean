/-
  The program's copied: what a register holds, in memory of its own.
-/
import Derived.Test.YtleidcegbfnmkaaHPlace
namespace Go.Proofs.Ytleidcegbfnmkaa.U
open Go.RowKit
set_option linter.unusedVariables false
set_option linter.unusedSimpArgs false
set_option maxRecDepth 100000

theorem makeL (w : World) (n : Nat) (hn : n ≤ 1073741824) : (Instr.makeSlice 29 (.int .i64 n) (.int .i64 n)).run Try.prog w = .ok (.slice (some ⟨w.heap.size, 0, none⟩) n n) (w.alloc (.cells (madeCells #[.slice none 0 0] n) 39)) := by
  obtain ⟨i, hi, hz0, hz1, hz2⟩ := info_parts infoS
  have hr := run_make (P := Try.prog) w 29 39 i _ Try.underlying29 hi hz0 .i64 .i64 n n (by omega) (Int.le_refl _) (by rw [hz2]; omega) (by omega)
  simpa [hz1, Value.cells] using hr

/-- in the loop that copies lines into a row of n: k of them are copied -/
def MadeS (B g n k : Nat) (L : List (List Int)) (w wr : World) : Prop :=
  ∃ cur : List Value, wr.heap[g]? = some (.cells cur.toArray 39 (0, 0)) ∧ cur.length = n ∧
    (∀ (i : Nat) (x : List Int), i < k → L[i]? = some x → ∃ v, cur[i]? = some v ∧ wr.ownsRow B 21 1 v x.length (ints x)) ∧
    (∀ (i j : Nat) (vi vj : Value), i < j → j < k → cur[i]? = some vi → cur[j]? = some vj → ∀ b, vi.ownBlock = some b → vj.ownBlock ≠ some b) ∧ Below B w wr
theorem MadeS.step {B g n k : Nat} {L : List (List Int)} {w wr W : World} {v : Value} {x : List Int} (h : MadeS B g n k L w wr) (hk : k < n) (hx : L[k]? = some x) (hv : W.ownsRow wr.heap.size 21 1 v x.length (ints x)) (hb : Below wr.heap.size wr W) (hB : B ≤ g) (hs : B ≤ wr.heap.size) :
    MadeS B g n (k + 1) L w (W.setCell ⟨g, k, none⟩ v) := by
  obtain ⟨cur, h1, h2, h3, h4, h6⟩ := h
  have hg := (hb.block g (heap_lt h1)).trans h1
  have hf : Fr (fun b => b = g) W (W.setCell ⟨g, k, none⟩ v) := (Fr.refl _ _).setCell _ _ (fun _ => rfl)
  have far : ∀ {B' n' : Nat} {u : Value} {xs : List Value}, W.ownsRow B' 21 1 u n' xs → (W.setCell ⟨g, k, none⟩ v).ownsRow B' 21 1 u n' xs := fun ho => own_fr ho hf (fun b e => row_block_apart ho hg (by decide) e)
  have hkL := (List.getElem?_eq_some_iff.1 hx).1
  refine ⟨cur.set k v, cell_set1 hg v, by simp [h2], ?_, ?_, (h6.trans (hb.mono hs)).setCell hB _⟩
  · intro i y hi hy
    by_cases e : i = k
    · subst e
      rw [hx] at hy
      cases hy
      exact ⟨v, by rw [List.getElem?_set_self (by omega)], far (own_mono hv hs)⟩
    · obtain ⟨u, e1, e2⟩ := h3 i y (by omega) hy
      exact ⟨u, by rw [List.getElem?_set_ne (by omega)]; exact e1, far (own_fr e2 (Fr.of_below (fun _ => False) hb) (fun _ _ h => h))⟩
  · intro i j vi vj hij hj hi hvj b hb'
    rw [List.getElem?_set_ne (by omega)] at hi
    by_cases e : j = k
    · subst e
      rw [List.getElem?_set_self (by omega)] at hvj
      cases hvj
      obtain ⟨u, e1, e2⟩ := h3 i _ hij (List.getElem?_eq_getElem (by omega))
      rw [hi] at e1
      cases e1
      intro e3
      have := (e2.lt b hb').2
      have := (hv.lt b e3).1
      omega
    · rw [List.getElem?_set_ne (by omega)] at hvj
      exact h4 i j vi vj hij (by omega) hi hvj b hb'


/-- between the rounds: the row at g in the making, the box at b3 that holds it, the argument's box at B, the result's behind it -/
structure CopS (B g b3 n k : Nat) (kk : Int) (a : Option Addr) (c : Nat) (L : List (List Int)) (w wr : World) : Prop where
  made : MadeS (B + 2) g n k L w wr
  box : BoxS wr b3 kk (some ⟨g, 0, none⟩) n n
  inp : BoxS wr B kk a n c
  res : BoxS wr (B + 1) 0 none 0 0
  g0 : B + 2 ≤ g
  b0 : B + 2 ≤ b3
  gb : g ≠ b3
theorem CopS.step {B g b3 n k c : Nat} {a : Option Addr} {kk : Int} {L : List (List Int)} {w wr W : World} {v : Value} {x : List Int} (h : CopS B g b3 n k kk a c L w wr) (hk : k < n) (hx : L[k]? = some x) (hv : W.ownsRow wr.heap.size 21 1 v x.length (ints x)) (hb : Below wr.heap.size wr W) (hs : B + 2 ≤ wr.heap.size) :
    CopS B g b3 n (k + 1) kk a c L w (W.setCell ⟨g, k, none⟩ v) := by
  have hf : Fr (fun b => b = g) W (W.setCell ⟨g, k, none⟩ v) := (Fr.refl _ _).setCell _ _ (fun _ => rfl)
  have h1 := h.g0
  have h2 := h.b0
  exact ⟨h.made.step hk hx hv hb (by omega) hs, (h.box.below hb).fr hf (fun e => h.gb e.symm), (h.inp.below hb).fr hf (by omega), (h.res.below hb).fr hf (by omega), h.g0, h.b0, h.gb⟩
theorem copA {b n c : Nat} {a : Option Addr} {kk : Int} {L : List (List Int)} {wb : World} (hsz : wb.heap.size = b + 2) (hf : Fou b (.int .i64 kk) (.slice a n c) (.int .i64 0) (.slice none 0 0) wb) :
    CopS b wb.heap.size (wb.heap.size + 1) n 0 kk a c L wb ((wb.alloc (.cells (madeCells #[.slice none 0 0] n) 39)).alloc (.cells #[.int .i64 kk, .slice (some ⟨wb.heap.size, 0, none⟩) n n] 31)).drew := by
  have hbb : Below wb.heap.size wb ((wb.alloc (.cells (madeCells #[.slice none 0 0] n) 39)).alloc (.cells #[.int .i64 kk, .slice (some ⟨wb.heap.size, 0, none⟩) n n] 31)).drew := (((Below.refl _ wb).alloc (Nat.le_refl _) _).alloc (by simp) _).drew
  have r1 : ((wb.alloc (.cells (madeCells #[.slice none 0 0] n) 39)).alloc (.cells #[.int .i64 kk, .slice (some ⟨wb.heap.size, 0, none⟩) n n] 31)).drew.heap[wb.heap.size]? = some (.cells (madeCells #[.slice none 0 0] n) 39 (0, 0)) := by
    show ((wb.alloc _).alloc _).heap[_]? = _
    rw [Below.heap_alloc _ _ _ (by simp), heap_alloc_new]
  have r2 : ((wb.alloc (.cells (madeCells #[.slice none 0 0] n) 39)).alloc (.cells #[.int .i64 kk, .slice (some ⟨wb.heap.size, 0, none⟩) n n] 31)).drew.heap[wb.heap.size + 1]? = some (.cells #[.int .i64 kk, .slice (some ⟨wb.heap.size, 0, none⟩) n n] 31 (0, 0)) := by
    have := heap_alloc_new (wb.alloc (.cells (madeCells #[.slice none 0 0] n) 39)) (.cells #[.int .i64 kk, .slice (some ⟨wb.heap.size, 0, none⟩) n n] 31)
    rw [show (wb.alloc (.cells (madeCells #[.slice none 0 0] n) 39)).heap.size = wb.heap.size + 1 by simp] at this
    exact this
  refine ⟨⟨(madeCells #[.slice none 0 0] n).toList, by simpa using r1, by rw [Array.length_toList, size_madeCells], fun i x hi => by omega, fun i j vi vj hij hj => by omega, hbb.mono (by omega)⟩, BoxS.of r2, ?_, ?_, by omega, by omega, by omega⟩
  · exact BoxS.below ⟨hf.c0, hf.c1, hf.y0, hf.y1, hf.l0⟩ hbb
  · exact BoxS.below ⟨hf.d0, hf.d1, hf.z0, hf.z1, hf.l1⟩ hbb
theorem copB {b n c : Nat} {a : Option Addr} {kk : Int} {L : List (List Int)} {wb : World} (hsz : wb.heap.size = b + 2) (hf : Fou b (.int .i64 kk) (.slice a n c) (.int .i64 0) (.slice none 0 0) wb) :
    CopS b (wb.heap.size + 1) wb.heap.size n 0 kk a c L wb ((wb.alloc (.cells #[.int .i64 kk, .slice (some ⟨wb.heap.size + 1, 0, none⟩) n n] 31)).alloc (.cells (madeCells #[.slice none 0 0] n) 39)).drew := by
  have hbb : Below wb.heap.size wb ((wb.alloc (.cells #[.int .i64 kk, .slice (some ⟨wb.heap.size + 1, 0, none⟩) n n] 31)).alloc (.cells (madeCells #[.slice none 0 0] n) 39)).drew := (((Below.refl _ wb).alloc (Nat.le_refl _) _).alloc (by simp) _).drew
  have r2 : ((wb.alloc (.cells #[.int .i64 kk, .slice (some ⟨wb.heap.size + 1, 0, none⟩) n n] 31)).alloc (.cells (madeCells #[.slice none 0 0] n) 39)).drew.heap[wb.heap.size]? = some (.cells #[.int .i64 kk, .slice (some ⟨wb.heap.size + 1, 0, none⟩) n n] 31 (0, 0)) := by
    show ((wb.alloc _).alloc _).heap[_]? = _
    rw [Below.heap_alloc _ _ _ (by simp), heap_alloc_new]
  have r1 : ((wb.alloc (.cells #[.int .i64 kk, .slice (some ⟨wb.heap.size + 1, 0, none⟩) n n] 31)).alloc (.cells (madeCells #[.slice none 0 0] n) 39)).drew.heap[wb.heap.size + 1]? = some (.cells (madeCells #[.slice none 0 0] n) 39 (0, 0)) := by
    have := heap_alloc_new (wb.alloc (.cells #[.int .i64 kk, .slice (some ⟨wb.heap.size + 1, 0, none⟩) n n] 31)) (.cells (madeCells #[.slice none 0 0] n) 39)
    rw [show (wb.alloc (.cells #[.int .i64 kk, .slice (some ⟨wb.heap.size + 1, 0, none⟩) n n] 31)).heap.size = wb.heap.size + 1 by simp] at this
    exact this
  refine ⟨⟨(madeCells #[.slice none 0 0] n).toList, by simpa using r1, by rw [Array.length_toList, size_madeCells], fun i x hi => by omega, fun i j vi vj hij hj => by omega, hbb.mono (by omega)⟩, BoxS.of r2, ?_, ?_, by omega, by omega, by omega⟩
  · exact BoxS.below ⟨hf.c0, hf.c1, hf.y0, hf.y1, hf.l0⟩ hbb
  · exact BoxS.below ⟨hf.d0, hf.d1, hf.z0, hf.z1, hf.l1⟩ hbb
set_option maxHeartbeats 4000000 in
theorem pcopied_any (F : Nat → Prop) (kk : Int) (a : Option Addr) (n c : Nat) (L : List (List Int)) (w : World) (h : RdL F w a n c L) (hs : sizeR L ≤ 1048576) :
    Calls Try.prog 23 #[rgV kk a n c] w fun e w' => ∃ a' c', e = .returned (rgV kk a' n c') ∧ FreshL w.heap.size w' a' n c' L ∧ Below w.heap.size w w' := by
  unfold rgV
  have hl := h.len
  have hsm := h.small
  have hcnt := size_count L
  unfold sizeR at hs
  obtain ⟨wb, hwb⟩ : ∃ wb, (w.alloc (.cells #[.int .i64 kk, .slice a n c] 31)).alloc (.cells #[.int .i64 0, .slice none 0 0] 31) = wb := ⟨_, rfl⟩
  have hfou := fou_new w (.int .i64 kk) (.slice a n c) (.int .i64 0) (.slice none 0 0)
  rw [hwb] at hfou
  have hsz : wb.heap.size = w.heap.size + 2 := by rw [← hwb]; simp
  have hB : Below w.heap.size w wb := by rw [← hwb]; exact ((Below.refl _ _).alloc (Nat.le_refl _) _).alloc (by simp) _
  rw [← hsz] at hfou
  have H := Lib.hid h
  have HL := Lib.hid hl
  have HS : Hid (sizeN (lens L) ≤ 1048576) := hs
  have hn : n ≤ 1048576 := by omega
  have hmk : ∀ W, (Instr.makeSlice 29 (.int .i64 n) (.int .i64 n)).run Try.prog W = .ok (.slice (some ⟨W.heap.size, 0, none⟩) n n) (W.alloc (.cells (madeCells #[.slice none 0 0] n) 39)) := fun W => makeL W n (by omega)
  have hx := hfou wb (Below.refl _ _)
  have hxd := hfou wb.drew (Below.refl _ _).drew
  have HF : Hid (∀ W, Below wb.heap.size wb W → Fou w.heap.size (.int .i64 kk) (.slice a n c) (.int .i64 0) (.slice none 0 0) W) := hfou
  have HB := Lib.hid (And.intro hB hsz)
  have HW := Lib.hid hwb
  clear h hl hs hcnt hwb hB hfou hsz
  obtain ⟨b, hbe⟩ : ∃ b, w.heap.size = b := ⟨_, rfl⟩
  have HBE := Lib.hid hbe
  rw [hbe] at hx hxd HF
  clear hbe
  obtain ⟨q0, q1, d0, d1, y0, y1, z0, z1, l0, l1⟩ := hx
  go_enter Try.func23, Try.ntmps23
  go_upto_region 1 with fail
  rw [HW.out, HBE.out]
  go_cut [3] (fun v3 W => ∃ b3, v3 = .pointer (some ⟨b3, 0, none⟩) ∧ Hid (∃ g, CopS b g b3 n 0 kk a c L wb W))
  case first =>
    have HA : Hid (∃ g, CopS b g (wb.heap.size + 1) n 0 kk a c L wb ((wb.alloc (.cells (madeCells #[.slice none 0 0] n) 39)).alloc (.cells #[.int .i64 kk, .slice (some ⟨wb.heap.size, 0, none⟩) n n] 31)).drew) := ⟨_, copA (by rw [← HBE.out]; exact HB.out.2) (HF.out wb (Below.refl _ _))⟩
    have HA2 : Hid (∃ g, CopS b g wb.heap.size n 0 kk a c L wb ((wb.alloc (.cells #[.int .i64 kk, .slice (some ⟨wb.heap.size + 1, 0, none⟩) n n] 31)).alloc (.cells (madeCells #[.slice none 0 0] n) 39)).drew) := ⟨_, copB (by rw [← HBE.out]; exact HB.out.2) (HF.out wb (Below.refl _ _))⟩
    go_region
    all_goals
      go_wp2_with fail
      go_meet
      first | exact ⟨_, rfl, HA⟩ | exact ⟨_, rfl, HA2⟩
  case rest =>
    obtain ⟨b3, rfl, hst⟩ := hcut
    obtain ⟨wq, hwq⟩ : ∃ x, x = wc := ⟨_, rfl⟩
    subst hwq
    clear q0 q1 d0 d1 y0 y1 z0 z1 l0 l1 hxd HF hmk
    obtain ⟨g, hc0⟩ := hst.out
    obtain ⟨p0, p1, p2, p3, p4⟩ := hc0.inp
    have HST : Hid (CopS b g b3 n 0 kk a c L wb wq) := hc0
    clear hst hc0
    go_wp2_with fail
    go_loopw [16] (fun v16 wr => ∃ k : Nat, v16 = .int .i64 k ∧ k ≤ n ∧ Hid (CopS b g b3 n k kk a c L wb wr)) (fun v16 _ => n - (intOf v16).toNat)
    case atStart => exact ⟨0, rfl, Nat.zero_le _, HST⟩
    case round =>
      obtain ⟨k, rfl, hk, hst⟩ := hrel
      clear HST p0 p1 p2 p3 p4
      by_cases hlt : k < n
      · obtain ⟨x, hx⟩ : ∃ x, L[k]? = some x := ⟨_, List.getElem?_eq_getElem (by have := HL.out; omega)⟩
        obtain ⟨cur, hg, hcl, s3, s4, hb'⟩ := hst.out.made
        have hb : Below w.heap.size w wr := HB.out.1.trans (hb'.mono (by have := HBE.out; omega))
        clear hb'
        obtain ⟨m0, m1, m2, m3, m4⟩ := hst.out.box
        obtain ⟨b', off, xa, xc, rfl, hbl, _, hc, hrd, _⟩ := H.out.get hb hx
        have hgl := heap_lt hg
        have hbw : b' < wr.heap.size := by have := hb.size; have := HBE.out; omega
        have hxl : x.length ≤ 1048576 := by
          have h1 := size_take hx
          have h2 := size_take_le L (k + 1)
          have := HS.out
          omega
        have hsB : b + 2 ≤ wr.heap.size := by have := hst.out.g0; omega
        obtain ⟨a2, c2, w2, hrun, ho2, hb2⟩ := app_rd wr.drew wr.heap.size (.slice none 0 0) 0 [] xa x.length xc x (World.ownsRow_nil _ _ _ _) (Nat.le_refl _) hrd.drew (by omega)
        have hb2 : Below wr.heap.size wr w2 := ⟨hb2.os, hb2.tape, hb2.output, hb2.size, hb2.block⟩
        rw [Nat.zero_add] at hrun ho2
        rw [List.nil_append] at ho2
        have hgW := (hb2.block g hgl).trans hg
        obtain ⟨t0, t1, t2, t3, t4⟩ := hst.out.box.below hb2
        have HN : Hid (CopS b g b3 n (k + 1) kk _ c L wb (w2.setCell ⟨g, k, none⟩ (.slice a2 x.length c2))) := hst.out.step hlt hx ho2 hb2 hsB
        have dW : w2.cell? ⟨g, k, none⟩ = some (cur[k]'(by omega)) := by
          rw [cell_row hgW, List.getElem?_toArray]
          exact List.getElem?_eq_getElem _
        have zW := frozen_row hgW k
        have gW := heap_lt hgW
        have HRUN := Lib.hid hrun
        obtain ⟨y, hy⟩ : ∃ y, x.length = y := ⟨_, rfl⟩
        rw [hy] at hc HRUN hxl HN
        obtain ⟨zz, hzz⟩ : ∃ zz, cur[k]'(by omega) = zz := ⟨_, rfl⟩
        rw [hzz] at dW
        clear hx hrd hrun ho2 hb2 hy hzz hst hg hcl s3 s4 hb hgW
        go_wp2_with fail
        go_region_law (refine step_append_run rfl (.const (.slice none 0 0)) (.tmp 24) _ _ rfl _ _ (by simp [Act.eval, Act.put]) (by simp [Act.eval, Act.put]) (HRUN.out _) ?_)
        all_goals
          go_wp2_with fail
          go_roundw
          case rel => exact ⟨k + 1, by go_num, by omega, HN⟩
          case measure => simp [intOf]; omega
      · obtain rfl : k = n := by omega
        have HF : Hid (∀ u0 u1, FreshL w.heap.size ((wr.setCell ⟨b + 1, 0, none⟩ u0).setCell ⟨b + 1, 1, none⟩ u1) (some ⟨g, 0, none⟩) k k L ∧ Below w.heap.size w ((wr.setCell ⟨b + 1, 0, none⟩ u0).setCell ⟨b + 1, 1, none⟩ u1)) := by
          intro u0 u1
          obtain ⟨cur, hg, hcl, s3, s4, hb⟩ := hst.out.made
          have h0 := hst.out.g0
          have he := HBE.out
          have hfs : Fr (fun x => x = b + 1) wr ((wr.setCell ⟨b + 1, 0, none⟩ u0).setCell ⟨b + 1, 1, none⟩ u1) := ((Fr.refl (fun x => x = b + 1) wr).setCell ⟨b + 1, 0, none⟩ _ (fun _ => rfl)).setCell ⟨b + 1, 1, none⟩ _ (fun _ => rfl)
          have ho := own_of (B := b + 2) (n := k) (cap := k) (size := 1) hg (by omega) (Nat.le_refl _) (by unfold maxLen; omega) (by rw [List.size_toArray, hcl]; omega)
          rw [Nat.mul_one] at ho
          have hfl : FreshL (b + 2) wr (some ⟨g, 0, none⟩) k k L := by
            refine ⟨cur.take k, ho, by rw [List.length_take, HL.out]; omega, fun i x hx => ?_, fun i j vi vj hij hi hj => ?_⟩
            · have hil : i < k := by have := (List.getElem?_eq_some_iff.1 hx).1; have := HL.out; omega
              obtain ⟨v, q1, q2⟩ := s3 i x hil hx
              exact ⟨v, by rw [List.getElem?_take, if_pos hil]; exact q1, q2⟩
            · rw [List.getElem?_take] at hi hj
              split at hj
              · next hjk =>
                rw [if_pos (by omega)] at hi
                exact s4 i j vi vj hij hjk hi hj
              · cases hj
          refine ⟨(hfl.fr hfs (fun x h1 h2 => by omega)).mono (by omega), ?_⟩
          refine Below.setCell (Below.setCell (HB.out.1.trans (hb.mono (by omega))) ?_ _) ?_ _ <;> simp <;> omega
        obtain ⟨m0, m1, m2, m3, m4⟩ := hst.out.box
        obtain ⟨t0, t1, t2, t3, t4⟩ := hst.out.res
        clear hst
        go_wp2_with fail
        (try simp only [Exit.inBlock, Exit.then])
        refine bodyPost_ret (v := .agg #[.int .i64 kk, .slice (some ⟨g, 0, none⟩) k k]) ?_ rfl ⟨_, _, rfl, ?_⟩
        · rw [results_cell1 rfl]
          go_simp
        · exact HF.out _ _
end Go.Proofs.Ytleidcegbfnmkaa.U
