/-
  The program's through, where numbers are told. (MADE by wip/tools/gen_kthri.py.)
-/
import Derived.Test.YtfldjoiohejilaaKTake
import Derived.Test.YtfldjoiohejilaaKCat
namespace Go.Proofs.Ytfldjoiohejilaa.U
open Go.RowKit
set_option linter.unusedVariables false
set_option linter.unusedSimpArgs false
set_option maxRecDepth 100000

def intsK (xs : List Int) : List Value := xs.map (Value.int .i64)
theorem infoN : (Try.prog.info? 3).map (fun i => (i.zero, i.size, i.bytes)) = some (some (.int .i64 0), 1, 8) := by kernel_rfl
theorem makeNc (w : World) (n c : Nat) (hn : n ≤ c) (hc : c ≤ 1073741824) : (Instr.makeSlice 95 (.int .i64 n) (.int .i64 c)).run Try.prog w = .ok (.slice (some ⟨w.heap.size, 0, none⟩) n c) (w.alloc (.cells (madeCells #[.int .i64 0] c) 3)) := by
  obtain ⟨i, hi, hz0, hz1, hz2⟩ := info_parts infoN
  have hr := run_make (P := Try.prog) w 95 3 i _ Try.underlying95 hi hz0 .i64 .i64 n c (by omega) (by omega) (by rw [hz2]; omega) (by omega)
  simpa [hz1, Value.cells] using hr
def thrI (T : Nat → Int) (a m : Nat) : List Int := (List.range m).map fun j => T (a + j)
theorem thrI_succ (T : Nat → Int) (a m : Nat) : thrI T a (m + 1) = thrI T a m ++ [T (a + m)] := by
  unfold thrI
  rw [List.range_succ, List.map_append]
  rfl
structure ThI (w : World) (b : Nat) (cs : Array Value) (M : List Int) (ra : Option Addr) (j rc : Nat) (W : World) : Prop where
  ar : ArH b cs W
  fr : W.ownsRow (b + 1) 3 1 (.slice ra j rc) j (intsK M)
  hb : Below b w W
  l : b + 1 ≤ W.heap.size
theorem ThI.below {w W W' : World} {b : Nat} {cs : Array Value} {M : List Int} {ra : Option Addr} {j rc : Nat} (h : ThI w b cs M ra j rc W) (hb : Below W.heap.size W W') : ThI w b cs M ra j rc W' :=
  ⟨h.ar.below hb, own_fr h.fr (Fr.of_below (fun _ => False) hb) (fun _ _ h => h), h.hb.trans (hb.mono (by have := h.l; omega)), by have := h.l; have := hb.size; omega⟩
theorem ThI.step {w W w5 : World} {b : Nat} {cs : Array Value} {M : List Int} {ra : Option Addr} {j rc : Nat} (h : ThI w b cs M ra j rc W) (hb : Below W.heap.size W w5) (v : Int) (hj : j ≤ 1099511627776) :
    ∃ a3 c3 w3, (∀ ty, (Builtin.append_ #[95, 95] ty #[.slice ra j rc, .slice (some ⟨w5.heap.size, 0, none⟩) 1 1]).run Try.prog (w5.alloc (.cells #[.int .i64 v] 3)) = .ok (.slice a3 (j + 1) c3) w3) ∧ ThI w b cs (M ++ [v]) a3 (j + 1) c3 w3 := by
  have h2 := (h.below hb).below (bal w5 (.cells #[.int .i64 v] 3))
  obtain ⟨i0, hi0, hz0, hz1, hz2⟩ := info_parts infoN
  obtain ⟨v', w', hrun, hown, hfr, hnear⟩ := run_append_own_k (P := Try.prog) (w5.alloc (.cells #[.int .i64 v] 3)) (b + 1) 95 3 i0 _ 1 8 Try.underlying95 hi0 hz0 hz1 hz2 rfl (by decide) (.slice ra j rc) j _ h2.fr (some ⟨w5.heap.size, 0, none⟩) 1 1 [.int .i64 v] rfl
    (fun _ => ⟨_, rfl, fun jj u hu => by rw [add_lit, Nat.zero_add, cell_row (heap_alloc_new w5 _)]; simpa using hu⟩) (fun u hu => by simp at hu; subst hu; rfl) (by unfold maxLen; omega) (by omega) h2.l
  obtain ⟨a3, c3, rfl⟩ := own_slice hown
  have hb3 : Below (b + 1) (w5.alloc (.cells #[.int .i64 v] 3)) w' := hfr.below h2.l (fun x e => (h2.fr.lt x e.symm).1)
  refine ⟨a3, c3, w', hrun, (hb3.block b (by omega)).trans h2.ar, ?_, h2.hb.trans (hb3.mono (by omega)), by have := hb3.size; have := h2.l; omega⟩
  unfold intsK at hown ⊢
  rw [List.map_append]
  exact hown
set_option maxHeartbeats 8000000 in
theorem kthroughI_box (F : Nat → Prop) (a : Option Addr) (n c : Nat) (L : List (List Int)) (k : Int) (A B : Pl) (lo hi : Nat) (hbx : Nat) (f : FuncId) (T : Nat → Int) (w : World) (h : RdL F w a n c L) (hs : sizeN (lens L) ≤ 1048576)
    (hk1 : 0 ≤ k) (hk2 : k ≤ 2) (hAB : A.1 ≤ B.1) (hBn : B.1 < n) (hB2 : B.2 ≤ 1099511627776) (hh : hi ≤ 1099511627776)
    (hcf : ∀ (xs : Array Value) (W : World), Sem.run Try.prog (callFunc f xs) W = .ok (.enter f xs) W)
    (htell : ∀ (i : Nat) (x : List Int) (xa : Option Addr) (xc : Nat) (W : World), A.1 ≤ i → i ≤ B.1 → L[i]? = some x → Below w.heap.size w W → Rd .i32 W xa x.length xc x →
      Calls Try.prog f #[.slice xa x.length xc, .int .i64 (agF k A lo i x.length : Nat), .int .i64 (agT k B hi i x.length : Nat), .pointer (some ⟨hbx, 0, none⟩)] W fun e w' => e = .returned (.int .i64 (T i)) ∧ Below W.heap.size W w') :
    Calls Try.prog 66 #[.slice a n c, areaV k A B lo hi, .func (.func f) #[] #[.pointer (some ⟨hbx, 0, none⟩)]] w fun e w' => ∃ ra rc, e = .returned (.slice ra (B.1 + 1 - A.1) rc) ∧ w'.ownsRow w.heap.size 3 1 (.slice ra (B.1 + 1 - A.1) rc) (B.1 + 1 - A.1) (intsK (thrI T A.1 (B.1 + 1 - A.1))) ∧ Below w.heap.size w w' := by
  have hl := h.len
  have hsm := h.small
  have hcnt := size_count L
  have hn1 : n ≤ 1048576 := by omega
  have hof := fun (i m mc : Nat) (ma : Option Addr) (W : World) (hm : m ≤ 9223372036854775807) => kof_any k A B lo hi i m mc ma W hk1 hk2 hm hB2 hh
  obtain ⟨a1, a2⟩ := A
  obtain ⟨b1, b2⟩ := B
  simp only at hAB hBn hB2 ⊢
  obtain ⟨M, hM⟩ : ∃ M, b1 + 1 - a1 = M := ⟨_, rfl⟩
  have hMi : (b1 : Int) + 1 - (a1 : Int) = (M : Int) := by omega
  have hMb : M ≤ 1048576 := by omega
  have hmk : ∀ W, (Instr.makeSlice 95 (.int .i64 0) (.int .i64 (M : Nat))).run Try.prog W = .ok (.slice (some ⟨W.heap.size, 0, none⟩) 0 M) (W.alloc (.cells (madeCells #[.int .i64 0] M) 3)) := fun W => makeNc W 0 M (Nat.zero_le _) (by omega)
  rw [hM]
  unfold areaV at hof ⊢
  simp only at hof ⊢
  obtain ⟨wb, hwb⟩ : ∃ wb, w.alloc (.cells #[.int .i64 k, .int .i64 (a1 : Nat), .int .i64 (a2 : Nat), .int .i64 (b1 : Nat), .int .i64 (b2 : Nat), .int .i64 (lo : Nat), .int .i64 (hi : Nat)] 68) = wb := ⟨_, rfl⟩
  have g1 := heap_alloc_new w (.cells #[.int .i64 k, .int .i64 (a1 : Nat), .int .i64 (a2 : Nat), .int .i64 (b1 : Nat), .int .i64 (b2 : Nat), .int .i64 (lo : Nat), .int .i64 (hi : Nat)] 68)
  have hB := bal w (.cells #[.int .i64 k, .int .i64 (a1 : Nat), .int .i64 (a2 : Nat), .int .i64 (b1 : Nat), .int .i64 (b2 : Nat), .int .i64 (lo : Nat), .int .i64 (hi : Nat)] 68)
  rw [hwb] at g1 hB
  have hsz : wb.heap.size = w.heap.size + 1 := by rw [← hwb]; simp
  obtain ⟨g0, gg1, g2, g3, g4, g5, g6, z0, z1, z2, z3, z4, z5, z6, zl⟩ := ArB.of g1
  clear z0 z1 z2 z3 z4 z5 z6
  obtain ⟨b, hbe⟩ : ∃ b, w.heap.size = b := ⟨_, rfl⟩
  have HST : Hid (ThI w b (areaC k (a1, a2) (b1, b2) lo hi) (thrI T a1 0) (some ⟨wb.heap.size, 0, none⟩) 0 M (wb.alloc (.cells (madeCells #[.int .i64 0] M) 3))) := by
    have hB2 := bal wb (.cells (madeCells #[.int .i64 0] M) 3)
    refine ⟨?_, ?_, ?_, ?_⟩
    · exact (hB2.block b (by omega)).trans (by rw [← hbe]; exact g1)
    · exact World.ownsRow_made wb _ M (by omega) (by unfold maxLen; omega) (by simp [size_madeCells])
    · rw [← hbe]; exact hB.trans (hB2.mono hB.size)
    · have := hB2.size; omega
  have HP := Lib.hid (And.intro h (And.intro hl hs))
  have HOF := Lib.hid hof
  have HTELL := Lib.hid htell
  have HW := Lib.hid hwb
  have HBE := Lib.hid hbe
  have HM := Lib.hid hM
  rw [hbe] at g0 gg1 g2 g3 g4 g5 g6 zl
  rw [hbe]
  clear h hl hs hcnt hof htell hwb hbe g1 hB hM hsz
  go_enter Try.func66, Try.ntmps66
  go_upto_region 1 with fail
  rw [HBE.out, HW.out]
  go_wp2_with fail
  go_loopw [7, 8] (fun v7 v8 wr => ∃ (j : Nat) (ra : Option Addr) (rc : Nat), v7 = .slice ra j rc ∧ v8 = .int .i64 ((a1 + j : Nat) : Int) ∧ j ≤ M ∧ Hid (ThI w b (areaC k (a1, a2) (b1, b2) lo hi) (thrI T a1 j) ra j rc wr)) (fun _ v8 _ => b1 + 1 - (intOf v8).toNat)
  case atStart => exact ⟨0, _, _, rfl, rfl, Nat.zero_le _, HST⟩
  case round =>
    obtain ⟨j, ra, rc, rfl, rfl, hjM, hst⟩ := hrel
    clear HST g0 gg1 g2 g3 g4 g5 g6 zl
    obtain ⟨g0, gg1, g2, g3, g4, g5, g6, z0, z1, z2, z3, z4, z5, z6, zl⟩ := ArB.of hst.out.ar
    clear z0 z1 z2 z3 z4 z5 z6
    obtain ⟨i, hi'⟩ : ∃ i, a1 + j = i := ⟨_, rfl⟩
    rw [hi']
    have HI := Lib.hid hi'
    by_cases hlt : i ≤ b1
    · have hlti : (i : Int) ≤ (b1 : Int) := by omega
      have hin : (i : Int) < (n : Int) := by omega
      have hin2 : i < n := by omega
      have hi0 : (0 : Int) ≤ (i : Int) := by omega
      obtain ⟨x, hx⟩ : ∃ x, L[i]? = some x := ⟨_, List.getElem?_eq_getElem (by have := HP.out.2.1; omega)⟩
      have hbw : Below w.heap.size w wr := by rw [HBE.out]; exact hst.out.hb
      obtain ⟨lb, loff, xa, xc, rfl, hlb, _, hc, hrd, _⟩ := HP.out.1.get hbw hx
      have hlbr : lb < wr.heap.size := by have := hbw.size; omega
      have hxl : x.length ≤ 1048576 := by
        have hm : x.length ∈ lens L := List.mem_map.2 ⟨_, List.mem_of_getElem? hx, rfl⟩
        have := sizeN_mem hm
        have := HP.out.2.2
        omega
      have HC1 : Hid (∀ W, Below wr.heap.size wr W → Calls Try.prog 78 #[.agg #[.int .i64 k, .int .i64 (a1 : Nat), .int .i64 (a2 : Nat), .int .i64 (b1 : Nat), .int .i64 (b2 : Nat), .int .i64 (lo : Nat), .int .i64 (hi : Nat)], .slice xa x.length xc, .int .i64 (i : Nat)] W fun e w' => e = .returned (.tuple #[.int .i64 (agF k (a1, a2) lo i x.length : Nat), .int .i64 (agT k (b1, b2) hi i x.length : Nat)]) ∧
          (w'.cell? ⟨b, 0, none⟩ = some (.int .i64 k) ∧ w'.cell? ⟨b, 1, none⟩ = some (.int .i64 (a1 : Nat)) ∧ w'.cell? ⟨b, 2, none⟩ = some (.int .i64 (a2 : Nat)) ∧ w'.cell? ⟨b, 3, none⟩ = some (.int .i64 (b1 : Nat)) ∧ w'.cell? ⟨b, 4, none⟩ = some (.int .i64 (b2 : Nat)) ∧ w'.cell? ⟨b, 5, none⟩ = some (.int .i64 (lo : Nat)) ∧ w'.cell? ⟨b, 6, none⟩ = some (.int .i64 (hi : Nat)) ∧ w'.cell? ⟨lb, loff + i, none⟩ = some (.slice xa x.length xc)) ∧ Hid (Below wr.heap.size wr w')) := by
        intro W hW
        refine (HOF.out i x.length xc xa W (by omega)).mono ?_
        rintro e w' ⟨rfl, hb⟩
        have hb2 : Below wr.heap.size wr w' := hW.trans (hb.mono hW.size)
        obtain ⟨q0, q1, q2, q3, q4, q5, q6, -⟩ := ArB.of (hst.out.ar.below hb2)
        exact ⟨rfl, ⟨q0, q1, q2, q3, q4, q5, q6, (hb2.cell (p := ⟨lb, loff + i, none⟩) hlbr).trans hc⟩, hb2⟩
      have HTX := Lib.hid (HTELL.out i x xa xc)
      have HX := Lib.hid hx
      have HRD := Lib.hid hrd
      have HST := hst
      obtain ⟨y, hy⟩ : ∃ y, x.length = y := ⟨_, rfl⟩
      obtain ⟨fr, hfr⟩ : ∃ fr, agF k (a1, a2) lo i x.length = fr := ⟨_, rfl⟩
      obtain ⟨to_, hto⟩ : ∃ to_, agT k (b1, b2) hi i x.length = to_ := ⟨_, rfl⟩
      rw [hfr, hto, hy] at HC1 HTX
      rw [hy] at hc HRD
      have HLT := Lib.hid hlt
      have hir : a1 ≤ i := by omega
      have HIR := Lib.hid hir
      have H0 : Hid (Below wr.heap.size wr wr) := Below.refl _ _
      clear hst hx hrd hy hfr hto hxl hlb hbw hi' hir hlt
      go_upto_region 5 with fail
      go_cut [9, 10] (fun v9 v10 W => v9 = .int .i64 (fr : Nat) ∧ v10 = .int .i64 (to_ : Nat) ∧ Hid (Below wr.heap.size wr W))
      case first =>
        go_region_held3 (fun W => W.cell? ⟨b, 0, none⟩ = some (.int .i64 k) ∧ W.cell? ⟨b, 1, none⟩ = some (.int .i64 (a1 : Nat)) ∧ W.cell? ⟨b, 2, none⟩ = some (.int .i64 (a2 : Nat)) ∧ W.cell? ⟨b, 3, none⟩ = some (.int .i64 (b1 : Nat)) ∧ W.cell? ⟨b, 4, none⟩ = some (.int .i64 (b2 : Nat)) ∧ W.cell? ⟨b, 5, none⟩ = some (.int .i64 (lo : Nat)) ∧ W.cell? ⟨b, 6, none⟩ = some (.int .i64 (hi : Nat)) ∧ W.cell? ⟨lb, loff + i, none⟩ = some (.slice xa y xc))
          (first | exact ⟨g0, gg1, g2, g3, g4, g5, g6, hc⟩ | exact HQ)
          (first | (go_at_call 78; (with_reducible first | refine (HC1.out _ H0.out).mono ?_ | refine (HC1.out _ H0.out.drew).mono ?_); rintro e w1 ⟨rfl, HQ, HB1⟩))
        all_goals
          go_wp2_with fail
          go_meet
          exact ⟨rfl, rfl, HB1⟩
      case rest =>
        obtain ⟨rfl, rfl, HB1⟩ := hcut
        obtain ⟨wq, hwq⟩ : ∃ wq, wq = wc := ⟨_, rfl⟩
        subst hwq
        have HC2 : Hid (∀ W, W = wq → Calls Try.prog f #[.slice xa y xc, .int .i64 (fr : Nat), .int .i64 (to_ : Nat), .pointer (some ⟨hbx, 0, none⟩)] W fun e w' => ∃ (v5 : Int) (a3 : Option Addr) (c3 : Nat) (w3 : World), e = .returned (.int .i64 v5) ∧ Hid (∀ ty, (Builtin.append_ #[95, 95] ty #[.slice ra j rc, .slice (some ⟨w'.heap.size, 0, none⟩) 1 1]).run Try.prog (w'.alloc (.cells #[.int .i64 v5] 3)) = .ok (.slice a3 (j + 1) c3) w3) ∧ Hid (ThI w b (areaC k (a1, a2) (b1, b2) lo hi) (thrI T a1 (j + 1)) a3 (j + 1) c3 w3)) := by
          rintro W rfl
          have hbW : Below w.heap.size w W := by
            rw [HBE.out]
            exact HST.out.hb.trans (HB1.out.mono (by have := HST.out.l; omega))
          refine (HTX.out W HIR.out HLT.out HX.out hbW (HRD.out.below HB1.out)).mono ?_
          rintro e w' ⟨rfl, hb5⟩
          obtain ⟨a3, c3, w3, hrun, hN⟩ := (HST.out.below HB1.out).step hb5 (T i) (by omega)
          rw [thrI_succ, HI.out]
          exact ⟨T i, a3, c3, w3, rfl, hrun, hN⟩
        have hcq : wq.cell? ⟨lb, loff + i, none⟩ = some (.slice xa y xc) := (HB1.out.cell (p := ⟨lb, loff + i, none⟩) hlbr).trans hc
        have hlq : lb < wq.heap.size := by have := HB1.out.size; omega
        clear hc g0 gg1 g2 g3 g4 g5 g6 zl HC1 HTX HRD hlbr
        go_wp2_with (first
          | (at_builtin; go_must (with_reducible refine Lib.wpList_append_run _ rfl (.tmp 40) (.tmp 49) _ _ rfl _ _ rfl rfl _ _ (HRUN.out _) ?_))
          | ((with_reducible (refine (HC2.out _ rfl).mono ?_)); rintro e w2 ⟨v5, a3, c3, w3, rfl, HRUN, HN⟩))
        have hji : a1 + (j + 1) = i + 1 := by have := HI.out; omega
        go_roundw
        case rel => exact ⟨j + 1, a3, c3, rfl, by rw [hji]; go_num, by have := HM.out; have := HI.out; have := HLT.out; omega, HN⟩
        case measure => have := HLT.out; simp [intOf]; omega
    · have hjm : j = M := by have := HM.out; omega
      subst hjm
      have hgt : ¬ (i : Int) ≤ (b1 : Int) := by omega
      have hgt2 : (b1 : Int) < (i : Int) := by omega
      have HF : Hid (wr.ownsRow b 3 1 (.slice ra j rc) j (intsK (thrI T a1 j)) ∧ Below b w wr) := ⟨own_mono hst.out.fr (by omega), hst.out.hb⟩
      clear hst
      go_wp2_with fail
      go_ret
      exact ⟨_, _, rfl, HF.out.1, HF.out.2⟩
end Go.Proofs.Ytfldjoiohejilaa.U
