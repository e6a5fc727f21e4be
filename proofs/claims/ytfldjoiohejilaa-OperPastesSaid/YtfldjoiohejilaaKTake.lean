/-
  through: what is told of each of a region's lines.
  The program's Take.
-/
import Derived.Test.YtfldjoiohejilaaKOf
import Derived.Test.YtfldjoiohejilaaKCopy
import Derived.Test.YtfldjoiohejilaaKFindB
import Derived.Test.YtfldjoiohejilaaJCon
namespace Go.Proofs.Ytfldjoiohejilaa.U
open Go.RowKit
set_option linter.unusedVariables false
set_option linter.unusedSimpArgs false
set_option maxRecDepth 100000

theorem makeLc (w : World) (n c : Nat) (hn : n ≤ c) (hc : c ≤ 1073741824) : (Instr.makeSlice 22 (.int .i64 n) (.int .i64 c)).run Try.prog w = .ok (.slice (some ⟨w.heap.size, 0, none⟩) n c) (w.alloc (.cells (madeCells #[.slice none 0 0] c) 35)) := by
  obtain ⟨i, hi, hz0, hz1, hz2⟩ := info_parts infoS
  have hr := run_make (P := Try.prog) w 22 35 i _ Try.underlying22 hi hz0 .i64 .i64 n c (by omega) (by omega) (by rw [hz2]; omega) (by omega)
  simpa [hz1, Value.cells] using hr
/-- m lines told from line a on -/
def thrL (T : Nat → List Int) (a m : Nat) : List (List Int) := (List.range m).map fun j => T (a + j)
theorem thrL_succ (T : Nat → List Int) (a m : Nat) : thrL T a (m + 1) = thrL T a m ++ [T (a + m)] := by
  unfold thrL
  rw [List.range_succ, List.map_append]
  rfl
theorem thrL_len (T : Nat → List Int) (a m : Nat) : (thrL T a m).length = m := by simp [thrL]
def areaC (k : Int) (A B : Pl) (lo hi : Nat) : Array Value := #[.int .i64 k, .int .i64 (A.1 : Nat), .int .i64 (A.2 : Nat), .int .i64 (B.1 : Nat), .int .i64 (B.2 : Nat), .int .i64 (lo : Nat), .int .i64 (hi : Nat)]
structure ThS (w : World) (b : Nat) (cs : Array Value) (M : List (List Int)) (ra : Option Addr) (j rc : Nat) (W : World) : Prop where
  ar : ArH b cs W
  fr : FreshL (b + 1) W ra j rc M
  hb : Below b w W
  l : b + 1 ≤ W.heap.size
theorem ThS.below {w W W' : World} {b : Nat} {cs : Array Value} {M : List (List Int)} {ra : Option Addr} {j rc : Nat} (h : ThS w b cs M ra j rc W) (hb : Below W.heap.size W W') : ThS w b cs M ra j rc W' :=
  ⟨h.ar.below hb, h.fr.below hb, h.hb.trans (hb.mono (by have := h.l; omega)), by have := h.l; have := hb.size; omega⟩
theorem ThS.step {w W w5 : World} {b : Nat} {cs : Array Value} {M : List (List Int)} {ra : Option Addr} {j rc : Nat} (h : ThS w b cs M ra j rc W) (hb : Below W.heap.size W w5) {a1 : Option Addr} {m1 c1 : Nat} {x : List Int} (hm : x.length = m1) (ho : w5.ownsRow W.heap.size 21 1 (.slice a1 m1 c1) m1 (ints x)) (hj : j ≤ 1099511627776) :
    ∃ a3 c3 w3, (∀ ty, (Builtin.append_ #[22, 22] ty #[.slice ra j rc, .slice (some ⟨w5.heap.size, 0, none⟩) 1 1]).run Try.prog (w5.alloc (.cells #[.slice a1 m1 c1] 35)) = .ok (.slice a3 (j + 1) c3) w3) ∧ ThS w b cs (M ++ [x]) a3 (j + 1) c3 w3 := by
  obtain ⟨a3, c3, w3, hrun, hf, hb3⟩ := fresh_snoc W w5 (b + 1) ra j rc _ h.fr hb h.l a1 m1 c1 x hm ho (by omega)
  exact ⟨a3, c3, w3, hrun, (hb3.block b (by omega)).trans h.ar, hf, h.hb.trans (hb3.mono (by omega)), by have := hb3.size; have := h.l; omega⟩
set_option maxHeartbeats 8000000 in
theorem kthrough_any (F : Nat → Prop) (a : Option Addr) (n c : Nat) (L : List (List Int)) (k : Int) (A B : Pl) (lo hi : Nat) (f : FuncId) (T : Nat → List Int) (w : World) (h : RdL F w a n c L) (hs : sizeN (lens L) ≤ 1048576)
    (hk1 : 0 ≤ k) (hk2 : k ≤ 2) (hAB : A.1 ≤ B.1) (hBn : B.1 < n) (hB2 : B.2 ≤ 1099511627776) (hh : hi ≤ 1099511627776)
    (hcf : ∀ (xs : Array Value) (W : World), Sem.run Try.prog (callFunc f xs) W = .ok (.enter f xs) W)
    (htell : ∀ (i : Nat) (x : List Int) (xa : Option Addr) (xc : Nat) (W : World), A.1 ≤ i → i ≤ B.1 → L[i]? = some x → Below w.heap.size w W → Rd .i32 W xa x.length xc x →
      Calls Try.prog f #[.slice xa x.length xc, .int .i64 (agF k A lo i x.length : Nat), .int .i64 (agT k B hi i x.length : Nat)] W fun e w' => ∃ ra rc, e = .returned (.slice ra (T i).length rc) ∧ w'.ownsRow W.heap.size 21 1 (.slice ra (T i).length rc) (T i).length (ints (T i)) ∧ Below W.heap.size W w') :
    Calls Try.prog 39 #[.slice a n c, areaV k A B lo hi, .func (.func f) #[] #[]] w fun e w' => ∃ ra rc, e = .returned (.slice ra (B.1 + 1 - A.1) rc) ∧ FreshL w.heap.size w' ra (B.1 + 1 - A.1) rc (thrL T A.1 (B.1 + 1 - A.1)) ∧ Below w.heap.size w w' := by
  have hl := h.len
  have hsm := h.small
  have hcnt := size_count L
  have hn1 : n ≤ 1048576 := by omega
  have hof := fun (i m mc : Nat) (ma : Option Addr) (W : World) (hm : m ≤ 9223372036854775807) => kof_any k A B lo hi i m mc ma W hk1 hk2 hm hB2 hh
  obtain ⟨a1, a2⟩ := A
  obtain ⟨b1, b2⟩ := B
  simp only at hAB hBn hB2 ⊢
  obtain ⟨M, hM⟩ : ∃ M, b1 + 1 - a1 = M := ⟨_, rfl⟩
  have hMi : (b1 : Int) + 1 - (a1 : Int) = (M : Int) := by omega
  have hMb : M ≤ 1048576 := by omega
  have hmk : ∀ W, (Instr.makeSlice 22 (.int .i64 0) (.int .i64 (M : Nat))).run Try.prog W = .ok (.slice (some ⟨W.heap.size, 0, none⟩) 0 M) (W.alloc (.cells (madeCells #[.slice none 0 0] M) 35)) := fun W => makeLc W 0 M (Nat.zero_le _) (by omega)
  rw [hM]
  unfold areaV at hof ⊢
  simp only at hof ⊢
  obtain ⟨wb, hwb⟩ : ∃ wb, w.alloc (.cells #[.int .i64 k, .int .i64 (a1 : Nat), .int .i64 (a2 : Nat), .int .i64 (b1 : Nat), .int .i64 (b2 : Nat), .int .i64 (lo : Nat), .int .i64 (hi : Nat)] 68) = wb := ⟨_, rfl⟩
  have g1 := heap_alloc_new w (.cells #[.int .i64 k, .int .i64 (a1 : Nat), .int .i64 (a2 : Nat), .int .i64 (b1 : Nat), .int .i64 (b2 : Nat), .int .i64 (lo : Nat), .int .i64 (hi : Nat)] 68)
  have hB := bal w (.cells #[.int .i64 k, .int .i64 (a1 : Nat), .int .i64 (a2 : Nat), .int .i64 (b1 : Nat), .int .i64 (b2 : Nat), .int .i64 (lo : Nat), .int .i64 (hi : Nat)] 68)
  rw [hwb] at g1 hB
  have hsz : wb.heap.size = w.heap.size + 1 := by rw [← hwb]; simp
  obtain ⟨g0, gg1, g2, g3, g4, g5, g6, z0, z1, z2, z3, z4, z5, z6, zl⟩ := ArB.of g1
  clear z0 z1 z2 z3 z4 z5 z6
  obtain ⟨b, hbe⟩ : ∃ b, w.heap.size = b := ⟨_, rfl⟩
  have HST : Hid (ThS w b (areaC k (a1, a2) (b1, b2) lo hi) (thrL T a1 0) (some ⟨wb.heap.size, 0, none⟩) 0 M (wb.alloc (.cells (madeCells #[.slice none 0 0] M) 35))) := by
    have hB2 := bal wb (.cells (madeCells #[.slice none 0 0] M) 35)
    refine ⟨?_, ?_, ?_, ?_⟩
    · exact (hB2.block b (by omega)).trans (by rw [← hbe]; exact g1)
    · refine ⟨[], World.ownsRow_made wb _ M (by omega) (by unfold maxLen; omega) (by simp [size_madeCells]), rfl, fun i x hx => by simp [thrL] at hx, fun i j vi vj hij hi => by simp at hi⟩
    · rw [← hbe]; exact hB.trans (hB2.mono hB.size)
    · have := hB2.size; omega
  have HP := Lib.hid (And.intro h (And.intro hl hs))
  have HOF := Lib.hid hof
  have HTELL := Lib.hid htell
  have HW := Lib.hid hwb
  have HBE := Lib.hid hbe
  have HM := Lib.hid hM
  rw [hbe] at g0 gg1 g2 g3 g4 g5 g6 zl
  rw [hbe]
  clear h hl hs hcnt hof htell hwb hbe g1 hB hM hsz
  go_enter Try.func39, Try.ntmps39
  go_upto_region 1 with fail
  rw [HBE.out, HW.out]
  go_wp2_with fail
  go_loopw [7, 8] (fun v7 v8 wr => ∃ (j : Nat) (ra : Option Addr) (rc : Nat), v7 = .slice ra j rc ∧ v8 = .int .i64 ((a1 + j : Nat) : Int) ∧ j ≤ M ∧ Hid (ThS w b (areaC k (a1, a2) (b1, b2) lo hi) (thrL T a1 j) ra j rc wr)) (fun _ v8 _ => b1 + 1 - (intOf v8).toNat)
  case atStart => exact ⟨0, _, _, rfl, rfl, Nat.zero_le _, HST⟩
  case round =>
    obtain ⟨j, ra, rc, rfl, rfl, hjM, hst⟩ := hrel
    clear HST g0 gg1 g2 g3 g4 g5 g6 zl
    obtain ⟨g0, gg1, g2, g3, g4, g5, g6, z0, z1, z2, z3, z4, z5, z6, zl⟩ := ArB.of hst.out.ar
    clear z0 z1 z2 z3 z4 z5 z6
    obtain ⟨i, hi'⟩ : ∃ i, a1 + j = i := ⟨_, rfl⟩
    rw [hi']
    have HI := Lib.hid hi'
    by_cases hlt : i ≤ b1
    · have hlti : (i : Int) ≤ (b1 : Int) := by omega
      have hin : (i : Int) < (n : Int) := by omega
      have hin2 : i < n := by omega
      have hi0 : (0 : Int) ≤ (i : Int) := by omega
      obtain ⟨x, hx⟩ : ∃ x, L[i]? = some x := ⟨_, List.getElem?_eq_getElem (by have := HP.out.2.1; omega)⟩
      have hbw : Below w.heap.size w wr := by rw [HBE.out]; exact hst.out.hb
      obtain ⟨lb, loff, xa, xc, rfl, hlb, _, hc, hrd, _⟩ := HP.out.1.get hbw hx
      have hlbr : lb < wr.heap.size := by have := hbw.size; omega
      have hxl : x.length ≤ 1048576 := by
        have hm : x.length ∈ lens L := List.mem_map.2 ⟨_, List.mem_of_getElem? hx, rfl⟩
        have := sizeN_mem hm
        have := HP.out.2.2
        omega
      have HC1 : Hid (∀ W, Below wr.heap.size wr W → Calls Try.prog 78 #[.agg #[.int .i64 k, .int .i64 (a1 : Nat), .int .i64 (a2 : Nat), .int .i64 (b1 : Nat), .int .i64 (b2 : Nat), .int .i64 (lo : Nat), .int .i64 (hi : Nat)], .slice xa x.length xc, .int .i64 (i : Nat)] W fun e w' => e = .returned (.tuple #[.int .i64 (agF k (a1, a2) lo i x.length : Nat), .int .i64 (agT k (b1, b2) hi i x.length : Nat)]) ∧
          (w'.cell? ⟨b, 0, none⟩ = some (.int .i64 k) ∧ w'.cell? ⟨b, 1, none⟩ = some (.int .i64 (a1 : Nat)) ∧ w'.cell? ⟨b, 2, none⟩ = some (.int .i64 (a2 : Nat)) ∧ w'.cell? ⟨b, 3, none⟩ = some (.int .i64 (b1 : Nat)) ∧ w'.cell? ⟨b, 4, none⟩ = some (.int .i64 (b2 : Nat)) ∧ w'.cell? ⟨b, 5, none⟩ = some (.int .i64 (lo : Nat)) ∧ w'.cell? ⟨b, 6, none⟩ = some (.int .i64 (hi : Nat)) ∧ w'.cell? ⟨lb, loff + i, none⟩ = some (.slice xa x.length xc)) ∧ Hid (Below wr.heap.size wr w')) := by
        intro W hW
        refine (HOF.out i x.length xc xa W (by omega)).mono ?_
        rintro e w' ⟨rfl, hb⟩
        have hb2 : Below wr.heap.size wr w' := hW.trans (hb.mono hW.size)
        obtain ⟨q0, q1, q2, q3, q4, q5, q6, -⟩ := ArB.of (hst.out.ar.below hb2)
        exact ⟨rfl, ⟨q0, q1, q2, q3, q4, q5, q6, (hb2.cell (p := ⟨lb, loff + i, none⟩) hlbr).trans hc⟩, hb2⟩
      have HTX := Lib.hid (HTELL.out i x xa xc)
      have HX := Lib.hid hx
      have HRD := Lib.hid hrd
      have HST := hst
      obtain ⟨y, hy⟩ : ∃ y, x.length = y := ⟨_, rfl⟩
      obtain ⟨fr, hfr⟩ : ∃ fr, agF k (a1, a2) lo i x.length = fr := ⟨_, rfl⟩
      obtain ⟨to_, hto⟩ : ∃ to_, agT k (b1, b2) hi i x.length = to_ := ⟨_, rfl⟩
      rw [hfr, hto, hy] at HC1 HTX
      rw [hy] at hc HRD
      have HLT := Lib.hid hlt
      have hir : a1 ≤ i := by omega
      have HIR := Lib.hid hir
      have H0 : Hid (Below wr.heap.size wr wr) := Below.refl _ _
      clear hst hx hrd hy hfr hto hxl hlb hbw hi' hir hlt
      go_upto_region 5 with fail
      go_cut [9, 10] (fun v9 v10 W => v9 = .int .i64 (fr : Nat) ∧ v10 = .int .i64 (to_ : Nat) ∧ Hid (Below wr.heap.size wr W))
      case first =>
        go_region_held3 (fun W => W.cell? ⟨b, 0, none⟩ = some (.int .i64 k) ∧ W.cell? ⟨b, 1, none⟩ = some (.int .i64 (a1 : Nat)) ∧ W.cell? ⟨b, 2, none⟩ = some (.int .i64 (a2 : Nat)) ∧ W.cell? ⟨b, 3, none⟩ = some (.int .i64 (b1 : Nat)) ∧ W.cell? ⟨b, 4, none⟩ = some (.int .i64 (b2 : Nat)) ∧ W.cell? ⟨b, 5, none⟩ = some (.int .i64 (lo : Nat)) ∧ W.cell? ⟨b, 6, none⟩ = some (.int .i64 (hi : Nat)) ∧ W.cell? ⟨lb, loff + i, none⟩ = some (.slice xa y xc))
          (first | exact ⟨g0, gg1, g2, g3, g4, g5, g6, hc⟩ | exact HQ)
          (first | (go_at_call 78; (with_reducible first | refine (HC1.out _ H0.out).mono ?_ | refine (HC1.out _ H0.out.drew).mono ?_); rintro e w1 ⟨rfl, HQ, HB1⟩))
        all_goals
          go_wp2_with fail
          go_meet
          exact ⟨rfl, rfl, HB1⟩
      case rest =>
        obtain ⟨rfl, rfl, HB1⟩ := hcut
        obtain ⟨wq, hwq⟩ : ∃ wq, wq = wc := ⟨_, rfl⟩
        subst hwq
        have HC2 : Hid (∀ W, W = wq → Calls Try.prog f #[.slice xa y xc, .int .i64 (fr : Nat), .int .i64 (to_ : Nat)] W fun e w' => ∃ (a5 : Option Addr) (m5 c5 : Nat) (a3 : Option Addr) (c3 : Nat) (w3 : World), e = .returned (.slice a5 m5 c5) ∧ Hid (∀ ty, (Builtin.append_ #[22, 22] ty #[.slice ra j rc, .slice (some ⟨w'.heap.size, 0, none⟩) 1 1]).run Try.prog (w'.alloc (.cells #[.slice a5 m5 c5] 35)) = .ok (.slice a3 (j + 1) c3) w3) ∧ Hid (ThS w b (areaC k (a1, a2) (b1, b2) lo hi) (thrL T a1 (j + 1)) a3 (j + 1) c3 w3)) := by
          rintro W rfl
          have hbW : Below w.heap.size w W := by
            rw [HBE.out]
            exact HST.out.hb.trans (HB1.out.mono (by have := HST.out.l; omega))
          refine (HTX.out W HIR.out HLT.out HX.out hbW (HRD.out.below HB1.out)).mono ?_
          rintro e w' ⟨a5, c5, rfl, ho, hb5⟩
          obtain ⟨a3, c3, w3, hrun, hN⟩ := (HST.out.below HB1.out).step hb5 rfl ho (by omega)
          rw [thrL_succ, HI.out]
          exact ⟨a5, _, c5, a3, c3, w3, rfl, hrun, hN⟩
        have hcq : wq.cell? ⟨lb, loff + i, none⟩ = some (.slice xa y xc) := (HB1.out.cell (p := ⟨lb, loff + i, none⟩) hlbr).trans hc
        have hlq : lb < wq.heap.size := by have := HB1.out.size; omega
        clear hc g0 gg1 g2 g3 g4 g5 g6 zl HC1 HTX HRD hlbr
        go_wp2_with (first
          | (at_builtin; go_must (with_reducible refine Lib.wpList_append_run _ rfl (.tmp 40) (.tmp 49) _ _ rfl _ _ rfl rfl _ _ (HRUN.out _) ?_))
          | ((with_reducible (refine (HC2.out _ rfl).mono ?_)); rintro e w2 ⟨a5, m5, c5, a3, c3, w3, rfl, HRUN, HN⟩))
        have hji : a1 + (j + 1) = i + 1 := by have := HI.out; omega
        go_roundw
        case rel => exact ⟨j + 1, a3, c3, rfl, by rw [hji]; go_num, by have := HM.out; have := HI.out; have := HLT.out; omega, HN⟩
        case measure => have := HLT.out; simp [intOf]; omega
    · have hjm : j = M := by have := HM.out; omega
      subst hjm
      have hgt : ¬ (i : Int) ≤ (b1 : Int) := by omega
      have hgt2 : (b1 : Int) < (i : Int) := by omega
      have HF : Hid (FreshL b wr ra j rc (thrL T a1 j) ∧ Below b w wr) := ⟨hst.out.fr.mono (by omega), hst.out.hb⟩
      clear hst
      go_wp2_with fail
      go_ret
      exact ⟨_, _, rfl, HF.out.1, HF.out.2⟩
set_option maxHeartbeats 8000000 in
theorem kthrough_box (F : Nat → Prop) (a : Option Addr) (n c : Nat) (L : List (List Int)) (k : Int) (A B : Pl) (lo hi : Nat) (hbx : Nat) (f : FuncId) (T : Nat → List Int) (w : World) (h : RdL F w a n c L) (hs : sizeN (lens L) ≤ 1048576)
    (hk1 : 0 ≤ k) (hk2 : k ≤ 2) (hAB : A.1 ≤ B.1) (hBn : B.1 < n) (hB2 : B.2 ≤ 1099511627776) (hh : hi ≤ 1099511627776)
    (hcf : ∀ (xs : Array Value) (W : World), Sem.run Try.prog (callFunc f xs) W = .ok (.enter f xs) W)
    (htell : ∀ (i : Nat) (x : List Int) (xa : Option Addr) (xc : Nat) (W : World), A.1 ≤ i → i ≤ B.1 → L[i]? = some x → Below w.heap.size w W → Rd .i32 W xa x.length xc x →
      Calls Try.prog f #[.slice xa x.length xc, .int .i64 (agF k A lo i x.length : Nat), .int .i64 (agT k B hi i x.length : Nat), .pointer (some ⟨hbx, 0, none⟩)] W fun e w' => ∃ ra rc, e = .returned (.slice ra (T i).length rc) ∧ w'.ownsRow W.heap.size 21 1 (.slice ra (T i).length rc) (T i).length (ints (T i)) ∧ Below W.heap.size W w') :
    Calls Try.prog 39 #[.slice a n c, areaV k A B lo hi, .func (.func f) #[] #[.pointer (some ⟨hbx, 0, none⟩)]] w fun e w' => ∃ ra rc, e = .returned (.slice ra (B.1 + 1 - A.1) rc) ∧ FreshL w.heap.size w' ra (B.1 + 1 - A.1) rc (thrL T A.1 (B.1 + 1 - A.1)) ∧ Below w.heap.size w w' := by
  have hl := h.len
  have hsm := h.small
  have hcnt := size_count L
  have hn1 : n ≤ 1048576 := by omega
  have hof := fun (i m mc : Nat) (ma : Option Addr) (W : World) (hm : m ≤ 9223372036854775807) => kof_any k A B lo hi i m mc ma W hk1 hk2 hm hB2 hh
  obtain ⟨a1, a2⟩ := A
  obtain ⟨b1, b2⟩ := B
  simp only at hAB hBn hB2 ⊢
  obtain ⟨M, hM⟩ : ∃ M, b1 + 1 - a1 = M := ⟨_, rfl⟩
  have hMi : (b1 : Int) + 1 - (a1 : Int) = (M : Int) := by omega
  have hMb : M ≤ 1048576 := by omega
  have hmk : ∀ W, (Instr.makeSlice 22 (.int .i64 0) (.int .i64 (M : Nat))).run Try.prog W = .ok (.slice (some ⟨W.heap.size, 0, none⟩) 0 M) (W.alloc (.cells (madeCells #[.slice none 0 0] M) 35)) := fun W => makeLc W 0 M (Nat.zero_le _) (by omega)
  rw [hM]
  unfold areaV at hof ⊢
  simp only at hof ⊢
  obtain ⟨wb, hwb⟩ : ∃ wb, w.alloc (.cells #[.int .i64 k, .int .i64 (a1 : Nat), .int .i64 (a2 : Nat), .int .i64 (b1 : Nat), .int .i64 (b2 : Nat), .int .i64 (lo : Nat), .int .i64 (hi : Nat)] 68) = wb := ⟨_, rfl⟩
  have g1 := heap_alloc_new w (.cells #[.int .i64 k, .int .i64 (a1 : Nat), .int .i64 (a2 : Nat), .int .i64 (b1 : Nat), .int .i64 (b2 : Nat), .int .i64 (lo : Nat), .int .i64 (hi : Nat)] 68)
  have hB := bal w (.cells #[.int .i64 k, .int .i64 (a1 : Nat), .int .i64 (a2 : Nat), .int .i64 (b1 : Nat), .int .i64 (b2 : Nat), .int .i64 (lo : Nat), .int .i64 (hi : Nat)] 68)
  rw [hwb] at g1 hB
  have hsz : wb.heap.size = w.heap.size + 1 := by rw [← hwb]; simp
  obtain ⟨g0, gg1, g2, g3, g4, g5, g6, z0, z1, z2, z3, z4, z5, z6, zl⟩ := ArB.of g1
  clear z0 z1 z2 z3 z4 z5 z6
  obtain ⟨b, hbe⟩ : ∃ b, w.heap.size = b := ⟨_, rfl⟩
  have HST : Hid (ThS w b (areaC k (a1, a2) (b1, b2) lo hi) (thrL T a1 0) (some ⟨wb.heap.size, 0, none⟩) 0 M (wb.alloc (.cells (madeCells #[.slice none 0 0] M) 35))) := by
    have hB2 := bal wb (.cells (madeCells #[.slice none 0 0] M) 35)
    refine ⟨?_, ?_, ?_, ?_⟩
    · exact (hB2.block b (by omega)).trans (by rw [← hbe]; exact g1)
    · refine ⟨[], World.ownsRow_made wb _ M (by omega) (by unfold maxLen; omega) (by simp [size_madeCells]), rfl, fun i x hx => by simp [thrL] at hx, fun i j vi vj hij hi => by simp at hi⟩
    · rw [← hbe]; exact hB.trans (hB2.mono hB.size)
    · have := hB2.size; omega
  have HP := Lib.hid (And.intro h (And.intro hl hs))
  have HOF := Lib.hid hof
  have HTELL := Lib.hid htell
  have HW := Lib.hid hwb
  have HBE := Lib.hid hbe
  have HM := Lib.hid hM
  rw [hbe] at g0 gg1 g2 g3 g4 g5 g6 zl
  rw [hbe]
  clear h hl hs hcnt hof htell hwb hbe g1 hB hM hsz
  go_enter Try.func39, Try.ntmps39
  go_upto_region 1 with fail
  rw [HBE.out, HW.out]
  go_wp2_with fail
  go_loopw [7, 8] (fun v7 v8 wr => ∃ (j : Nat) (ra : Option Addr) (rc : Nat), v7 = .slice ra j rc ∧ v8 = .int .i64 ((a1 + j : Nat) : Int) ∧ j ≤ M ∧ Hid (ThS w b (areaC k (a1, a2) (b1, b2) lo hi) (thrL T a1 j) ra j rc wr)) (fun _ v8 _ => b1 + 1 - (intOf v8).toNat)
  case atStart => exact ⟨0, _, _, rfl, rfl, Nat.zero_le _, HST⟩
  case round =>
    obtain ⟨j, ra, rc, rfl, rfl, hjM, hst⟩ := hrel
    clear HST g0 gg1 g2 g3 g4 g5 g6 zl
    obtain ⟨g0, gg1, g2, g3, g4, g5, g6, z0, z1, z2, z3, z4, z5, z6, zl⟩ := ArB.of hst.out.ar
    clear z0 z1 z2 z3 z4 z5 z6
    obtain ⟨i, hi'⟩ : ∃ i, a1 + j = i := ⟨_, rfl⟩
    rw [hi']
    have HI := Lib.hid hi'
    by_cases hlt : i ≤ b1
    · have hlti : (i : Int) ≤ (b1 : Int) := by omega
      have hin : (i : Int) < (n : Int) := by omega
      have hin2 : i < n := by omega
      have hi0 : (0 : Int) ≤ (i : Int) := by omega
      obtain ⟨x, hx⟩ : ∃ x, L[i]? = some x := ⟨_, List.getElem?_eq_getElem (by have := HP.out.2.1; omega)⟩
      have hbw : Below w.heap.size w wr := by rw [HBE.out]; exact hst.out.hb
      obtain ⟨lb, loff, xa, xc, rfl, hlb, _, hc, hrd, _⟩ := HP.out.1.get hbw hx
      have hlbr : lb < wr.heap.size := by have := hbw.size; omega
      have hxl : x.length ≤ 1048576 := by
        have hm : x.length ∈ lens L := List.mem_map.2 ⟨_, List.mem_of_getElem? hx, rfl⟩
        have := sizeN_mem hm
        have := HP.out.2.2
        omega
      have HC1 : Hid (∀ W, Below wr.heap.size wr W → Calls Try.prog 78 #[.agg #[.int .i64 k, .int .i64 (a1 : Nat), .int .i64 (a2 : Nat), .int .i64 (b1 : Nat), .int .i64 (b2 : Nat), .int .i64 (lo : Nat), .int .i64 (hi : Nat)], .slice xa x.length xc, .int .i64 (i : Nat)] W fun e w' => e = .returned (.tuple #[.int .i64 (agF k (a1, a2) lo i x.length : Nat), .int .i64 (agT k (b1, b2) hi i x.length : Nat)]) ∧
          (w'.cell? ⟨b, 0, none⟩ = some (.int .i64 k) ∧ w'.cell? ⟨b, 1, none⟩ = some (.int .i64 (a1 : Nat)) ∧ w'.cell? ⟨b, 2, none⟩ = some (.int .i64 (a2 : Nat)) ∧ w'.cell? ⟨b, 3, none⟩ = some (.int .i64 (b1 : Nat)) ∧ w'.cell? ⟨b, 4, none⟩ = some (.int .i64 (b2 : Nat)) ∧ w'.cell? ⟨b, 5, none⟩ = some (.int .i64 (lo : Nat)) ∧ w'.cell? ⟨b, 6, none⟩ = some (.int .i64 (hi : Nat)) ∧ w'.cell? ⟨lb, loff + i, none⟩ = some (.slice xa x.length xc)) ∧ Hid (Below wr.heap.size wr w')) := by
        intro W hW
        refine (HOF.out i x.length xc xa W (by omega)).mono ?_
        rintro e w' ⟨rfl, hb⟩
        have hb2 : Below wr.heap.size wr w' := hW.trans (hb.mono hW.size)
        obtain ⟨q0, q1, q2, q3, q4, q5, q6, -⟩ := ArB.of (hst.out.ar.below hb2)
        exact ⟨rfl, ⟨q0, q1, q2, q3, q4, q5, q6, (hb2.cell (p := ⟨lb, loff + i, none⟩) hlbr).trans hc⟩, hb2⟩
      have HTX := Lib.hid (HTELL.out i x xa xc)
      have HX := Lib.hid hx
      have HRD := Lib.hid hrd
      have HST := hst
      obtain ⟨y, hy⟩ : ∃ y, x.length = y := ⟨_, rfl⟩
      obtain ⟨fr, hfr⟩ : ∃ fr, agF k (a1, a2) lo i x.length = fr := ⟨_, rfl⟩
      obtain ⟨to_, hto⟩ : ∃ to_, agT k (b1, b2) hi i x.length = to_ := ⟨_, rfl⟩
      rw [hfr, hto, hy] at HC1 HTX
      rw [hy] at hc HRD
      have HLT := Lib.hid hlt
      have hir : a1 ≤ i := by omega
      have HIR := Lib.hid hir
      have H0 : Hid (Below wr.heap.size wr wr) := Below.refl _ _
      clear hst hx hrd hy hfr hto hxl hlb hbw hi' hir hlt
      go_upto_region 5 with fail
      go_cut [9, 10] (fun v9 v10 W => v9 = .int .i64 (fr : Nat) ∧ v10 = .int .i64 (to_ : Nat) ∧ Hid (Below wr.heap.size wr W))
      case first =>
        go_region_held3 (fun W => W.cell? ⟨b, 0, none⟩ = some (.int .i64 k) ∧ W.cell? ⟨b, 1, none⟩ = some (.int .i64 (a1 : Nat)) ∧ W.cell? ⟨b, 2, none⟩ = some (.int .i64 (a2 : Nat)) ∧ W.cell? ⟨b, 3, none⟩ = some (.int .i64 (b1 : Nat)) ∧ W.cell? ⟨b, 4, none⟩ = some (.int .i64 (b2 : Nat)) ∧ W.cell? ⟨b, 5, none⟩ = some (.int .i64 (lo : Nat)) ∧ W.cell? ⟨b, 6, none⟩ = some (.int .i64 (hi : Nat)) ∧ W.cell? ⟨lb, loff + i, none⟩ = some (.slice xa y xc))
          (first | exact ⟨g0, gg1, g2, g3, g4, g5, g6, hc⟩ | exact HQ)
          (first | (go_at_call 78; (with_reducible first | refine (HC1.out _ H0.out).mono ?_ | refine (HC1.out _ H0.out.drew).mono ?_); rintro e w1 ⟨rfl, HQ, HB1⟩))
        all_goals
          go_wp2_with fail
          go_meet
          exact ⟨rfl, rfl, HB1⟩
      case rest =>
        obtain ⟨rfl, rfl, HB1⟩ := hcut
        obtain ⟨wq, hwq⟩ : ∃ wq, wq = wc := ⟨_, rfl⟩
        subst hwq
        have HC2 : Hid (∀ W, W = wq → Calls Try.prog f #[.slice xa y xc, .int .i64 (fr : Nat), .int .i64 (to_ : Nat), .pointer (some ⟨hbx, 0, none⟩)] W fun e w' => ∃ (a5 : Option Addr) (m5 c5 : Nat) (a3 : Option Addr) (c3 : Nat) (w3 : World), e = .returned (.slice a5 m5 c5) ∧ Hid (∀ ty, (Builtin.append_ #[22, 22] ty #[.slice ra j rc, .slice (some ⟨w'.heap.size, 0, none⟩) 1 1]).run Try.prog (w'.alloc (.cells #[.slice a5 m5 c5] 35)) = .ok (.slice a3 (j + 1) c3) w3) ∧ Hid (ThS w b (areaC k (a1, a2) (b1, b2) lo hi) (thrL T a1 (j + 1)) a3 (j + 1) c3 w3)) := by
          rintro W rfl
          have hbW : Below w.heap.size w W := by
            rw [HBE.out]
            exact HST.out.hb.trans (HB1.out.mono (by have := HST.out.l; omega))
          refine (HTX.out W HIR.out HLT.out HX.out hbW (HRD.out.below HB1.out)).mono ?_
          rintro e w' ⟨a5, c5, rfl, ho, hb5⟩
          obtain ⟨a3, c3, w3, hrun, hN⟩ := (HST.out.below HB1.out).step hb5 rfl ho (by omega)
          rw [thrL_succ, HI.out]
          exact ⟨a5, _, c5, a3, c3, w3, rfl, hrun, hN⟩
        have hcq : wq.cell? ⟨lb, loff + i, none⟩ = some (.slice xa y xc) := (HB1.out.cell (p := ⟨lb, loff + i, none⟩) hlbr).trans hc
        have hlq : lb < wq.heap.size := by have := HB1.out.size; omega
        clear hc g0 gg1 g2 g3 g4 g5 g6 zl HC1 HTX HRD hlbr
        go_wp2_with (first
          | (at_builtin; go_must (with_reducible refine Lib.wpList_append_run _ rfl (.tmp 40) (.tmp 49) _ _ rfl _ _ rfl rfl _ _ (HRUN.out _) ?_))
          | ((with_reducible (refine (HC2.out _ rfl).mono ?_)); rintro e w2 ⟨a5, m5, c5, a3, c3, w3, rfl, HRUN, HN⟩))
        have hji : a1 + (j + 1) = i + 1 := by have := HI.out; omega
        go_roundw
        case rel => exact ⟨j + 1, a3, c3, rfl, by rw [hji]; go_num, by have := HM.out; have := HI.out; have := HLT.out; omega, HN⟩
        case measure => have := HLT.out; simp [intOf]; omega
    · have hjm : j = M := by have := HM.out; omega
      subst hjm
      have hgt : ¬ (i : Int) ≤ (b1 : Int) := by omega
      have hgt2 : (b1 : Int) < (i : Int) := by omega
      have HF : Hid (FreshL b wr ra j rc (thrL T a1 j) ∧ Below b w wr) := ⟨hst.out.fr.mono (by omega), hst.out.hb⟩
      clear hst
      go_wp2_with fail
      go_ret
      exact ⟨_, _, rfl, HF.out.1, HF.out.2⟩
end Go.Proofs.Ytfldjoiohejilaa.U

namespace Go.Proofs.Ytfldjoiohejilaa.U
open Go.RowKit
set_option linter.unusedVariables false
set_option linter.unusedSimpArgs false
set_option maxRecDepth 100000

/-- a piece of a row, copied -/
theorem ktake1_any (xa : Option Addr) (m xc : Nat) (x : List Int) (fr to_ : Nat) (w : World) (h : Rd .i32 w xa m xc x) (h1 : fr ≤ to_) (h2 : to_ ≤ m) (hm : m ≤ 1048576) :
    Calls Try.prog 40 #[.slice xa m xc, .int .i64 (fr : Nat), .int .i64 (to_ : Nat)] w fun e w' => ∃ ra rc, e = .returned (.slice ra (to_ - fr) rc) ∧ w'.ownsRow w.heap.size 21 1 (.slice ra (to_ - fr) rc) (to_ - fr) (ints ((x.take to_).drop fr)) ∧ Below w.heap.size w w' := by
  have hmc : m ≤ xc ∧ xc ≤ 9223372036854775807 := by have := h.2.1; have := h.2.2.1; unfold maxLen at this; exact ⟨by omega, by omega⟩
  obtain ⟨hmc, hxc⟩ := hmc
  have hd := (h.take to_ h2).drop fr h1
  by_cases hm0 : m = 0
  · subst hm0
    obtain rfl : to_ = 0 := by omega
    obtain rfl : fr = 0 := by omega
    have hx : x = [] := List.eq_nil_of_length_eq_zero h.1
    subst hx
    have HC : Hid (∀ (da : Option Addr) (dc : Nat), dc = xc → (da = none → xc = 0) → Calls Try.prog 41 #[.slice da 0 dc] w fun e w' => ∃ ra rc, e = .returned (.slice ra 0 rc) ∧ Hid (w'.ownsRow w.heap.size 21 1 (.slice ra 0 rc) 0 (ints []) ∧ Below w.heap.size w w')) := by
      rintro da dc rfl hda
      refine (copied_rd da 0 dc [] w (Rd.nil .i32 w da dc h.2.2.1 hda) (by omega)).mono ?_
      rintro e w' ⟨ra, rc, rfl, ho, hb⟩
      exact ⟨ra, rc, rfl, ho, hb⟩
    have hna := h.2.2.2.2.1
    clear h hd
    have h00 : (([] : List Int).take 0).drop 0 = [] := rfl
    rw [h00]
    cases xa with
    | none =>
      obtain rfl : xc = 0 := hna rfl
      go_enter Try.func40, Try.ntmps40
      go_wp2_with (go_at_call 41; (refine (HC.out _ _ (by first | rfl | omega) (by intros; first | rfl | omega)).mono ?_); rintro e w1 ⟨ra, rc, rfl, HF⟩)
      go_ret
      exact ⟨_, _, rfl, HF.out.1, HF.out.2⟩
    | some ad =>
      clear hna
      by_cases hc0 : xc = 0
      · subst hc0
        go_enter Try.func40, Try.ntmps40
        go_wp2_with (go_at_call 41; (refine (HC.out _ _ (by first | rfl | omega) (by intros; first | rfl | omega)).mono ?_); rintro e w1 ⟨ra, rc, rfl, HF⟩)
        go_ret
        exact ⟨_, _, rfl, HF.out.1, HF.out.2⟩
      · go_enter Try.func40, Try.ntmps40
        go_wp2_with (go_at_call 41; (refine (HC.out _ _ (by first | rfl | omega) (by intro hz; first | (cases hz; done) | (simp at hz))).mono ?_); rintro e w1 ⟨ra, rc, rfl, HF⟩)
        go_ret
        exact ⟨_, _, rfl, HF.out.1, HF.out.2⟩
  · obtain ⟨xb, xo, rfl, hcx⟩ := h.2.2.2.2.2 (by omega)
    obtain ⟨da, hda⟩ : ∃ da, (if xc = fr then some (⟨xb, xo, none⟩ : Addr) else (some (⟨xb, xo, none⟩ : Addr)).map (·.add (fr * 1))) = da := ⟨_, rfl⟩
    rw [hda] at hd
    have HC : Hid (Calls Try.prog 41 #[.slice da (to_ - fr) (xc - fr)] w fun e w' => ∃ ra rc, e = .returned (.slice ra (to_ - fr) rc) ∧ Hid (w'.ownsRow w.heap.size 21 1 (.slice ra (to_ - fr) rc) (to_ - fr) (ints ((x.take to_).drop fr)) ∧ Below w.heap.size w w')) := by
      refine (copied_rd da (to_ - fr) (xc - fr) _ w hd (by omega)).mono ?_
      rintro e w' ⟨ra, rc, rfl, ho, hb⟩
      exact ⟨ra, rc, rfl, ho, hb⟩
    have hfm : fr ≤ xc := by omega
    have htm : to_ ≤ xc := by omega
    clear hcx hd h
    by_cases hcf : xc = fr
    · rw [if_pos hcf] at hda
      subst hda
      obtain rfl : m = fr := by omega
      obtain rfl : to_ = m := by omega
      subst hcf
      simp only [Nat.sub_self] at HC ⊢
      go_enter Try.func40, Try.ntmps40
      go_wp2_with (go_at_call 41; (refine HC.out.mono ?_); rintro e w1 ⟨ra, rc, rfl, HF⟩)
      go_ret
      exact ⟨_, _, rfl, HF.out.1, HF.out.2⟩
    · rw [if_neg hcf] at hda
      simp only [Option.map_some, Nat.mul_one, add_lit] at hda
      subst hda
      go_enter Try.func40, Try.ntmps40
      go_wp2_with (go_at_call 41; (refine HC.out.mono ?_); rintro e w1 ⟨ra, rc, rfl, HF⟩)
      go_ret
      exact ⟨_, _, rfl, HF.out.1, HF.out.2⟩
/-- Take's boxes: the region at b, the result behind it -/
def TaS (w : World) (b : Nat) (r : Rgn) (W : World) : Prop := Below b w W ∧ RgB b r W ∧ W.heap[b + 1]? = some (.cells #[.int .i64 0, .slice none 0 0] 30 (0, 0))
theorem TaS.below {w W W' : World} {b : Nat} {r : Rgn} (h : TaS w b r W) (hw : w.heap.size = b) (hb : Below W.heap.size W W') : TaS w b r W' :=
  ⟨h.1.trans (hb.mono (by have := h.1.size; omega)), h.2.1.below hb, (hb.block _ (heap_lt h.2.2)).trans h.2.2⟩
theorem tas_new (w : World) (r : Rgn) : TaS w w.heap.size r ((w.alloc (.cells #[.int .i64 r.f.l, .int .i64 r.f.c, .int .i64 r.t.l, .int .i64 r.t.c, .int .i64 r.k] 26)).alloc (.cells #[.int .i64 0, .slice none 0 0] 30)) := by
  obtain ⟨g1, g2⟩ := two_new w #[.int .i64 r.f.l, .int .i64 r.f.c, .int .i64 r.t.l, .int .i64 r.t.c, .int .i64 r.k] #[.int .i64 0, .slice none 0 0] 26 30 _ (Below.refl _ _)
  exact ⟨((Below.refl _ _).alloc (Nat.le_refl _) _).alloc (by simp) _, RgB.of g1, g2⟩
set_option maxHeartbeats 4000000 in
theorem ktake_no (F : Nat → Prop) (a : Option Addr) (n c : Nat) (L : List (List Int)) (r : Rgn) (w : World) (h : RdL F w a n c L) (hr : i64r r) (hR : thereR L r ≠ 0) :
    Calls Try.prog 13 #[.slice a n c, r.v] w fun e w' => e = .returned (.tuple #[rgV 0 none 0 0, .int .i64 (thereR L r)]) ∧ Below w.heap.size w w' := by
  have hfi := fun W (hW : Below w.heap.size w W) => kfind_no F a n c L r _ W (h.below hW) hr rfl hR
  obtain ⟨E, hE⟩ : ∃ E, thereR L r = E := ⟨_, rfl⟩
  rw [hE] at hR hfi ⊢
  obtain ⟨⟨f1, f2⟩, ⟨t1, t2⟩, k⟩ := r
  have hE0 : (E != 0) = true := by simpa using hR
  obtain ⟨wb, hwb⟩ : ∃ wb, (w.alloc (.cells #[.int .i64 f1, .int .i64 f2, .int .i64 t1, .int .i64 t2, .int .i64 k] 26)).alloc (.cells #[.int .i64 0, .slice none 0 0] 30) = wb := ⟨_, rfl⟩
  have hnew := tas_new w ⟨⟨f1, f2⟩, ⟨t1, t2⟩, k⟩
  simp only at hnew
  rw [hwb] at hnew
  obtain ⟨b, hbe⟩ : ∃ b, w.heap.size = b := ⟨_, rfl⟩
  have HC : Hid (∀ W, W = wb → Calls Try.prog 38 #[.slice a n c, .agg #[.int .i64 f1, .int .i64 f2, .int .i64 t1, .int .i64 t2, .int .i64 k]] W fun e w' => e = .returned (.tuple #[.agg #[.int .i64 0, .int .i64 0, .int .i64 0, .int .i64 0, .int .i64 0, .int .i64 0, .int .i64 0], .int .i64 E]) ∧ Hid (TaS w b ⟨⟨f1, f2⟩, ⟨t1, t2⟩, k⟩ w')) := by
    rintro W rfl
    refine (hfi W hnew.1).mono ?_
    rintro e w' ⟨rfl, hb⟩
    rw [← hbe]
    exact ⟨rfl, hnew.below rfl hb⟩
  have HBE := Lib.hid hbe
  rw [hbe] at hnew
  rw [hbe]
  obtain ⟨c0, c1, c2, c3, c4, l0⟩ := hnew.2.1
  simp only at c0 c1 c2 c3 c4
  have HW := Lib.hid hwb
  clear hwb hnew hbe h hfi hE hR hr
  show Calls Try.prog 13 #[.slice a n c, .agg #[.int .i64 f1, .int .i64 f2, .int .i64 t1, .int .i64 t2, .int .i64 k]] w _
  go_enter Try.func13, Try.ntmps13
  go_upto_region 1 with fail
  rw [HBE.out, HW.out]
  go_upto_region 2 with (go_at_call 38; (refine (HC.out _ rfl).mono ?_); rintro e w1 ⟨rfl, HT⟩)
  have HT2 : Hid (TaS w b ⟨⟨f1, f2⟩, ⟨t1, t2⟩, k⟩ (w1.alloc (.cells #[.int .i64 0, .int .i64 0, .int .i64 0, .int .i64 0, .int .i64 0, .int .i64 0, .int .i64 0] 68))) := HT.out.below HBE.out (bal _ _)
  obtain ⟨w2, hw2⟩ : ∃ w2, (w1.alloc (.cells #[.int .i64 0, .int .i64 0, .int .i64 0, .int .i64 0, .int .i64 0, .int .i64 0, .int .i64 0] 68)) = w2 := ⟨_, rfl⟩
  rw [hw2] at HT2
  rw [hw2]
  clear hw2 c0 c1 c2 c3 c4 l0
  have hz := HT2.out.2.2
  have q0 := cell_row hz 0
  have q1 := cell_row hz 1
  have q2 := frozen_row hz 0
  have q3 := frozen_row hz 1
  have ql := heap_lt hz
  have HB := Lib.hid HT2.out.1
  clear hz
  go_wp2
  refine bodyPost_ret (v := .tuple #[rgV 0 none 0 0, .int .i64 E]) ?_ rfl ⟨rfl, ?_⟩
  · rw [results_ct rfl]
    go_simp
    first | rfl | done
  · (try with_reducible refine Below.drew ?_)
    (repeat' (first | (with_reducible exact HB.out) | (with_reducible refine setCell_below ?_ _ _ _ ?_) | omega))
set_option maxHeartbeats 4000000 in
theorem ktake_ok (F : Nat → Prop) (a : Option Addr) (n c : Nat) (L : List (List Int)) (p q : Pl) (k : Int) (w : World) (h : RdL F w a n c L) (hs : sizeN (lens L) ≤ 1048576) (hp : okP L p) (hq : okP L q) (h1 : 0 ≤ k) (h2 : k ≤ 2) :
    Calls Try.prog 13 #[.slice a n c, rgnV p q k] w fun e w' => ∃ ra rc, e = .returned (.tuple #[rgV k ra (overN p q) rc, .int .i64 0]) ∧ FreshL w.heap.size w' ra (overN p q) rc (takeL L p q k) ∧ Below w.heap.size w w' := by
  have hl := h.len
  have hfi := fun W (hW : Below w.heap.size w W) => kfind_ok F a n c L p q k W (h.below hW) hs hp hq h1 h2
  obtain ⟨hoA, hoB⟩ := endsR_ok hp hq
  have hBi := i64_okP h hs hoB
  have hqi := i64_okP h hs hq
  have hpi := i64_okP h hs hp
  have hle := endsR_le p q
  have hth := fun W (hW : Below w.heap.size w W) => kthrough_any F a n c L k (endsR p q).1 (endsR p q).2 (min p.2 q.2) (max p.2 q.2) 40 (inL L k p q) W (h.below hW) hs h1 h2 hle (by have := hoB.1; omega) (by omega) (by omega) (fun xs W => rfl)
    (fun i x xa xc W2 hi1 hi2 hx hW2 hrd => by
      have hxl : x.length ≤ 1048576 := by
        have hm : x.length ∈ lens L := List.mem_map.2 ⟨_, List.mem_of_getElem? hx, rfl⟩
        have := sizeN_mem hm
        omega
      have hln := lnL_of hx
      have hin := in_of (k := k) hp hq h1 h2 hi1 hi2
      have hof := of_le (k := k) hp hq i
      rw [hln] at hin hof
      have hlen : (inL L k p q i).length = ofT k p q i x.length - ofF k p q i x.length := by rw [hin]; simp; omega
      refine (ktake1_any xa x.length xc x (agF k (endsR p q).1 (min p.2 q.2) i x.length) (agT k (endsR p q).2 (max p.2 q.2) i x.length) W2 hrd (by rw [agF_of, agT_of]; exact hof.1) (by rw [agT_of]; exact hof.2) hxl).mono ?_
      rintro e w' ⟨ra, rc, rfl, ho, hb⟩
      rw [agF_of, agT_of] at ho ⊢
      rw [hlen, hin]
      exact ⟨ra, rc, rfl, ho, hb⟩)
  have hfr : thrL (inL L k p q) (endsR p q).1.1 ((endsR p q).2.1 + 1 - (endsR p q).1.1) = takeL L p q k := rfl
  have hov : (endsR p q).2.1 + 1 - (endsR p q).1.1 = overN p q := rfl
  rw [hfr, hov] at hth
  obtain ⟨T, hT⟩ : ∃ T, takeL L p q k = T := ⟨_, rfl⟩
  obtain ⟨O, hO⟩ : ∃ O, overN p q = O := ⟨_, rfl⟩
  rw [hT, hO] at hth ⊢
  obtain ⟨lo, hlo⟩ : ∃ lo, min p.2 q.2 = lo := ⟨_, rfl⟩
  obtain ⟨hi, hhi⟩ : ∃ hi, max p.2 q.2 = hi := ⟨_, rfl⟩
  rw [hlo, hhi] at hth hfi
  obtain ⟨⟨⟨a1, a2⟩, ⟨b1, b2⟩⟩, hEE⟩ : ∃ E, endsR p q = E := ⟨_, rfl⟩
  rw [hEE] at hth hfi
  obtain ⟨x1, x2⟩ := p
  obtain ⟨y1, y2⟩ := q
  unfold rgnV areaV at *
  simp only at hth hfi ⊢
  obtain ⟨wb, hwb⟩ : ∃ wb, (w.alloc (.cells #[.int .i64 (x1 : Nat), .int .i64 (x2 : Nat), .int .i64 (y1 : Nat), .int .i64 (y2 : Nat), .int .i64 k] 26)).alloc (.cells #[.int .i64 0, .slice none 0 0] 30) = wb := ⟨_, rfl⟩
  have hnew := tas_new w ⟨⟨(x1 : Nat), (x2 : Nat)⟩, ⟨(y1 : Nat), (y2 : Nat)⟩, k⟩
  simp only at hnew
  rw [hwb] at hnew
  obtain ⟨b, hbe⟩ : ∃ b, w.heap.size = b := ⟨_, rfl⟩
  have HC : Hid (∀ W, W = wb → Calls Try.prog 38 #[.slice a n c, .agg #[.int .i64 (x1 : Nat), .int .i64 (x2 : Nat), .int .i64 (y1 : Nat), .int .i64 (y2 : Nat), .int .i64 k]] W fun e w' => e = .returned (.tuple #[.agg #[.int .i64 k, .int .i64 (a1 : Nat), .int .i64 (a2 : Nat), .int .i64 (b1 : Nat), .int .i64 (b2 : Nat), .int .i64 (lo : Nat), .int .i64 (hi : Nat)], .int .i64 0]) ∧ Hid (TaS w b ⟨⟨(x1 : Nat), (x2 : Nat)⟩, ⟨(y1 : Nat), (y2 : Nat)⟩, k⟩ w')) := by
    rintro W rfl
    refine (hfi W hnew.1).mono ?_
    rintro e w' ⟨rfl, hb⟩
    rw [← hbe]
    exact ⟨rfl, hnew.below rfl hb⟩
  have HTH : Hid (∀ W, Hid (TaS w b ⟨⟨(x1 : Nat), (x2 : Nat)⟩, ⟨(y1 : Nat), (y2 : Nat)⟩, k⟩ W) → Calls Try.prog 39 #[.slice a n c, .agg #[.int .i64 k, .int .i64 (a1 : Nat), .int .i64 (a2 : Nat), .int .i64 (b1 : Nat), .int .i64 (b2 : Nat), .int .i64 (lo : Nat), .int .i64 (hi : Nat)], .func (.func 40) #[] #[]] W fun e w' => ∃ ra rc, e = .returned (.slice ra O rc) ∧ w'.cell? ⟨b, 4, none⟩ = some (.int .i64 k) ∧ b < w'.heap.size ∧ Hid (FreshL (b + 2) w' ra O rc T) ∧ Hid (TaS w b ⟨⟨(x1 : Nat), (x2 : Nat)⟩, ⟨(y1 : Nat), (y2 : Nat)⟩, k⟩ w')) := by
    intro W hW
    refine (hth W (by rw [hbe]; exact hW.out.1)).mono ?_
    rintro e w' ⟨ra, rc, rfl, hF, hb⟩
    have hT2 := hW.out.below hbe hb
    exact ⟨ra, rc, rfl, hT2.2.1.c4, hT2.2.1.l0, hF.mono (heap_lt hW.out.2.2), hT2⟩
  have HBE := Lib.hid hbe
  rw [hbe] at hnew
  rw [hbe]
  obtain ⟨c0, c1, c2, c3, c4, l0⟩ := hnew.2.1
  simp only at c0 c1 c2 c3 c4
  have HW := Lib.hid hwb
  clear hwb hnew hbe h hfi hth hEE hlo hhi hs hp hq hoA hoB hBi hqi hpi hle hfr hov hT hO hl
  go_enter Try.func13, Try.ntmps13
  go_upto_region 1 with fail
  rw [HBE.out, HW.out]
  go_upto_region 2 with (go_at_call 38; (refine (HC.out _ rfl).mono ?_); rintro e w1 ⟨rfl, HT⟩)
  have hg2 := heap_alloc_new w1 (.cells #[.int .i64 k, .int .i64 (a1 : Nat), .int .i64 (a2 : Nat), .int .i64 (b1 : Nat), .int .i64 (b2 : Nat), .int .i64 (lo : Nat), .int .i64 (hi : Nat)] 68)
  have HT2 : Hid (TaS w b ⟨⟨(x1 : Nat), (x2 : Nat)⟩, ⟨(y1 : Nat), (y2 : Nat)⟩, k⟩ (w1.alloc (.cells #[.int .i64 k, .int .i64 (a1 : Nat), .int .i64 (a2 : Nat), .int .i64 (b1 : Nat), .int .i64 (b2 : Nat), .int .i64 (lo : Nat), .int .i64 (hi : Nat)] 68))) := HT.out.below HBE.out (bal _ _)
  obtain ⟨w2, hw2⟩ : ∃ w2, (w1.alloc (.cells #[.int .i64 k, .int .i64 (a1 : Nat), .int .i64 (a2 : Nat), .int .i64 (b1 : Nat), .int .i64 (b2 : Nat), .int .i64 (lo : Nat), .int .i64 (hi : Nat)] 68)) = w2 := ⟨_, rfl⟩
  obtain ⟨d, hd⟩ : ∃ d, w1.heap.size = d := ⟨_, rfl⟩
  rw [hw2] at HT2 hg2
  rw [hd] at hg2
  rw [hw2, hd]
  clear hw2 hd c0 c1 c2 c3 c4 l0
  obtain ⟨g0, g1, g2, g3, g4, g5, g6, -, -, -, -, -, -, -, gl⟩ := ArB.of hg2
  clear hg2
  go_upto_region 5 with (go_at_call 39; (refine (HTH.out _ HT2).mono ?_); rintro e w3 ⟨ra, rc, rfl, c4, l0, HFR, HT3⟩)
  have hz := HT3.out.2.2
  have q0 := cell_row hz 0
  have q1 := cell_row hz 1
  have q2 := frozen_row hz 0
  have q3 := frozen_row hz 1
  have ql := heap_lt hz
  clear hz g0 g1 g2 g3 g4 g5 g6 gl
  go_wp2
  refine bodyPost_ret (v := .tuple #[rgV k ra O rc, .int .i64 0]) ?_ rfl ⟨ra, rc, rfl, ?_⟩
  · rw [results_ct rfl]
    go_simp
    first | rfl | done
  · have hf : ∀ u v, Fr (fun z => z = b + 1) w3 ((w3.setCell ⟨b + 1, 0, none⟩ u).setCell ⟨b + 1, 1, none⟩ v) := fun u v => ((Fr.refl (fun z => z = b + 1) w3).setCell ⟨b + 1, 0, none⟩ _ (fun _ => rfl)).setCell ⟨b + 1, 1, none⟩ _ (fun _ => rfl)
    exact ⟨(HFR.out.fr (hf _ _) (fun z hz e => by omega)).mono (by omega), setCell_below (setCell_below HT3.out.1 _ _ _ (by omega)) _ _ _ (by omega)⟩
theorem ktakeC : TakeC 13 := by
  intro F a n c L r w h hs hr
  by_cases h0 : thereR L r = 0
  · obtain ⟨hL, p, q, hrv, hp, hq, ho1, ho2, hk1, hk2⟩ := there_ok h0
    have hv : r.v = rgnV p q r.k := by rw [hrv]; rfl
    have ht : takeR L r = ((r.k, takeL L p q r.k), 0) := by unfold takeR; rw [if_pos h0, hp, hq]
    rw [hv, ht]
    refine (ktake_ok F a n c L p q r.k w h hs ho1 ho2 hk1 hk2).mono ?_
    rintro e w' ⟨ra, rc, rfl, h1, h2⟩
    exact ⟨ra, _, rc, rfl, h1, h2⟩
  · have ht : takeR L r = ((0, []), thereR L r) := by unfold takeR; rw [if_neg h0]
    rw [ht]
    refine (ktake_no F a n c L r w h hr h0).mono ?_
    rintro e w' ⟨rfl, h2⟩
    exact ⟨none, 0, 0, rfl, FreshL.nil _ _, h2⟩
end Go.Proofs.Ytfldjoiohejilaa.U
