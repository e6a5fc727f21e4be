/-
  A text in memory; the contracts of Count, Runes, Offset, Place, Line, between, Slice.
-/
import Derived.Test.YtndlebopfojjeaaTRepW
import Derived.Test.YtndlebopfojjeaaTRepN
import Derived.Test.YtndlebopfojjeaaTRows
import Derived.Test.YtndlebopfojjeaaTPlace
namespace Go.Proofs.Ytndlebopfojjeaa.U
open Go.RowKit
set_option linter.unusedVariables false
set_option linter.unusedSimpArgs false
set_option maxRecDepth 100000

def ifv (tt : Nat) : Value := .iface 77 (.pointer (some ⟨tt, 0, none⟩))

/-- A text in block bt, all whose blocks are in P: its lines are L; its table's store has no more than ng runes added. -/
def TX (P : Nat → Prop) (w : World) (bt : Nat) (L : List (List Int)) (ng : Nat) : Prop :=
  ∃ (F1 F2 : Nat → Prop) (tt np : Nat) (ps : Blks), TS F1 w tt (joinL L) [] np ng ∧ TxL w F2 bt (ifv tt) ps L.length ∧ (lists ps).flatten = lens L ∧ (∀ k, F1 k → P k ∧ ¬ F2 k) ∧ (∀ k, F2 k → P k) ∧ L ≠ [] ∧ plainL L
section
variable {P G : Nat → Prop} {w w' : World} {bt ng : Nat} {L : List (List Int)}
theorem TX.fr (h : TX P w bt L ng) (hf : Fr G w w') (hd : ∀ k, P k → ¬ G k) : TX P w' bt L ng := by
  obtain ⟨F1, F2, tt, np, ps, h1, h2, h3, h4, h5, h6, h7⟩ := h
  exact ⟨F1, F2, tt, np, ps, h1.fr hf (fun k hk => hd k (h4 k hk).1), h2.fr hf (fun k hk => hd k (h5 k hk)), h3, h4, h5, h6, h7⟩
theorem TX.below (h : TX P w bt L ng) (hb : Below w.heap.size w w') : TX P w' bt L ng := h.fr (Fr.of_below (fun _ => False) hb) (fun _ _ h => h)
theorem TX.mono {Q : Nat → Prop} {ng' : Nat} (h : TX P w bt L ng) (hq : ∀ k, P k → Q k) (hn : ng ≤ ng') : TX Q w bt L ng' := by
  obtain ⟨F1, F2, tt, np, ps, h1, h2, h3, h4, h5, h6, h7⟩ := h
  exact ⟨F1, F2, tt, np, ps, h1.mono (fun _ h => h) (Nat.le_refl _) hn, h2, h3, fun k hk => ⟨hq k (h4 k hk).1, (h4 k hk).2⟩, fun k hk => hq k (h5 k hk), h6, h7⟩
theorem TX.shrink {N : Nat → Prop} (h : TX P w bt L ng) (hN : ∀ k, N k → w.heap.size ≤ k) : TX (fun k => P k ∧ ¬ N k) w bt L ng := by
  obtain ⟨F1, F2, tt, np, ps, h1, h2, h3, h4, h5, h6, h7⟩ := h
  exact ⟨fun k => F1 k ∧ ¬ N k, F2, tt, np, ps, h1.shrink hN, h2, h3, fun k hk => ⟨⟨(h4 k hk.1).1, hk.2⟩, (h4 k hk.1).2⟩, fun k hk => ⟨h5 k hk, fun hn => by have := h2.lt k hk; have := hN k hn; omega⟩, h6, h7⟩
theorem TX.ne (h : TX P w bt L ng) : L ≠ [] := by obtain ⟨_, _, _, _, _, _, _, _, _, _, h6, _⟩ := h; exact h6
theorem TX.plain (h : TX P w bt L ng) : plainL L := by obtain ⟨_, _, _, _, _, _, _, _, _, _, _, h7⟩ := h; exact h7
theorem TX.row (h : TX P w bt L ng) : (joinL L).length ≤ 65536 := by obtain ⟨_, _, _, _, _, h1, _⟩ := h; exact h1.len
theorem TX.wf (h : TX P w bt L ng) : ∀ x ∈ joinL L, (Lit.int .i32 x).wf = true := by obtain ⟨_, _, _, _, _, h1, _⟩ := h; exact h1.wf
theorem TX.size (h : TX P w bt L ng) : sizeN (lens L) ≤ 65537 := by have := h.row; have := joinL_len h.ne; omega
theorem TX.count (h : TX P w bt L ng) : L.length ≤ 65537 := by have := h.size; have := size_count L; omega
theorem TX.pos (h : TX P w bt L ng) : 0 < L.length := List.length_pos_iff.2 h.ne
/-- what its methods read -/
theorem TX.open_ (h : TX P w bt L ng) : ∃ (tt : Nat) (F : Nat → Prop) (a : Option Addr) (n c : Nat) (ps : Blks), w.cell? ⟨bt, 0, none⟩ = some (ifv tt) ∧ w.cell? ⟨bt, 2, none⟩ = some (.int .i64 (L.length : Nat)) ∧ bt < w.heap.size ∧ LB w F bt a n c ps L.length ∧ (lists ps).flatten = lens L ∧
    ∃ F1 np, TS F1 w tt (joinL L) [] np ng := by
  obtain ⟨F1, F2, tt, np, ps, h1, h2, h3, h4, h5, h6, h7⟩ := h
  obtain ⟨a, c, hlb⟩ := h2.lb
  obtain ⟨a', c', e1, _⟩ := h2.ex
  exact ⟨tt, F2, a, _, c, ps, cell_row e1 0, cell_row e1 2, heap_lt e1, hlb, h3, F1, np, h1⟩
end

theorem count_any (P : Nat → Prop) (bt ng : Nat) (L : List (List Int)) (w : World) (h : TX P w bt L ng) :
    Calls Try.prog 24 #[.pointer (some ⟨bt, 0, none⟩)] w fun e w' => e = .returned (.int .i64 (L.length : Nat)) ∧ w = w' := by
  obtain ⟨tt, F, a, n, c, ps, c0, c2, hlt, hlb, hfl, hts⟩ := h.open_
  clear hlb hfl hts h
  go_enter Try.func24, Try.ntmps24
  go_wp2
  go_ret
  exact ⟨rfl, rfl⟩
theorem runesT_any (P : Nat → Prop) (bt ng : Nat) (L : List (List Int)) (w : World) (h : TX P w bt L ng) :
    Calls Try.prog 23 #[.pointer (some ⟨bt, 0, none⟩)] w fun e w' => e = .returned (.int .i64 ((joinL L).length : Nat)) ∧ w = w' := by
  obtain ⟨tt, F, a, n, c, ps, c0, c2, hlt, hlb, hfl, F1, np, hts⟩ := h.open_
  have HL := Lib.hid (ts_len _ _ _ _ _ _ w hts)
  unfold ifv at c0
  clear hlb hfl hts h
  go_enter Try.func23, Try.ntmps23
  go_wp2_with (go_at_call 105; refine HL.out.mono ?_; rintro e w' ⟨rfl, rfl⟩)
  go_ret
  exact ⟨rfl, rfl⟩

def hasP (L : List (List Int)) (i c : Int) : Bool := decide (0 ≤ i) && (decide (i < L.length) && (decide (0 ≤ c) && decide (c ≤ (L.getD i.toNat []).length)))
theorem hasP_iff {L : List (List Int)} {i c : Int} : hasP L i c = true ↔ ∃ (k d : Nat) (x : List Int), i = k ∧ c = d ∧ L[k]? = some x ∧ d ≤ x.length := by
  unfold hasP
  simp only [Bool.and_eq_true, decide_eq_true_eq]
  constructor
  · rintro ⟨h1, h2, h3, h4⟩
    refine ⟨i.toNat, c.toNat, L[i.toNat]'(by omega), by omega, by omega, List.getElem?_eq_getElem _, ?_⟩
    rw [List.getD_eq_getElem?_getD, List.getElem?_eq_getElem (by omega), Option.getD_some] at h4
    omega
  · rintro ⟨k, d, x, rfl, rfl, hx, hd⟩
    have := (List.getElem?_eq_some_iff.1 hx).1
    refine ⟨by omega, by omega, by omega, ?_⟩
    rw [Int.toNat_natCast, List.getD_eq_getElem?_getD, hx, Option.getD_some]
    omega
def offN (L : List (List Int)) (k d : Nat) : Nat := sizeN ((lens L).take k) + d
def offR (L : List (List Int)) (i c : Int) : Int × Int := if hasP L i c then ((offN L i.toNat c.toNat : Nat), 0) else (0, 2)

set_option maxHeartbeats 2000000 in
theorem offset_ok (P : Nat → Prop) (bt ng : Nat) (L : List (List Int)) (k d : Nat) (x : List Int) (w : World) (h : TX P w bt L ng) (hx : L[k]? = some x) (hd : d ≤ x.length) :
    Calls Try.prog 17 #[.pointer (some ⟨bt, 0, none⟩), .agg #[.int .i64 (k : Nat), .int .i64 (d : Nat)]] w fun e w' => e = .returned (.tuple #[.int .i64 (offN L k d : Nat), .int .i64 0]) ∧ Below w.heap.size w w' := by
  have hcn := h.count
  have hle := off_le hx hd
  have hrow := h.row
  have hkl := (List.getElem?_eq_some_iff.1 hx).1
  obtain ⟨tt, F, a, n, c, ps, c0, c2, hlt, hlb, hfl, F1, np, hts⟩ := h.open_
  have HLN : Hid (∀ W, Below w.heap.size w W → Calls Try.prog 37 #[.pointer (some ⟨bt, 1, none⟩), .int .i64 (k : Nat)] W fun e w' => e = .returned (.tuple #[.int .i64 (sizeN ((lens L).take k) : Nat), .int .i64 (x.length : Nat)]) ∧ Below W.heap.size W w') := by
    intro W hW
    have := tline_any F bt a n c ps L.length k W (hlb.below hW) (by omega)
    rw [hfl] at this
    rw [List.getD_eq_getElem?_getD, lens_at hx, Option.getD_some] at this
    exact this
  have hxl : x.length ≤ 65536 := by
    have := off_le hx (Nat.le_refl _)
    omega
  unfold offN
  obtain ⟨S, hS⟩ : ∃ S, sizeN ((lens L).take k) = S := ⟨_, rfl⟩
  obtain ⟨N, hN⟩ : ∃ N, L.length = N := ⟨_, rfl⟩
  obtain ⟨X, hX⟩ : ∃ X, x.length = X := ⟨_, rfl⟩
  rw [hS, hX] at HLN
  rw [hS] at hle ⊢
  rw [hN] at c2 hcn hkl
  rw [hX] at hd hxl
  obtain ⟨wb, hwb⟩ : ∃ wb, w.alloc (.cells #[.int .i64 (k : Nat), .int .i64 (d : Nat)] 30) = wb := ⟨_, rfl⟩
  have hB : Below w.heap.size w wb := by rw [← hwb]; exact (Below.refl _ _).alloc (Nat.le_refl _) _
  have hg : wb.heap[w.heap.size]? = some (.cells #[.int .i64 (k : Nat), .int .i64 (d : Nat)] 30 (0, 0)) := by rw [← hwb]; exact heap_alloc_new w _
  have b0 : wb.cell? ⟨w.heap.size, 0, none⟩ = some (.int .i64 (k : Nat)) := cell_row hg 0
  have b1 : wb.cell? ⟨w.heap.size, 1, none⟩ = some (.int .i64 (d : Nat)) := cell_row hg 1
  have hgl := heap_lt hg
  have c2b := (hB.cell (p := ⟨bt, 2, none⟩) hlt).trans c2
  have hltb : bt < wb.heap.size := by omega
  have HCALL : Hid (∀ W, Below wb.heap.size wb W → Calls Try.prog 37 #[.pointer (some ⟨bt, 1, none⟩), .int .i64 (k : Nat)] W fun e w' => e = .returned (.tuple #[.int .i64 (S : Nat), .int .i64 (X : Nat)]) ∧ w'.cell? ⟨w.heap.size, 1, none⟩ = some (.int .i64 (d : Nat)) ∧ w.heap.size < w'.heap.size ∧ Hid (Below w.heap.size w w')) := by
    intro W hW
    refine (HLN.out W (hB.trans (hW.mono hB.size))).mono ?_
    rintro e w' ⟨rfl, hb⟩
    have hb2 := hW.trans (hb.mono hW.size)
    exact ⟨rfl, (hb2.cell (p := ⟨w.heap.size, 1, none⟩) hgl).trans b1, by have := hb2.size; omega, hB.trans (hb2.mono hB.size)⟩
  have HWB := Lib.hid hwb
  have t1 : ¬ ((k : Int) < 0) := by omega
  have t2 : ¬ ((N : Int) ≤ (k : Int)) := by omega
  have t3 : decide ((k : Int) < 0) = false := by simp
  have t4 : ¬ ((d : Int) < 0) := by omega
  have t5 : ¬ ((X : Int) < (d : Int)) := by omega
  clear hlb hfl hts h hx hS hN hX hwb hB hg HLN c0 c2
  go_enter Try.func17, Try.ntmps17
  go_upto_region 1 with fail
  rw [HWB.out]
  go_wp2_with fail
  go_quiet (fail)
  obtain ⟨W, hW⟩ : ∃ W, wb.drewN nq = W := ⟨_, rfl⟩
  have hWB : Below wb.heap.size wb W := by rw [← hW]; exact bdrewN (Below.refl _ _) _
  have d0 : W.cell? ⟨w.heap.size, 0, none⟩ = some (.int .i64 (k : Nat)) := (hWB.cell (p := ⟨w.heap.size, 0, none⟩) hgl).trans b0
  have d1 : W.cell? ⟨w.heap.size, 1, none⟩ = some (.int .i64 (d : Nat)) := (hWB.cell (p := ⟨w.heap.size, 1, none⟩) hgl).trans b1
  have hglW : w.heap.size < W.heap.size := by have := hWB.size; omega
  rw [hW]
  have HWBB := Lib.hid hWB
  clear hW hWB b0 b1 c2b hgl
  go_wp2_with fail
  go_region_with (first
    | (go_at_call 37; refine (HCALL.out _ (by first | exact HWBB.out | exact HWBB.out.drew)).mono ?_; rintro e w5 ⟨rfl, q1, q2, q3⟩))
  all_goals
    go_wp2_with fail
    go_ret2
    exact ⟨rfl, q3.out⟩
set_option maxHeartbeats 2000000 in
theorem offset_c0 (P : Nat → Prop) (bt ng : Nat) (L : List (List Int)) (k : Nat) (d : Int) (x : List Int) (w : World) (h : TX P w bt L ng) (hx : L[k]? = some x) (hd : d < 0) :
    Calls Try.prog 17 #[.pointer (some ⟨bt, 0, none⟩), .agg #[.int .i64 (k : Nat), .int .i64 d]] w fun e w' => e = .returned (.tuple #[.int .i64 0, .int .i64 2]) ∧ Below w.heap.size w w' := by
  have hcn := h.count
  have hrow := h.row
  have hkl := (List.getElem?_eq_some_iff.1 hx).1
  obtain ⟨tt, F, a, n, c, ps, c0, c2, hlt, hlb, hfl, F1, np, hts⟩ := h.open_
  have HLN : Hid (∀ W, Below w.heap.size w W → Calls Try.prog 37 #[.pointer (some ⟨bt, 1, none⟩), .int .i64 (k : Nat)] W fun e w' => e = .returned (.tuple #[.int .i64 (sizeN ((lens L).take k) : Nat), .int .i64 (x.length : Nat)]) ∧ Below W.heap.size W w') := by
    intro W hW
    have := tline_any F bt a n c ps L.length k W (hlb.below hW) (by omega)
    rw [hfl] at this
    rw [List.getD_eq_getElem?_getD, lens_at hx, Option.getD_some] at this
    exact this
  have hxl : x.length ≤ 65536 := by
    have := off_le hx (Nat.le_refl _)
    omega
  obtain ⟨S, hS⟩ : ∃ S, sizeN ((lens L).take k) = S := ⟨_, rfl⟩
  obtain ⟨N, hN⟩ : ∃ N, L.length = N := ⟨_, rfl⟩
  obtain ⟨X, hX⟩ : ∃ X, x.length = X := ⟨_, rfl⟩
  rw [hS, hX] at HLN
  rw [hN] at c2 hcn hkl
  rw [hX] at hxl
  obtain ⟨wb, hwb⟩ : ∃ wb, w.alloc (.cells #[.int .i64 (k : Nat), .int .i64 d] 30) = wb := ⟨_, rfl⟩
  have hB : Below w.heap.size w wb := by rw [← hwb]; exact (Below.refl _ _).alloc (Nat.le_refl _) _
  have hg : wb.heap[w.heap.size]? = some (.cells #[.int .i64 (k : Nat), .int .i64 d] 30 (0, 0)) := by rw [← hwb]; exact heap_alloc_new w _
  have b0 : wb.cell? ⟨w.heap.size, 0, none⟩ = some (.int .i64 (k : Nat)) := cell_row hg 0
  have b1 : wb.cell? ⟨w.heap.size, 1, none⟩ = some (.int .i64 d) := cell_row hg 1
  have hgl := heap_lt hg
  have c2b := (hB.cell (p := ⟨bt, 2, none⟩) hlt).trans c2
  have hltb : bt < wb.heap.size := by omega
  have HCALL : Hid (∀ W, Below wb.heap.size wb W → Calls Try.prog 37 #[.pointer (some ⟨bt, 1, none⟩), .int .i64 (k : Nat)] W fun e w' => e = .returned (.tuple #[.int .i64 (S : Nat), .int .i64 (X : Nat)]) ∧ w'.cell? ⟨w.heap.size, 1, none⟩ = some (.int .i64 d) ∧ w.heap.size < w'.heap.size ∧ Hid (Below w.heap.size w w')) := by
    intro W hW
    refine (HLN.out W (hB.trans (hW.mono hB.size))).mono ?_
    rintro e w' ⟨rfl, hb⟩
    have hb2 := hW.trans (hb.mono hW.size)
    exact ⟨rfl, (hb2.cell (p := ⟨w.heap.size, 1, none⟩) hgl).trans b1, by have := hb2.size; omega, hB.trans (hb2.mono hB.size)⟩
  have HWB := Lib.hid hwb
  have t1 : ¬ ((k : Int) < 0) := by omega
  have t2 : ¬ ((N : Int) ≤ (k : Int)) := by omega
  have t3 : decide ((k : Int) < 0) = false := by simp
  have t4 : decide (d < 0) = true := by simp; exact hd
  clear hlb hfl hts h hx hS hN hX hwb hB hg HLN c0 c2
  go_enter Try.func17, Try.ntmps17
  go_upto_region 1 with fail
  rw [HWB.out]
  go_wp2_with fail
  go_quiet (fail)
  obtain ⟨W, hW⟩ : ∃ W, wb.drewN nq = W := ⟨_, rfl⟩
  have hWB : Below wb.heap.size wb W := by rw [← hW]; exact bdrewN (Below.refl _ _) _
  have d0 : W.cell? ⟨w.heap.size, 0, none⟩ = some (.int .i64 (k : Nat)) := (hWB.cell (p := ⟨w.heap.size, 0, none⟩) hgl).trans b0
  have d1 : W.cell? ⟨w.heap.size, 1, none⟩ = some (.int .i64 d) := (hWB.cell (p := ⟨w.heap.size, 1, none⟩) hgl).trans b1
  have hglW : w.heap.size < W.heap.size := by have := hWB.size; omega
  rw [hW]
  have HWBB := Lib.hid hWB
  clear hW hWB b0 b1 c2b hgl
  go_wp2_with fail
  go_region_with (first
    | (go_at_call 37; refine (HCALL.out _ (by first | exact HWBB.out | exact HWBB.out.drew)).mono ?_; rintro e w5 ⟨rfl, q1, q2, q3⟩))
  all_goals
    go_wp2_with fail
    go_ret2
    exact ⟨rfl, q3.out⟩
set_option maxHeartbeats 2000000 in
theorem offset_c1 (P : Nat → Prop) (bt ng : Nat) (L : List (List Int)) (k : Nat) (d : Int) (x : List Int) (w : World) (h : TX P w bt L ng) (hx : L[k]? = some x) (hd : (x.length : Int) < d) (hdb : i64b d) :
    Calls Try.prog 17 #[.pointer (some ⟨bt, 0, none⟩), .agg #[.int .i64 (k : Nat), .int .i64 d]] w fun e w' => e = .returned (.tuple #[.int .i64 0, .int .i64 2]) ∧ Below w.heap.size w w' := by
  have hcn := h.count
  have hrow := h.row
  have hkl := (List.getElem?_eq_some_iff.1 hx).1
  obtain ⟨tt, F, a, n, c, ps, c0, c2, hlt, hlb, hfl, F1, np, hts⟩ := h.open_
  have HLN : Hid (∀ W, Below w.heap.size w W → Calls Try.prog 37 #[.pointer (some ⟨bt, 1, none⟩), .int .i64 (k : Nat)] W fun e w' => e = .returned (.tuple #[.int .i64 (sizeN ((lens L).take k) : Nat), .int .i64 (x.length : Nat)]) ∧ Below W.heap.size W w') := by
    intro W hW
    have := tline_any F bt a n c ps L.length k W (hlb.below hW) (by omega)
    rw [hfl] at this
    rw [List.getD_eq_getElem?_getD, lens_at hx, Option.getD_some] at this
    exact this
  have hxl : x.length ≤ 65536 := by
    have := off_le hx (Nat.le_refl _)
    omega
  obtain ⟨S, hS⟩ : ∃ S, sizeN ((lens L).take k) = S := ⟨_, rfl⟩
  obtain ⟨N, hN⟩ : ∃ N, L.length = N := ⟨_, rfl⟩
  obtain ⟨X, hX⟩ : ∃ X, x.length = X := ⟨_, rfl⟩
  rw [hS, hX] at HLN
  rw [hN] at c2 hcn hkl
  rw [hX] at hd hxl
  obtain ⟨wb, hwb⟩ : ∃ wb, w.alloc (.cells #[.int .i64 (k : Nat), .int .i64 d] 30) = wb := ⟨_, rfl⟩
  have hB : Below w.heap.size w wb := by rw [← hwb]; exact (Below.refl _ _).alloc (Nat.le_refl _) _
  have hg : wb.heap[w.heap.size]? = some (.cells #[.int .i64 (k : Nat), .int .i64 d] 30 (0, 0)) := by rw [← hwb]; exact heap_alloc_new w _
  have b0 : wb.cell? ⟨w.heap.size, 0, none⟩ = some (.int .i64 (k : Nat)) := cell_row hg 0
  have b1 : wb.cell? ⟨w.heap.size, 1, none⟩ = some (.int .i64 d) := cell_row hg 1
  have hgl := heap_lt hg
  have c2b := (hB.cell (p := ⟨bt, 2, none⟩) hlt).trans c2
  have hltb : bt < wb.heap.size := by omega
  have HCALL : Hid (∀ W, Below wb.heap.size wb W → Calls Try.prog 37 #[.pointer (some ⟨bt, 1, none⟩), .int .i64 (k : Nat)] W fun e w' => e = .returned (.tuple #[.int .i64 (S : Nat), .int .i64 (X : Nat)]) ∧ w'.cell? ⟨w.heap.size, 1, none⟩ = some (.int .i64 d) ∧ w.heap.size < w'.heap.size ∧ Hid (Below w.heap.size w w')) := by
    intro W hW
    refine (HLN.out W (hB.trans (hW.mono hB.size))).mono ?_
    rintro e w' ⟨rfl, hb⟩
    have hb2 := hW.trans (hb.mono hW.size)
    exact ⟨rfl, (hb2.cell (p := ⟨w.heap.size, 1, none⟩) hgl).trans b1, by have := hb2.size; omega, hB.trans (hb2.mono hB.size)⟩
  have HWB := Lib.hid hwb
  have t1 : ¬ ((k : Int) < 0) := by omega
  have t2 : ¬ ((N : Int) ≤ (k : Int)) := by omega
  have t3 : decide ((k : Int) < 0) = false := by simp
  have t4 : ¬ (d < 0) := by omega
  have t5 : (X : Int) < d := hd
  unfold i64b at hdb
  clear hlb hfl hts h hx hS hN hX hwb hB hg HLN c0 c2
  go_enter Try.func17, Try.ntmps17
  go_upto_region 1 with fail
  rw [HWB.out]
  go_wp2_with fail
  go_quiet (fail)
  obtain ⟨W, hW⟩ : ∃ W, wb.drewN nq = W := ⟨_, rfl⟩
  have hWB : Below wb.heap.size wb W := by rw [← hW]; exact bdrewN (Below.refl _ _) _
  have d0 : W.cell? ⟨w.heap.size, 0, none⟩ = some (.int .i64 (k : Nat)) := (hWB.cell (p := ⟨w.heap.size, 0, none⟩) hgl).trans b0
  have d1 : W.cell? ⟨w.heap.size, 1, none⟩ = some (.int .i64 d) := (hWB.cell (p := ⟨w.heap.size, 1, none⟩) hgl).trans b1
  have hglW : w.heap.size < W.heap.size := by have := hWB.size; omega
  rw [hW]
  have HWBB := Lib.hid hWB
  clear hW hWB b0 b1 c2b hgl
  go_wp2_with fail
  go_region_with (first
    | (go_at_call 37; refine (HCALL.out _ (by first | exact HWBB.out | exact HWBB.out.drew)).mono ?_; rintro e w5 ⟨rfl, q1, q2, q3⟩))
  all_goals
    go_wp2_with fail
    go_ret2
    exact ⟨rfl, q3.out⟩

theorem offset_l0 (P : Nat → Prop) (bt ng : Nat) (L : List (List Int)) (i d : Int) (w : World) (h : TX P w bt L ng) (hi : i < 0) :
    Calls Try.prog 17 #[.pointer (some ⟨bt, 0, none⟩), .agg #[.int .i64 i, .int .i64 d]] w fun e w' => e = .returned (.tuple #[.int .i64 0, .int .i64 2]) ∧ Below w.heap.size w w' := by
  have t3 : decide (i < 0) = true := by simp; exact hi
  have hB : Below w.heap.size w (w.alloc (.cells #[.int .i64 i, .int .i64 d] 30)) := (Below.refl _ _).alloc (Nat.le_refl _) _
  clear h
  go_enter Try.func17, Try.ntmps17
  go_wp2_with fail
  go_quiet (fail)
  go_wp2_with fail
  go_ret2
  exact ⟨rfl, bdrewN hB _⟩
theorem offset_l1 (P : Nat → Prop) (bt ng : Nat) (L : List (List Int)) (i d : Int) (w : World) (h : TX P w bt L ng) (hi : (L.length : Int) ≤ i) (hib : i64b i) :
    Calls Try.prog 17 #[.pointer (some ⟨bt, 0, none⟩), .agg #[.int .i64 i, .int .i64 d]] w fun e w' => e = .returned (.tuple #[.int .i64 0, .int .i64 2]) ∧ Below w.heap.size w w' := by
  have hB : Below w.heap.size w (w.alloc (.cells #[.int .i64 i, .int .i64 d] 30)) := (Below.refl _ _).alloc (Nat.le_refl _) _
  obtain ⟨tt, F, a, n, c, ps, c0, c2, hlt, hlb, hfl, F1, np, hts⟩ := h.open_
  obtain ⟨N, hN⟩ : ∃ N, L.length = N := ⟨_, rfl⟩
  rw [hN] at c2 hi
  have t3 : decide (i < 0) = false := by simp; omega
  unfold i64b at hib
  clear h hlb hfl hts hN c0
  go_enter Try.func17, Try.ntmps17
  go_wp2_with fail
  go_quiet (fail)
  go_wp2_with fail
  go_ret2
  exact ⟨rfl, bdrewN hB _⟩

theorem offset_any (P : Nat → Prop) (bt ng : Nat) (L : List (List Int)) (i d : Int) (w : World) (h : TX P w bt L ng) (hi : i64b i) (hd : i64b d) :
    Calls Try.prog 17 #[.pointer (some ⟨bt, 0, none⟩), .agg #[.int .i64 i, .int .i64 d]] w fun e w' => e = .returned (.tuple #[.int .i64 (offR L i d).1, .int .i64 (offR L i d).2]) ∧ Below w.heap.size w w' := by
  unfold offR
  cases hh : hasP L i d with
  | true =>
    obtain ⟨k, m, x, rfl, rfl, hx, hm⟩ := hasP_iff.1 hh
    simp only [↓reduceIte, Int.toNat_natCast]
    exact offset_ok P bt ng L k m x w h hx hm
  | false =>
    simp only [Bool.false_eq_true, ↓reduceIte]
    by_cases h1 : i < 0
    · exact offset_l0 P bt ng L i d w h h1
    by_cases h2 : (L.length : Int) ≤ i
    · exact offset_l1 P bt ng L i d w h h2 hi
    obtain ⟨k, rfl⟩ : ∃ k : Nat, i = k := ⟨i.toNat, by omega⟩
    obtain ⟨x, hx⟩ : ∃ x, L[k]? = some x := ⟨_, List.getElem?_eq_getElem (by omega)⟩
    by_cases h3 : d < 0
    · exact offset_c0 P bt ng L k d x w h hx h3
    · by_cases h4 : (x.length : Int) < d
      · exact offset_c1 P bt ng L k d x w h hx h4 hd
      · exfalso
        have : hasP L k d = true := hasP_iff.2 ⟨k, d.toNat, x, rfl, by omega, hx, by omega⟩
        rw [hh] at this
        cases this

theorem offset_nil (v : Value) (p q : Int) (hv : v = .agg #[.int .i64 p, .int .i64 q]) (w : World) :
    Calls Try.prog 17 #[.pointer none, v] w fun e w' => e = .returned (.tuple #[.int .i64 0, .int .i64 1]) ∧ Below w.heap.size w w' := by
  subst hv
  go_enter Try.func17, Try.ntmps17
  go_wp2_with fail
  go_ret2
  exact ⟨rfl, (Below.refl _ _).alloc (Nat.le_refl _) _⟩

def placeR (L : List (List Int)) (n : Int) : Int × Int × Int := if 0 ≤ n ∧ n ≤ (joinL L).length then ((findP (lens L) n.toNat).1, (findP (lens L) n.toNat).2, 0) else (0, 0, 2)
end Go.Proofs.Ytndlebopfojjeaa.U
