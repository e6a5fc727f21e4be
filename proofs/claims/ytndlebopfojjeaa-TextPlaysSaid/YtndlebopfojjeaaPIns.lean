/-
  The contracts of Insert, Delete, whole.
-/
import Derived.Test.YtndlebopfojjeaaPTabB
namespace Go.Proofs.Ytndlebopfojjeaa.U
open Go.RowKit
set_option linter.unusedVariables false
set_option linter.unusedSimpArgs false
set_option maxRecDepth 100000

theorem infoI : (Try.prog.info? 21).map (fun i => (i.zero, i.size, i.bytes)) = some (some (.int .i32 0), 1, 4) := by kernel_rfl
theorem szI : (Try.prog.info? 21).map (·.size) = some 1 := by kernel_rfl
/-- what can be read, as cells -/
theorem Rd_cells {k : IntKind} {w : World} {a : Option Addr} {n c : Nat} {ys : List Int} (h : Rd k w a n c ys) (hp : 0 < n) : ∃ ad, a = some ad ∧ ∀ j v, (ys.map (Value.int k))[j]? = some v → w.cell? (ad.add j) = some v := by
  obtain ⟨r1, r2, r3, r4, r6, r5⟩ := h
  obtain ⟨b, off, ha, hc⟩ := r5 hp
  refine ⟨_, ha, fun j u hu => ?_⟩
  rw [List.getElem?_map] at hu
  by_cases hj : j < ys.length
  · rw [List.getElem?_eq_getElem hj] at hu
    simp only [Option.map_some, Option.some.injEq] at hu
    subst hu
    have := hc j (by omega)
    rw [List.getD_eq_getElem?_getD, List.getElem?_eq_getElem hj] at this
    rw [add_lit]
    exact this
  · rw [List.getElem?_eq_none (by omega)] at hu; simp at hu
theorem ints1 (k : IntKind) (xs : List Int) : ∀ v ∈ xs.map (Value.int k), v.oneCell' = true := by
  intro v hv
  simp only [List.mem_map] at hv
  obtain ⟨x, _, rfl⟩ := hv
  rfl
theorem plus_lt {F : Nat → Prop} {w w' : World} : ∀ k, plus F w w' k → k < w'.heap.size := fun _ h => h.2

/-- what put leaves behind of a table to whose store runes were added -/
theorem put_tab (bt : Nat) (F : Nat → Prop) (D : TD) (gv' : Value) (xs : List Int) (n : Nat) (w W2 W : World) (h0 : TabOk w F bt D) (h : TabOk W2 (plus F w W2) bt { D with gs := D.gs ++ xs, gv := gv' }) (hF : Fr F w W2) (hn : n ≤ sumL D.ps) (hroom : sumL D.ps + xs.length ≤ 65536) (hbig : D.gs.length + xs.length ≤ lim) (hW : Below W2.heap.size W2 W) :
    Calls Try.prog 61 #[.pointer (some ⟨bt, 2, none⟩), .int .i64 n, .agg #[.bool true, .int .i64 (D.gs.length : Nat), .int .i64 ((D.gs.length : Int) + (xs.length : Int))]] W fun e w' => e = .returned (.tuple #[]) ∧ After w F bt D (D.row.take n ++ (xs ++ D.row.drop n)) D.kept 2 xs.length w' := by
  obtain ⟨hr1, hr2⟩ := row_more (xs := xs) (gv := gv') h0
  have hF' : Fr F w W := hF.trans (Fr.of_below (fun _ => False) hW) (fun _ _ h => h.elim)
  by_cases hx : xs.length = 0
  · obtain rfl : xs = [] := List.eq_nil_of_length_eq_zero hx
    have e0 : ((D.gs.length : Int) + (([] : List Int).length : Int)) = (D.gs.length : Int) := by simp
    rw [e0]
    refine (put_0 bt n true D.gs.length W (by simpa using hbig)).mono ?_
    rintro e w' ⟨rfl, hb⟩
    refine ⟨rfl, plus F w W2, _, (h.below hW).below hb, ?_, hr2, Nat.le_add_right _ _, by simp, hF'.trans (Fr.of_below (fun _ => False) hb) (fun _ _ h => h.elim), fun k hk => hk.1⟩
    rw [hr1]
    simp
  · have hT := h.below hW
    have e1 : ((D.gs.length : Int) + (xs.length : Int)) = ((D.gs.length + xs.length : Nat) : Int) := by omega
    rw [e1]
    have hp : (Pc.mk true D.gs.length (D.gs.length + xs.length)).ok D.fs.length (D.gs ++ xs).length := ⟨by simp only; omega, by simp⟩
    have hok := hT.ok
    simp only at hok
    refine (put_any bt D.fv gv' D.sv D.v D.rem D.ps D.fs (D.gs ++ xs) n true D.gs.length (D.gs.length + xs.length) W ⟨hT.tb, hT.po⟩ hok hp (by have := h0.small; unfold lim; omega) (by simpa using hbig) (by omega) hn).mono ?_
    rintro e w' ⟨rfl, v', hR, hfr, hN⟩
    obtain ⟨p1, p2, p3, p4⟩ := putM_spec (n := n) hok hn hp
    have hc := congrArg List.length p2
    have hxr : (Pc.mk true D.gs.length (D.gs.length + xs.length)).runes D.fs (D.gs ++ xs) = xs := by
      unfold Pc.runes
      simp only [↓reduceIte]
      rw [show D.gs.length + xs.length = (D.gs ++ xs).length from by simp, List.take_length, List.drop_left]
    rw [cont_len p1, hxr] at hc
    have hrow : cont D.fs (D.gs ++ xs) D.ps = D.row := hr1
    rw [hrow] at hc
    have hrl := h0.len
    have hsum : sumL (putM D.ps n ⟨true, D.gs.length, D.gs.length + xs.length⟩) = sumL D.ps + xs.length := by
      rw [hc]
      simp only [List.length_append, List.length_take, List.length_drop]
      omega
    rw [show sumL D.ps + (D.gs.length + xs.length - D.gs.length) = sumL D.ps + xs.length from by omega, ← hsum] at hR
    have hT' := tab_row hT hR hfr hN p1 (by omega)
    refine ⟨rfl, _, _, hT', ?_, ?_, by simpa using p3, by simp, hF'.trans hfr ?_, ?_⟩
    · show cont D.fs (D.gs ++ xs) _ = _
      rw [p2, hxr, hrow]
    · exact hr2
    · intro k hk hh
      have h1 : plus F w W2 k := by
        rcases hh with e | ⟨_, e⟩
        · subst e; exact h.inF.1
        · exact h.inF.2.2.2.1 k e.symm
      rcases h1.1 with h1 | h1
      · exact h1
      · omega
    · intro k hk
      rcases hk.1 with h1 | h1
      · exact h1.1
      · have := hF'.size
        exact .inr (by omega)

set_option maxHeartbeats 1000000 in
theorem insert_ok (bt : Nat) (F : Nat → Prop) (D : TD) (a : Option Addr) (len cap : Nat) (xs : List Int) (n : Nat) (w : World) (h : TabOk w F bt D) (hr : Rd .i32 w a len cap xs) (hb : n ≤ D.row.length) (hf : D.row.length + len ≤ 65536) (hbig : D.gs.length + len ≤ lim) :
    Calls Try.prog 104 #[.pointer (some ⟨bt, 0, none⟩), .int .i64 n, .slice a len cap] w fun e w' => e = .returned (.int .i64 0) ∧ After w F bt D (D.row.take n ++ (xs ++ D.row.drop n)) D.kept 2 len w' := by
  obtain ⟨i0, hi0, hz0, hz1, hz2⟩ := info_parts infoI
  have hxl := hr.1
  have hbig' := hbig
  unfold lim at hbig'
  rw [h.len] at hb hf
  have hk := lacks_any bt D.fv D.gv D.v D.sv (sumL D.ps) D.rem n 0 w h.tb h.room (by omega) (by omega)
  rw [show hasB (sumL D.ps) n 0 = true from hasB_iff.2 ⟨by omega, by omega, by omega⟩] at hk
  obtain ⟨gv', w1, hrun, hown, hfr, hnear⟩ := run_append_own_k (P := Try.prog) w 0 31 21 i0 _ 1 4 Try.underlying31 hi0 hz0 hz1 hz2 rfl (by decide) D.gv D.gs.length _ h.go a len cap (xs.map (Value.int .i32)) (by simpa using hxl) (fun hp => Rd_cells hr hp) (ints1 _ _) (by unfold maxLen; omega) (by omega) (Nat.zero_le _)
  obtain ⟨ga, gc, hgv⟩ := own_slice h.go
  obtain ⟨ga', gc', rfl⟩ := own_slice hown
  have hT := tab_add (xs := xs) h (by rw [hxl]; exact hown) hfr hnear hr.2.2.2.1
  have hFr : Fr F w (w1.setCell ⟨bt, 1, none⟩ (.slice ga' (D.gs.length + len) gc')) := (hfr.mono (fun k _ e => h.inF.2.2.1 k e.symm)).setCell _ _ (fun _ => h.inF.1)
  have HPUT : Hid (∀ W, Below (w1.setCell ⟨bt, 1, none⟩ (.slice ga' (D.gs.length + len) gc')).heap.size (w1.setCell ⟨bt, 1, none⟩ (.slice ga' (D.gs.length + len) gc')) W → _) := fun W hW => put_tab bt F D (.slice ga' (D.gs.length + len) gc') xs n w _ W h hT hFr hb (by omega) (by rw [hxl]; exact hbig) hW
  have c1 := h.tb.c1
  have c3 := h.tb.c3
  have hlt := h.tb.lt
  have hbt : w1.heap[bt]? = w.heap[bt]? := hfr.block bt hlt (fun e => tb_ne h.tb h.go (by decide) e.symm rfl)
  have hT1 : TB w1 bt D.fv D.gv D.v (sumL D.ps : Nat) D.rem D.sv := h.tb.keep hbt
  have d1 := hT1.c1
  have f1 := hT1.fz 1
  have l1 := hT1.lt
  rw [hgv] at hrun c1 d1
  have HK := Lib.hid hk
  have HRUN := Lib.hid hrun
  have HT := Lib.hid hT
  rw [hxl] at HPUT
  have hro := h.room
  obtain ⟨S, hS⟩ : ∃ S, sumL D.ps = S := ⟨_, rfl⟩
  obtain ⟨G, hG⟩ : ∃ G, D.gs.length = G := ⟨_, rfl⟩
  rw [hS] at c3 hf hro
  rw [hG] at HPUT HRUN c1 d1 hbig' HT
  have hlen : (len : Int) ≤ 65536 - (S : Int) := by omega
  clear hk hrun hT hFr hown hfr hnear hgv hbt hT1 hbig hr hxl hS hG h
  go_enter Try.func104, Try.ntmps104
  go_wp2_with (first
    | (go_at_call 107; refine HK.out.mono ?_; unfold codeB; simp only [↓reduceIte]; rintro e w' ⟨rfl, rfl⟩)
    | (at_builtin; go_must (with_reducible refine Lib.wpList_append_run _ rfl _ _ _ _ rfl _ _ rfl rfl _ _ (HRUN.out _) ?_)))
  obtain ⟨W2, hW2⟩ : ∃ W2, w1.setCell ⟨bt, 1, none⟩ (.slice ga' (G + len) gc') = W2 := ⟨_, rfl⟩
  rw [hW2] at HPUT HT ⊢
  have e1 := HT.out.tb.c1
  have l2 := HT.out.tb.lt
  clear hW2 d1 f1 l1 HRUN HK c1 c3
  go_region_with (go_at_call 61; go_must (refine (HPUT.out _ (by first | exact Below.refl _ _ | exact (Below.refl _ _).drew)).mono ?_); rintro e w' ⟨rfl, hA⟩)
  all_goals
    go_wp2_with fail
    go_ret
    exact ⟨rfl, hA⟩

theorem insert_tab (bt : Nat) (F : Nat → Prop) (D : TD) (a : Option Addr) (len cap : Nat) (xs : List Int) (i : Int) (w : World) (h : TabOk w F bt D) (hr : Rd .i32 w a len cap xs) (hi : -9223372036854775808 ≤ i ∧ i ≤ 9223372036854775807) (hbig : D.gs.length + len ≤ lim) :
    Calls Try.prog 104 #[.pointer (some ⟨bt, 0, none⟩), .int .i64 i, .slice a len cap] w fun e w' => e = .returned (.int .i64 (insM D.row i xs).2) ∧ After w F bt D (insM D.row i xs).1 D.kept (if (insM D.row i xs).2 = 0 then 2 else 0) len w' := by
  unfold insM
  cases hb : hasB D.row.length i 0 with
  | false =>
    simp only [Bool.false_eq_true, ↓reduceIte]
    refine (insert_err bt F D a len cap i w h hi hb).mono ?_
    rintro e w' ⟨rfl, rfl⟩
    exact ⟨rfl, After.same h (Below.refl _ _) _ _⟩
  | true =>
    simp only [↓reduceIte]
    have hb' := hasB_iff.1 hb
    by_cases hf : 65536 - (D.row.length : Int) < xs.length
    · rw [if_pos hf]
      refine (insert_full bt F D a len cap i w h hi hb (by rw [← hr.1]; exact hf) hr.small).mono ?_
      rintro e w' ⟨rfl, rfl⟩
      exact ⟨rfl, After.same h (Below.refl _ _) _ _⟩
    · rw [if_neg hf]
      obtain ⟨n, rfl⟩ : ∃ n : Nat, i = n := ⟨i.toNat, by omega⟩
      have hxl := hr.1
      refine (insert_ok bt F D a len cap xs n w h hr (by omega) (by omega) hbig).mono ?_
      rintro e w' ⟨rfl, hA⟩
      exact ⟨rfl, hA⟩

/-- what drop leaves behind of a table -/
theorem drop_tab (bt : Nat) (F : Nat → Prop) (D : TD) (n m : Nat) (w : World) (h : TabOk w F bt D) (hn : n + m ≤ sumL D.ps) (hbig : D.gs.length ≤ lim) :
    Calls Try.prog 108 #[.pointer (some ⟨bt, 2, none⟩), .int .i64 n, .int .i64 m] w fun e w' => e = .returned (.tuple #[]) ∧ After w F bt D (D.row.take n ++ D.row.drop (n + m)) D.kept 2 0 w' := by
  by_cases hm : m = 0
  · subst hm
    refine (drop_0 bt n w).mono ?_
    rintro e w' ⟨rfl, rfl⟩
    have := After.same h (Below.refl _ w) 2 0
    rw [Nat.add_zero, List.take_append_drop]
    exact ⟨rfl, this⟩
  · have hok := h.ok
    have hroom := h.room
    refine (drop_any bt D.fv D.gv D.sv D.v D.rem D.ps D.fs D.gs n m w ⟨h.tb, h.po⟩ hok (by have := h.small; unfold lim; omega) hbig hroom hn (by omega)).mono ?_
    rintro e w' ⟨rfl, v', hR, hfr, hN⟩
    obtain ⟨p1, p2, p3, p4, p5⟩ := dropM_spec hok hn (show 0 < m by omega)
    have hc := congrArg List.length p2
    have hrow : cont D.fs D.gs D.ps = D.row := rfl
    rw [cont_len p1, hrow] at hc
    have hrl := h.len
    have hsum : sumL (dropM D.ps n m) = sumL D.ps - m := by
      rw [hc]
      simp only [List.length_append, List.length_take, List.length_drop]
      omega
    rw [← hsum] at hR
    have hT' := tab_row h hR hfr hN p1 (by omega)
    refine ⟨rfl, _, _, hT', p2, rfl, p3, Nat.le_add_right _ _, hfr.mono ?_, fun k hk => hk.1⟩
    rintro k hk (e | ⟨_, e⟩)
    · subst e; exact h.inF.1
    · exact h.inF.2.2.2.1 k e.symm

theorem delete_tab (bt : Nat) (F : Nat → Prop) (D : TD) (i n : Int) (w : World) (h : TabOk w F bt D) (hi : -9223372036854775808 ≤ i ∧ i ≤ 9223372036854775807) (hn : -9223372036854775808 ≤ n ∧ n ≤ 9223372036854775807) (hbig : D.gs.length ≤ lim) :
    Calls Try.prog 103 #[.pointer (some ⟨bt, 0, none⟩), .int .i64 i, .int .i64 n] w fun e w' => e = .returned (.int .i64 (delM D.row i n).2) ∧ After w F bt D (delM D.row i n).1 D.kept (if (delM D.row i n).2 = 0 then 2 else 0) 0 w' := by
  unfold delM
  have hk := lacks_any bt D.fv D.gv D.v D.sv (sumL D.ps) D.rem i n w h.tb h.room hi hn
  rw [← h.len] at hk
  have HK := Lib.hid hk
  clear hk
  cases hb : hasB D.row.length i n with
  | false =>
    simp only [Bool.false_eq_true, ↓reduceIte]
    rw [hb] at HK
    clear hb
    have H := Lib.hid h
    clear h
    go_enter Try.func103, Try.ntmps103
    go_wp2_with (go_at_call 107; refine HK.out.mono ?_; unfold codeB; simp only [Bool.false_eq_true, ↓reduceIte]; rintro e w' ⟨rfl, rfl⟩)
    go_ret
    exact ⟨rfl, After.same H.out (Below.refl _ _) _ _⟩
  | true =>
    simp only [↓reduceIte]
    have hb' := hasB_iff.1 hb
    have hl := h.len
    obtain ⟨n', rfl⟩ : ∃ m : Nat, i = m := ⟨i.toNat, by omega⟩
    obtain ⟨m, rfl⟩ : ∃ m : Nat, n = m := ⟨n.toNat, by omega⟩
    have hd := drop_tab bt F D n' m w h (by omega) hbig
    rw [hb] at HK
    have HD := Lib.hid hd
    have hlt := h.tb.lt
    simp only [Int.toNat_natCast]
    clear hb hb' hl hd h
    go_enter Try.func103, Try.ntmps103
    go_wp2_with (first
      | (go_at_call 107; refine HK.out.mono ?_; unfold codeB; simp only [↓reduceIte]; rintro e w' ⟨rfl, rfl⟩)
      | (go_at_call 108; refine HD.out.mono ?_; rintro e w' ⟨rfl, hA⟩))
    go_ret
    exact ⟨rfl, hA⟩
end Go.Proofs.Ytndlebopfojjeaa.U
