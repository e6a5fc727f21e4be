/-
  A deed with both tables: a row put in, the row that came written over behind it.
-/
import Derived.Test.YtblbbcgdgbajnaaPDo
namespace Go.Proofs.Ytblbbcgdgbajnaa.U
open Go.RowKit
set_option linter.unusedVariables false
set_option linter.unusedSimpArgs false

/-- behind the table's Insert: the two tables, the deed's box, the row that was handed in -/
structure DI (B : Nat) (Q : Nat → Prop) (w wr : World) (bt bx : Nat) (row : List Int) (kept : List (List Int)) (L : List Int) (S : List (List Int)) (ng : Nat) (b : Nat) (v : Value) (ll : Nat) (o : Obj) : Prop where
  both : Both B (fun k => (Q k ∨ k = b) ∨ some k = v.ownBlock) wr bt bx row kept L S ng
  fr : Fr (fun k => B ≤ k ∧ ¬ Q k) w wr
  box : wr.heap[b]? = some o
  mine : Mine wr v ll
  apart : ∀ g, v.ownBlock = some g → w.heap.size < g ∧ g < wr.heap.size
  bb : w.heap.size = b

theorem DI.set {B : Nat} {Q : Nat → Prop} {w wr : World} {bt bx : Nat} {row : List Int} {kept : List (List Int)} {L : List Int} {S : List (List Int)} {ng b g n c j : Nat} {o : Obj} {u : Value} (hB : B ≤ w.heap.size) (h : DI B Q w wr bt bx row kept L S ng b (.slice (some ⟨g, 0, none⟩) n c) n o) (hq : ∀ k, Q k → k < w.heap.size) :
    DI B Q w (wr.setCell ⟨g, j, none⟩ u) bt bx row kept L S ng b (.slice (some ⟨g, 0, none⟩) n c) n o := by
  have hg := h.apart g rfl
  have hsz : (wr.setCell ⟨g, j, none⟩ u).heap.size = wr.heap.size := by simp
  refine ⟨?_, h.fr.setCell _ _ (fun hlt => absurd hlt (by simp only; omega)), ?_, h.mine.set, fun k hk => by rw [hsz]; exact h.apart k hk, h.bb⟩
  · exact h.both.fr (F := fun k => k = g) ((Fr.refl _ _).setCell _ _ (fun _ => rfl)) (fun k e => .inr (by rw [e]; rfl))
  · rw [Below.heap_setCell _ _ _ _ (by have := h.bb; simp only; omega)]
    exact h.box

set_option maxRecDepth 100000 in
set_option maxHeartbeats 2000000 in
theorem do_ins (B : Nat) (Q : Nat → Prop) (w : World) (bt bx : Nat) (row : List Int) (kept : List (List Int)) (L : List Int) (S : List (List Int)) (ng : Nat) (hB : B ≤ w.heap.size) (hQ : ∀ k, Q k → k < w.heap.size) (h : Both B Q w bt bx row kept L S ng)
    (p n : Int) (al : Option Addr) (ll cl : Nat) (LL : List Int) (hp : i64b p) (hg : ng + ll ≤ lim) (hl : ll ≤ 2000) (hr : ∀ W, Below B w W → Rd .i32 W al ll cl LL) :
    Calls Try.prog 11 #[.pointer (some ⟨bt, 0, none⟩), .pointer (some ⟨bx, 0, none⟩), .agg #[.int .i64 0, .int .i64 p, .int .i64 n, .slice al ll cl]] w fun e w' => (∃ b, e = .returned (.bool b) ∧ ((insM row p LL).2 = (insM L p LL).2 → b = true)) ∧ Both B Q w' bt bx (insM row p LL).1 kept (insM L p LL).1 S (ng + ll) ∧ Fr (fun k => B ≤ k ∧ ¬ Q k) w w' := by
  obtain ⟨wb, hwb⟩ : ∃ wb, w.alloc (.cells #[.int .i64 0, .int .i64 p, .int .i64 n, .slice al ll cl] 29) = wb := ⟨_, rfl⟩
  have hbl : Below w.heap.size w wb := by rw [← hwb]; exact (Below.refl _ _).alloc (Nat.le_refl _) _
  have hsz : wb.heap.size = w.heap.size + 1 := by rw [← hwb]; exact asz _ _
  have hcell : wb.heap[w.heap.size]? = some (.cells #[.int .i64 0, .int .i64 p, .int .i64 n, .slice al ll cl] 29 (0, 0)) := by rw [← hwb]; exact heap_alloc_new w _
  have HH := h.more (N := fun k => k = w.heap.size) (fun k hk => by omega) hbl
  obtain ⟨a2, c2', w2, hrun, ho, hb2⟩ := app_lit wb al ll cl LL (hr wb (hbl.mono hB)) (by omega)
  have HRUN := Lib.hid hrun
  have HB2 := HH.more (N := fun k => some k = (Value.slice a2 ll c2').ownBlock) (fun k hk => (ho.lt k hk.symm).1) hb2
  have hc2 := (hb2.block w.heap.size (by omega)).trans hcell
  have hwf : ∀ x ∈ LL, (Lit.int .i32 x).wf = true := (hr wb (hbl.mono hB)).2.2.2.1
  have hs2 := hb2.size
  have hF2 : Fr (fun k => B ≤ k ∧ ¬ Q k) w w2 := (Fr.of_below _ hbl).trans (Fr.of_below (fun k => B ≤ k ∧ ¬ Q k) hb2) (fun _ _ h => h)
  obtain ⟨b, hb⟩ : ∃ b, w.heap.size = b := ⟨_, rfl⟩
  obtain ⟨v, hv⟩ : ∃ v, Value.slice a2 ll c2' = v := ⟨_, rfl⟩
  have HT : Hid (Calls Try.prog 16 #[.pointer (some ⟨bt, 0, none⟩), .int .i64 p, .slice a2 ll c2'] w2 fun e w' => e = .returned (.int .i64 (insM row p LL).2) ∧
      DI B Q w w' bt bx (insM row p LL).1 kept L S (ng + ll) b (.slice a2 ll c2') ll (.cells #[.int .i64 0, .int .i64 p, .int .i64 n, .slice al ll cl] 29 (0, 0))) := by
    refine (both_t_ins (w := w2) (by omega) (fun k hk => ?_) HB2 a2 ll c2' LL p (own_rd ho hwf) hp hg).mono ?_
    · rcases hk with (e | e) | e
      · have := hQ k e; omega
      · omega
      · exact (ho.lt k e.symm).2
    · rintro e w' ⟨rfl, hbo, hf⟩
      refine ⟨rfl, ?_, hF2.trans hf (fun k _ hk => ⟨hk.1, fun q => hk.2 (.inl (.inl q))⟩), ?_, ?_, ?_, hb⟩
      · rw [← hb]; exact hbo
      · rw [← hb]; exact (hf.block _ (by omega) (fun hk => hk.2 (.inl (.inr rfl)))).trans hc2
      · exact (Mine.of_own ho).fr hf (fun k e hk => hk.2 (.inr e.symm))
      · intro g hg'
        have h1 := ho.lt g hg'
        have h2 := hf.size
        omega
  have HX : Hid (∀ W, DI B Q w W bt bx (insM row p LL).1 kept L S (ng + ll) b (.slice a2 ll c2') ll (.cells #[.int .i64 0, .int .i64 p, .int .i64 n, .slice al ll cl] 29 (0, 0)) → Calls Try.prog 24 #[.pointer (some ⟨bx, 0, none⟩), .int .i64 p, .slice al ll cl] W fun e w' => e = .returned (.int .i64 (insM L p LL).2) ∧
      Hid (Both B Q w' bt bx (insM row p LL).1 kept (insM L p LL).1 S (ng + ll) ∧ Fr (fun k => B ≤ k ∧ ¬ Q k) w w')) := by
    intro W hW
    have h1 := hW.fr.size
    refine (both_x_ins (w := W) (by omega) (fun k hk => ?_) hW.both al ll cl LL p (hr W (hW.fr.below hB (fun k hk => hk.1)))).mono ?_
    · rcases hk with (e | e) | e
      · have := hQ k e; omega
      · have := heap_lt hW.box; omega
      · exact (hW.apart k e.symm).2
    · rintro e w' ⟨rfl, hbo, hf⟩
      exact ⟨rfl, hbo.less (fun k hk => .inl (.inl hk)), hW.fr.trans hf (fun k _ hk => ⟨hk.1, fun q => hk.2 (.inl (.inl q))⟩)⟩
  have HS : Hid (∀ (W : World) (g j : Nat), DI B Q w W bt bx (insM row p LL).1 kept L S (ng + ll) b (.slice (some ⟨g, 0, none⟩) ll c2') ll (.cells #[.int .i64 0, .int .i64 p, .int .i64 n, .slice al ll cl] 29 (0, 0)) → DI B Q w (W.setCell ⟨g, j, none⟩ (.int .i32 7)) bt bx (insM row p LL).1 kept L S (ng + ll) b (.slice (some ⟨g, 0, none⟩) ll c2') ll (.cells #[.int .i64 0, .int .i64 p, .int .i64 n, .slice al ll cl] 29 (0, 0))) := fun W g j hW => hW.set hB hQ
  have HSOME : Hid (0 < ll → ∃ g, a2 = some ⟨g, 0, none⟩) := fun hp => own_some ho hp
  have k0 : wb.cell? ⟨b, 0, none⟩ = some (.int .i64 0) := by rw [← hb]; exact cell_row hcell 0
  have k3 : wb.cell? ⟨b, 3, none⟩ = some (.slice al ll cl) := by rw [← hb]; exact cell_row hcell 3
  have q1 : w2.cell? ⟨b, 1, none⟩ = some (.int .i64 p) := by rw [← hb]; exact cell_row hc2 1
  have hbw : b < wb.heap.size := by omega
  have hbw2 : b < w2.heap.size := by omega
  obtain ⟨d1, hd1⟩ : ∃ d1, (insM row p LL).2 = d1 := ⟨_, rfl⟩
  obtain ⟨d2, hd2⟩ : ∃ d2, (insM L p LL).2 = d2 := ⟨_, rfl⟩
  rw [hd1] at HT ⊢
  rw [hd2] at HX ⊢
  clear hrun HB2 hc2 hwf hs2 hF2 hv hQ h hbl hsz hcell hp hg hB hd1 hd2 HH ho hb2 hr
  have HWB : Hid (w.alloc (.cells #[.int .i64 0, .int .i64 p, .int .i64 n, .slice al ll cl] 29) = wb) := hwb
  have HBb := Lib.hid hb
  clear hwb hb
  go_enter Try.func11, Try.ntmps11
  go_upto_region 1 with fail
  rw [HWB.out, HBb.out]
  go_wp2_with (first
    | (at_builtin; go_must (with_reducible refine Lib.wpList_append_run _ rfl (.tmp 19) (.tmp 21) _ _ rfl _ _ rfl rfl _ _ (HRUN.out _) ?_))
    | (go_at_call 16; refine HT.out.mono ?_; rintro e w3 ⟨rfl, hdi⟩))
  clear k0 k3 q1 hbw hbw2
  have HDI := Lib.hid hdi
  clear hdi
  go_loopw [9] (fun s9 wr => ∃ j : Nat, s9 = .int .i64 j ∧ j ≤ ll ∧ Hid (DI B Q w wr bt bx (insM row p LL).1 kept L S (ng + ll) b (.slice a2 ll c2') ll (.cells #[.int .i64 0, .int .i64 p, .int .i64 n, .slice al ll cl] 29 (0, 0)))) (fun s9 _ => ll - (intOf s9).toNat)
  case atStart => exact ⟨0, rfl, Nat.zero_le _, HDI⟩
  case round =>
    obtain ⟨j, rfl, hj, hd⟩ := hrel
    by_cases hlt : j < ll
    · obtain ⟨g, rfl⟩ := HSOME.out (by omega)
      obtain ⟨⟨u, g1⟩, g2, g3⟩ := hd.out.mine.get hlt
      have HN := Lib.hid (HS.out wr g j hd.out)
      clear HDI
      go_wp2_with fail
      go_roundw
      case rel => exact ⟨j + 1, by go_num, by omega, HN⟩
      case measure => simp [intOf]; omega
    · obtain rfl : j = ll := by omega
      have q1 : wr.cell? ⟨b, 1, none⟩ = some (.int .i64 p) := cell_row hd.out.box 1
      have q3 : wr.cell? ⟨b, 3, none⟩ = some (.slice al j cl) := cell_row hd.out.box 3
      have q4 : b < wr.heap.size := heap_lt hd.out.box
      clear HDI
      go_wp2_with (go_at_call 24; refine (HX.out _ hd.out).mono ?_; rintro e w4 ⟨rfl, hfin⟩)
      go_ret
      exact ⟨⟨_, rfl, fun h => by simp [h]⟩, hfin.out⟩
end Go.Proofs.Ytblbbcgdgbajnaa.U
