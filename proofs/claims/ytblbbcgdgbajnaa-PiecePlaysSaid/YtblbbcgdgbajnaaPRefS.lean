/-
  The document's Save.
-/
import Derived.Test.YtblbbcgdgbajnaaPBoth
namespace Go.Proofs.Ytblbbcgdgbajnaa.U
open Go.RowKit
set_option linter.unusedVariables false
set_option linter.unusedSimpArgs false

theorem infoLL : (Try.prog.info? 22).map (fun i => (i.zero, i.size, i.bytes)) = some (some (.slice none 0 0), 1, 24) := by kernel_rfl

set_option maxHeartbeats 1000000 in
theorem rSave (bx : Nat) (G : Nat → Prop) (L : List Int) (S : List (List Int)) (w : World) (h : RefOk w G bx L S) (hs : S.length ≤ 1000000) :
    Calls Try.prog 27 #[.pointer (some ⟨bx, 0, none⟩)] w fun e w' => e = .returned (.int .i64 ((S.length : Nat) + 1 : Int)) ∧ AfterX w G bx L (S ++ [L]) w' := by
  obtain ⟨i0, hi0, hz0, hz1, hz2⟩ := info_parts infoLL
  have hD : RefOk w.drew G bx L S := h.below (Below.refl _ w).drew
  obtain ⟨la, lc, sv, vs, h1, h2, h3, h4, h5, h6, h7⟩ := hD.ex
  obtain ⟨s0, sc0, rfl⟩ := own_slice h3
  have hro := h.room
  have hL : Rd .i32 w.drew la L.length lc L := Rd.own (k := .i32) h2 h.wf
  obtain ⟨a1, c1, w1, hrun1, ho1, hb1⟩ := app_lit w.drew la L.length lc L hL (by omega)
  obtain ⟨w2, hw2⟩ : ∃ w2, w1.alloc (.cells #[.slice a1 L.length c1] 22) = w2 := ⟨_, rfl⟩
  have hb2 : Below w1.heap.size w1 w2 := by rw [← hw2]; exact (Below.refl _ _).alloc (Nat.le_refl _) _
  have hc2 : w2.heap[w1.heap.size]? = some (.cells #[.slice a1 L.length c1] 22 (0, 0)) := by rw [← hw2]; exact heap_alloc_new w1 _
  have hb12 : Below w.drew.heap.size w.drew w2 := hb1.trans (hb2.mono hb1.size)
  have hs2 : w2.ownsRow 0 22 1 (.slice s0 S.length sc0) S.length (vs.map Prod.fst) := own_fr h3 (Fr.of_below (fun _ => False) hb12) (fun _ _ h => h)
  obtain ⟨v', W', hrun2, hown, hfr, hnear⟩ := run_append_own_k (P := Try.prog) w2 0 32 22 i0 _ 1 24 Try.underlying32 hi0 hz0 hz1 hz2 rfl (by decide) (.slice s0 S.length sc0) S.length (vs.map Prod.fst) hs2 (some ⟨w1.heap.size, 0, none⟩) 1 1 [.slice a1 L.length c1] rfl
    (fun _ => ⟨_, rfl, fun j u hu => by rw [add_lit, cell_row hc2, Nat.zero_add]; simpa using hu⟩)
    (by intro u hu; simp only [List.mem_cons, List.not_mem_nil, or_false] at hu; subst hu; rfl)
    (by unfold maxLen; omega) (by omega) (Nat.zero_le _)
  obtain ⟨s1, sc1, rfl⟩ := own_slice hown
  have hbx : bx < w.drew.heap.size := heap_lt h1
  have hbW2 : w2.heap[bx]? = some (.cells #[.slice la L.length lc, .slice s0 S.length sc0] 34 (0, 0)) := (hb12.block bx hbx).trans h1
  have hbW : W'.heap[bx]? = some (.cells #[.slice la L.length lc, .slice s0 S.length sc0] 34 (0, 0)) := (hfr.block bx (heap_lt hbW2) (fun e => row_block_apart hs2 hbW2 (by decide) e.symm rfl)).trans hbW2
  obtain ⟨W, hW⟩ : ∃ W, W'.setCell ⟨bx, 1, none⟩ (.slice s1 (S.length + 1) sc1) = W := ⟨_, rfl⟩
  have keepI : ∀ {v : Value} {n : Nat} {xs : List Value}, w2.ownsRow 0 21 1 v n xs → W.ownsRow 0 21 1 v n xs := by
    intro v n xs ho
    have h1' := own_fr ho hfr (fun k e hk => rows_apart ho hs2 (by decide) e hk)
    rw [← hW]
    exact own_block h1' (fun k e => Below.heap_setCell _ _ _ _ (row_block_apart h1' hbW (by decide) e))
  have hsz : w.heap.size ≤ w2.heap.size := hb12.size
  have hszW : W.heap.size = W'.heap.size := by rw [← hW]; simp
  have hszF := hfr.size
  have inn : ∀ k, G k → G k ∨ w.heap.size ≤ k := fun k hk => .inl hk
  have hR : RefOk W (fun k => (G k ∨ w.heap.size ≤ k) ∧ k < W.heap.size) bx L (S ++ [L]) := by
    have lt0 : ∀ k, G k → k < W.heap.size := fun k hk => by have := hD.lt k hk; have := hb12.size; omega
    refine { ex := ⟨la, lc, .slice s1 (S.length + 1) sc1, vs ++ [(.slice a1 L.length c1, L)], ?_, ?_, ?_, ?_, ?_, ?_, ?_⟩, inG := ⟨.inl h.inG, lt0 _ h.inG⟩, wf := h.wf, room := h.room, lt := fun k hk => hk.2 }
    · rw [← hW]; exact heap_set hbW 1 _
    · exact keepI (own_fr h2 (Fr.of_below (fun _ => False) hb12) (fun _ _ h => h))
    · rw [List.map_append, List.length_append, ← hW]
      exact own_block hown (fun k e => Below.heap_setCell _ _ _ _ (row_block_apart hown hbW (by decide) e))
    · rw [List.map_append, h4]; rfl
    · intro x hx
      rcases List.mem_append.1 hx with hx | hx
      · obtain ⟨o1, o2, o3⟩ := h5 x hx
        exact ⟨keepI (own_fr o1 (Fr.of_below (fun _ => False) hb12) (fun _ _ h => h)), fun k e => ⟨.inl (o2 k e), lt0 _ (o2 k e)⟩, o3⟩
      · simp only [List.mem_cons, List.not_mem_nil, or_false] at hx
        subst hx
        refine ⟨keepI (own_mono (own_fr ho1 (Fr.of_below (fun _ => False) hb2) (fun _ _ h => h)) (Nat.zero_le _)), fun k e => ?_, h.wf⟩
        have q := ho1.lt k e
        have := hb2.size
        exact ⟨.inr q.1, by omega⟩
    · exact fun k e => ⟨.inl (h6 k e), lt0 _ (h6 k e)⟩
    · intro k e
      have hlt := (hown.lt k e).2
      rcases hnear with e' | e'
      · rw [e'] at e; exact ⟨.inl (h7 k e), lt0 _ (h7 k e)⟩
      · rw [e'] at e; cases e; exact ⟨.inr hsz, by omega⟩
  have hF : Fr G w W := by
    have hall : Below w.heap.size w w2 := (Below.refl w.heap.size w).drew.trans hb12
    have f1 : Fr (fun k => some k = (Value.slice s0 S.length sc0).ownBlock) w W' := (Fr.of_below (fun k => some k = (Value.slice s0 S.length sc0).ownBlock) hall).trans hfr (fun _ _ h => h)
    rw [← hW]
    exact (f1.mono (fun k _ e => h7 k e.symm)).setCell _ _ (fun _ => h.inG)
  have HA : Hid (AfterX w G bx L (S ++ [L]) W) := ⟨_, hR, hF, fun k hk => hk.1⟩
  have c0 : w.drew.cell? ⟨bx, 0, none⟩ = some (.slice la L.length lc) := cell_row h1 0
  have c1' : w.drew.cell? ⟨bx, 1, none⟩ = some (.slice s0 S.length sc0) := cell_row h1 1
  have d1 : w1.cell? ⟨bx, 1, none⟩ = some (.slice s0 S.length sc0) := (hb1.cell (p := ⟨bx, 1, none⟩) hbx).trans c1'
  have lw1 : bx < w1.heap.size := Nat.lt_of_lt_of_le hbx hb1.size
  have e1 : W'.cell? ⟨bx, 1, none⟩ = some (.slice s0 S.length sc0) := cell_row hbW 1
  have g1 : W'.frozen? ⟨bx, 1, none⟩ = false := frozen_row hbW 1
  have lW : bx < W'.heap.size := heap_lt hbW
  have kW : W.cell? ⟨bx, 1, none⟩ = some (.slice s1 (S.length + 1) sc1) := by rw [← hW]; exact cell_row (heap_set hbW 1 _) 1
  have lWW : bx < W.heap.size := by omega
  have HRUN1 := Lib.hid hrun1
  rw [← hw2] at hrun2
  have HRUN2 := Lib.hid hrun2
  have HW2 := Lib.hid hw2
  have HWW := Lib.hid hW
  have hbx' : bx < w.heap.size := hbx
  have c0' : w.cell? ⟨bx, 0, none⟩ = some (.slice la L.length lc) := c0
  have c1'' : w.cell? ⟨bx, 1, none⟩ = some (.slice s0 S.length sc0) := c1'
  generalize L.length = NL at *
  obtain ⟨NS, hNS⟩ : ∃ NS, S.length = NS := ⟨_, rfl⟩
  rw [hNS] at HRUN2 HWW kW c1' c1'' d1 e1 hs ⊢
  clear hi0 hz0 hz1 hz2 hD h1 h2 h3 h4 h5 h6 h7 hL hrun1 ho1 hb1 hb2 hc2 hb12 hs2 hrun2 hown hfr hnear hbW2 hbW keepI hR hF inn hw2 hW h hNS hsz hszW hszF
  go_enter Try.func27, Try.ntmps27
  go_wp2_with fail
  go_region_law (first
    | (refine step_append_run rfl (.tmp 8) (.tmp 12) _ _ rfl _ _ (by simp [Act.eval, Act.put]) (by simp [Act.eval, Act.put]) (HRUN1.out _) ?_)
    | (refine step_append_run rfl (.tmp 7) (.tmp 14) _ _ rfl _ _ (by simp [Act.eval, Act.put]) (by simp [Act.eval, Act.put]) (HRUN2.out _) ?_))
  all_goals
    rw [HWW.out]
    go_wp2_with fail
    go_ret
    exact ⟨by first | rfl | exact ret_int (by omega), HA.out⟩

theorem both_x_save {B : Nat} {Q : Nat → Prop} {w : World} {bt bx : Nat} {row : List Int} {kept : List (List Int)} {L : List Int} {S : List (List Int)} {ng : Nat} (hB : B ≤ w.heap.size) (hQ : ∀ k, Q k → k < w.heap.size) (h : Both B Q w bt bx row kept L S ng) (hs : S.length ≤ 1000000) :
    Calls Try.prog 27 #[.pointer (some ⟨bx, 0, none⟩)] w fun e w' => e = .returned (.int .i64 ((S.length : Nat) + 1 : Int)) ∧ Both B Q w' bt bx row kept L (S ++ [L]) ng ∧ Fr (fun k => B ≤ k ∧ ¬ Q k) w w' := by
  obtain ⟨G, hG, T, R⟩ := h
  refine (rSave bx G L S w R hs).mono ?_
  rintro e w' ⟨rfl, A⟩
  exact ⟨rfl, Both.x hB hQ hG T A⟩
theorem both_t_sli {B : Nat} {Q : Nat → Prop} {w : World} {bt bx : Nat} {row : List Int} {kept : List (List Int)} {L : List Int} {S : List (List Int)} {ng : Nat} (h : Both B Q w bt bx row kept L S ng) (i n : Int) (hi : i64b i) (hn : i64b n) (hg : ng ≤ lim) :
    Calls Try.prog 19 #[.pointer (some ⟨bt, 0, none⟩), .int .i64 i, .int .i64 n] w fun e w' => ∃ a c, e = .returned (.tuple #[.slice a (sliM row i n).1.length c, .int .i64 (sliM row i n).2]) ∧
      w'.ownsRow w.heap.size 21 1 (.slice a (sliM row i n).1.length c) (sliM row i n).1.length (ints (sliM row i n).1) ∧ Below w.heap.size w w' := by
  obtain ⟨G, hG, T, R⟩ := h
  exact ts_slice _ bt row kept 65536 ng i n w T hi hn hg
theorem both_x_sli {B : Nat} {Q : Nat → Prop} {w : World} {bt bx : Nat} {row : List Int} {kept : List (List Int)} {L : List Int} {S : List (List Int)} {ng : Nat} (h : Both B Q w bt bx row kept L S ng) (i n : Int) (hi : i64b i) :
    Calls Try.prog 26 #[.pointer (some ⟨bx, 0, none⟩), .int .i64 i, .int .i64 n] w fun e w' => ∃ a c, e = .returned (.tuple #[.slice a (sliM L i n).1.length c, .int .i64 (sliM L i n).2]) ∧
      w'.ownsRow w.heap.size 21 1 (.slice a (sliM L i n).1.length c) (sliM L i n).1.length (ints (sliM L i n).1) ∧ Below w.heap.size w w' := by
  obtain ⟨G, hG, T, R⟩ := h
  exact rSli bx G L S i n w R hi
end Go.Proofs.Ytblbbcgdgbajnaa.U
