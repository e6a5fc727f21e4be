/-
  The document's answer of layer 3: its table in memory, its contracts.
-/
import Derived.Test.YtblbbcgdgbajnaaPSlc
namespace Go.Proofs.Ytblbbcgdgbajnaa.U
open Go.RowKit
set_option linter.unusedVariables false
set_option linter.unusedSimpArgs false

def ints (xs : List Int) : List Value := xs.map (Value.int .i32)

/-- append of what can be read onto what was made since block B -/
theorem app_rd (w : World) (B : Nat) (v : Value) (n : Nat) (xs : List Int) (a : Option Addr) (m c : Nat) (ys : List Int) (h : w.ownsRow B 21 1 v n (ints xs)) (hB : B ≤ w.heap.size) (hr : Rd .i32 w a m c ys) (hb : n + m ≤ 17592186044416) :
    ∃ a' c' w', (∀ ty, (Builtin.append_ #[22, 22] ty #[v, .slice a m c]).run Try.prog w = .ok (.slice a' (n + m) c') w') ∧ w'.ownsRow B 21 1 (.slice a' (n + m) c') (n + m) (ints (xs ++ ys)) ∧ Below B w w' := by
  obtain ⟨i0, hi0, hz0, hz1, hz2⟩ := info_parts infoI
  obtain ⟨v', w', hrun, hown, hfr, hnear⟩ := run_append_own_k (P := Try.prog) w B 22 21 i0 _ 1 4 Try.underlying22 hi0 hz0 hz1 hz2 rfl (by decide) v n _ h a m c (ints ys) (by simpa [ints] using hr.1) (fun hp => Rd_cells hr hp) (ints1 _ _) (by unfold maxLen; omega) (by omega) hB
  obtain ⟨a', c', rfl⟩ := own_slice hown
  refine ⟨a', c', w', hrun, ?_, hfr.below hB (fun k e => (h.lt k e.symm).1)⟩
  unfold ints at hown ⊢
  rw [List.map_append]
  exact hown

/-- The document's table. -/
structure RefOk (w : World) (G : Nat → Prop) (bx : Nat) (L : List Int) (S : List (List Int)) : Prop where
  ex : ∃ (la : Option Addr) (lc : Nat) (sv : Value) (vs : List (Value × List Int)), w.heap[bx]? = some (.cells #[.slice la L.length lc, sv] 34 (0, 0)) ∧ w.ownsRow 0 21 1 (.slice la L.length lc) L.length (ints L) ∧
    w.ownsRow 0 22 1 sv S.length (vs.map Prod.fst) ∧ vs.map Prod.snd = S ∧ (∀ x ∈ vs, w.ownsRow 0 21 1 x.1 x.2.length (ints x.2) ∧ (∀ k, x.1.ownBlock = some k → G k) ∧ ∀ y ∈ x.2, (Lit.int .i32 y).wf = true) ∧
    (∀ k, (Value.slice la L.length lc).ownBlock = some k → G k) ∧ (∀ k, sv.ownBlock = some k → G k)
  inG : G bx
  wf : ∀ x ∈ L, (Lit.int .i32 x).wf = true
  room : L.length ≤ 65536
  lt : ∀ k, G k → k < w.heap.size

theorem RefOk.fr {w w' : World} {F G : Nat → Prop} {bx : Nat} {L : List Int} {S : List (List Int)} (h : RefOk w G bx L S) (hf : Fr F w w') (hd : ∀ k, G k → ¬ F k) : RefOk w' G bx L S where
  ex := by
    obtain ⟨la, lc, sv, vs, h1, h2, h3, h4, h5, h6, h7⟩ := h.ex
    exact ⟨la, lc, sv, vs, (hf.block bx (heap_lt h1) (hd _ h.inG)).trans h1, own_fr h2 hf (fun k e => hd k (h6 k e)), own_fr h3 hf (fun k e => hd k (h7 k e)), h4, fun x hx => ⟨own_fr (h5 x hx).1 hf (fun k e => hd k ((h5 x hx).2.1 k e)), (h5 x hx).2⟩, h6, h7⟩
  inG := h.inG
  wf := h.wf
  room := h.room
  lt := fun k hk => Nat.lt_of_lt_of_le (h.lt k hk) hf.size
theorem RefOk.below {w w' : World} {G : Nat → Prop} {bx : Nat} {L : List Int} {S : List (List Int)} (h : RefOk w G bx L S) (hb : Below w.heap.size w w') : RefOk w' G bx L S := h.fr (Fr.of_below (fun _ => False) hb) (fun _ _ h => h)

/-- another row is laid -/
theorem RefOk.lay {w w1 : World} {G : Nat → Prop} {bx : Nat} {L L' : List Int} {S : List (List Int)} {la : Option Addr} {lc : Nat} (h : RefOk w G bx L S) (hb : Below w.heap.size w w1) (ho : w1.ownsRow w.heap.size 21 1 (.slice la L'.length lc) L'.length (ints L')) (hw : ∀ x ∈ L', (Lit.int .i32 x).wf = true) (hr : L'.length ≤ 65536) :
    RefOk (w1.setCell ⟨bx, 0, none⟩ (.slice la L'.length lc)) (plus G w w1) bx L' S ∧ Fr G w (w1.setCell ⟨bx, 0, none⟩ (.slice la L'.length lc)) := by
  have hbx := h.lt _ h.inG
  have hf : Fr (· = bx) w (w1.setCell ⟨bx, 0, none⟩ (.slice la L'.length lc)) := (Fr.of_below (· = bx) hb).setCell _ _ (fun _ => rfl)
  have inn : ∀ {k : Nat}, G k → plus G w w1 k := fun hk => ⟨.inl hk, Nat.lt_of_lt_of_le (h.lt _ hk) hb.size⟩
  have hsz : (w1.setCell ⟨bx, 0, none⟩ (.slice la L'.length lc)).heap.size = w1.heap.size := by simp
  refine ⟨{ ex := ?_, inG := inn h.inG, wf := hw, room := hr, lt := fun k hk => by rw [hsz]; exact hk.2 }, hf.mono (fun k _ e => by subst e; exact h.inG)⟩
  obtain ⟨la0, lc0, sv, vs, h1, h2, h3, h4, h5, h6, h7⟩ := h.ex
  have h1' : w1.heap[bx]? = some (.cells #[.slice la0 L.length lc0, sv] 34 (0, 0)) := (hb.block bx hbx).trans h1
  refine ⟨la, lc, sv, vs, heap_set h1' 0 _, ?_, ?_, h4, fun x hx => ⟨?_, fun k e => inn ((h5 x hx).2.1 k e), (h5 x hx).2.2⟩, fun k e => ⟨.inr (ho.lt k e).1, (ho.lt k e).2⟩, fun k e => inn (h7 k e)⟩
  · exact own_mono (own_block ho (fun k e => Below.heap_setCell _ _ _ _ (by have := (ho.lt k e).1; exact Nat.ne_of_gt (by simp only; omega)))) (Nat.zero_le _)
  · exact own_fr h3 hf (fun k e => row_block_apart h3 h1 (by decide) e)
  · exact own_fr (h5 x hx).1 hf (fun k e => row_block_apart (h5 x hx).1 h1 (by decide) e)

def AfterX (w : World) (G : Nat → Prop) (bx : Nat) (L : List Int) (S : List (List Int)) (w' : World) : Prop := ∃ G', RefOk w' G' bx L S ∧ Fr G w w' ∧ ∀ k, G' k → G k ∨ w.heap.size ≤ k
theorem AfterX.same {w w' : World} {G : Nat → Prop} {bx : Nat} {L : List Int} {S : List (List Int)} (h : RefOk w G bx L S) (hb : Below w.heap.size w w') : AfterX w G bx L S w' := ⟨G, h.below hb, Fr.of_below _ hb, fun _ hk => .inl hk⟩

/-- what can be read of its row -/
theorem RefOk.rd {w : World} {G : Nat → Prop} {bx : Nat} {L : List Int} {S : List (List Int)} (h : RefOk w G bx L S) : ∃ la lc, w.cell? ⟨bx, 0, none⟩ = some (.slice la L.length lc) ∧ Rd .i32 w la L.length lc L := by
  obtain ⟨la, lc, sv, vs, h1, h2, h3, h4, h5, h6, h7⟩ := h.ex
  exact ⟨la, lc, cell_row h1 0, Rd.own (k := .i32) h2 h.wf⟩
theorem RefOk.fz {w : World} {G : Nat → Prop} {bx : Nat} {L : List Int} {S : List (List Int)} (h : RefOk w G bx L S) (i : Nat) : w.frozen? ⟨bx, i, none⟩ = false := by
  obtain ⟨la, lc, sv, vs, h1, _⟩ := h.ex
  exact frozen_row h1 i

theorem rIns_err (bx : Nat) (G : Nat → Prop) (L : List Int) (S : List (List Int)) (a : Option Addr) (len cap : Nat) (i : Int) (w : World) (h : RefOk w G bx L S) (hb : hasB L.length i 0 = false) :
    Calls Try.prog 24 #[.pointer (some ⟨bx, 0, none⟩), .int .i64 i, .slice a len cap] w fun e w' => e = .returned (.int .i64 2) ∧ w = w' := by
  obtain ⟨la, lc, c0, hr⟩ := h.rd
  have hbx := h.lt _ h.inG
  have hro := h.room
  generalize hN : L.length = N at *
  by_cases h1 : i < 0
  · clear hb h
    go_enter Try.func24, Try.ntmps24
    go_wp2
    go_ret
    exact ⟨rfl, rfl⟩
  · have h2 : (N : Int) < i := by simp [hasB] at hb; omega
    have h1' : 0 ≤ i := by omega
    clear hb h1 h
    go_enter Try.func24, Try.ntmps24
    go_wp2
    go_ret
    exact ⟨rfl, rfl⟩
theorem rIns_full (bx : Nat) (G : Nat → Prop) (L : List Int) (S : List (List Int)) (a : Option Addr) (len cap : Nat) (i : Int) (w : World) (h : RefOk w G bx L S) (hb : hasB L.length i 0 = true) (hf : 65536 - (L.length : Int) < len) (hl : len ≤ 9223372036854775807) :
    Calls Try.prog 24 #[.pointer (some ⟨bx, 0, none⟩), .int .i64 i, .slice a len cap] w fun e w' => e = .returned (.int .i64 3) ∧ w = w' := by
  obtain ⟨la, lc, c0, hr⟩ := h.rd
  have hbx := h.lt _ h.inG
  have hro := h.room
  have hb' := hasB_iff.1 hb
  generalize hN : L.length = N at *
  have h1 : 0 ≤ i := by omega
  have h2 : i ≤ (N : Int) := by omega
  clear hb hb' h
  go_enter Try.func24, Try.ntmps24
  go_wp2
  go_ret
  exact ⟨rfl, rfl⟩

/-- the tail of a slice, in the walk's words -/
theorem Rd.tail {k w a len cap xs} (h : Rd k w a len cap xs) (n : Nat) (hn : n ≤ len) (hc : ¬ cap = n) : Rd k w (a.map (·.add n)) (len - n) (cap - n) (xs.drop n) := by
  have h1 := h.drop n hn
  rw [if_neg hc, Nat.mul_one] at h1
  exact h1
theorem Rd.tail0 {k w a len cap xs} (h : Rd k w a len cap xs) (n : Nat) (hn : n ≤ len) (hc : cap = n) : Rd k w a (len - n) (cap - n) (xs.drop n) := by
  have h1 := h.drop n hn
  rw [if_pos hc] at h1
  exact h1

set_option maxHeartbeats 1000000 in
theorem rIns_ok (bx : Nat) (G : Nat → Prop) (L : List Int) (S : List (List Int)) (a : Option Addr) (len cap : Nat) (xs : List Int) (n : Nat) (w : World) (h : RefOk w G bx L S) (hr : Rd .i32 w a len cap xs) (hn : n ≤ L.length) (hf : L.length + len ≤ 65536) :
    Calls Try.prog 24 #[.pointer (some ⟨bx, 0, none⟩), .int .i64 n, .slice a len cap] w fun e w' => e = .returned (.int .i64 0) ∧ AfterX w G bx (L.take n ++ (xs ++ L.drop n)) S w' := by
  obtain ⟨la, lc, c0, hL⟩ := h.rd
  have hbx := h.lt _ h.inG
  have hxl := hr.1
  have hLc := hL.2.1
  have hLm := hL.2.2.1
  obtain ⟨a1, c1, w1, hrun1, ho1, hb1⟩ := app_rd w w.heap.size (.slice none 0 0) 0 [] la n lc (L.take n) (World.ownsRow_nil _ _ _ _) (Nat.le_refl _) (hL.take n hn) (by omega)
  obtain ⟨a2, c2, w2, hrun2, ho2, hb2⟩ := app_rd w1 w.heap.size (.slice a1 (0 + n) c1) (0 + n) _ a len cap xs ho1 hb1.size (hr.below hb1) (by omega)
  have hb12 := hb1.trans hb2
  obtain ⟨ta, hta, htr⟩ : ∃ ta, (if lc = n then la else la.map (·.add (n * 1))) = ta ∧ Rd .i32 w2 ta (L.length - n) (lc - n) (L.drop n) := ⟨_, rfl, (hL.below hb12).drop n hn⟩
  obtain ⟨a3, c3, w3, hrun3, ho3, hb3⟩ := app_rd w2 w.heap.size (.slice a2 (0 + n + len) c2) (0 + n + len) _ ta (L.length - n) (lc - n) (L.drop n) ho2 hb12.size htr (by omega)
  have hb123 := hb12.trans hb3
  rw [Nat.zero_add] at hrun1 hrun2 hrun3 ho3
  rw [List.nil_append, List.append_assoc] at ho3
  have hlen : (L.take n ++ (xs ++ L.drop n)).length = n + len + (L.length - n) := by simp; omega
  have hlay := h.lay (L' := L.take n ++ (xs ++ L.drop n)) (la := a3) (lc := c3) hb123 (by rw [hlen]; exact ho3) (by
    intro x hx
    rcases List.mem_append.1 hx with hx | hx
    · exact h.wf x (List.mem_of_mem_take hx)
    · rcases List.mem_append.1 hx with hx | hx
      · exact hr.2.2.2.1 x hx
      · exact h.wf x (List.mem_of_mem_drop hx)) (by rw [hlen]; omega)
  rw [hlen] at hlay
  have hR := h.below hb123
  have hbx3 := hR.lt _ hR.inG
  obtain ⟨la', lc', c03, _⟩ := hR.rd
  have f03 := hR.fz 0
  have HA : Hid (AfterX w G bx (L.take n ++ (xs ++ L.drop n)) S (w3.setCell ⟨bx, 0, none⟩ (.slice a3 (n + len + (L.length - n)) c3))) := ⟨_, hlay.1, hlay.2, fun k hk => hk.1⟩
  have c01 := (hb1.cell (p := ⟨bx, 0, none⟩) hbx).trans c0
  have c02 := (hb12.cell (p := ⟨bx, 0, none⟩) hbx).trans c0
  have l1 : bx < w1.heap.size := Nat.lt_of_lt_of_le hbx hb1.size
  have l2 : bx < w2.heap.size := Nat.lt_of_lt_of_le hbx hb12.size
  have HRUN1 := Lib.hid hrun1
  have HRUN2 := Lib.hid hrun2
  have HRUN3 := Lib.hid hrun3
  have HTA := Lib.hid hta
  obtain ⟨N, hN⟩ : ∃ N, L.length = N := ⟨_, rfl⟩
  rw [hN] at HRUN3 HA c0 c01 c02 c03 hn hf hLc
  have hnc : n ≤ lc := by omega
  have hlc : lc ≤ 9223372036854775807 := by unfold maxLen at hLm; omega
  have q1 : (n : Int) ≤ (N : Int) := by omega
  have q2 : (len : Int) ≤ 65536 - (N : Int) := by omega
  clear hrun1 hrun2 hrun3 ho1 ho2 ho3 hb1 hb2 hb3 hb12 hb123 hlay hlen hR htr hta hL hr h hxl hN hLm
  go_enter Try.func24, Try.ntmps24
  by_cases hcn : lc = n
  · rw [if_pos hcn] at HTA
    have hta := HTA.out
    subst hta
    have hcn2 := eq_true hcn
    have HCN := Lib.hid hcn
    clear hcn
    go_wp2_with (at_builtin; go_must (first
      | (with_reducible refine Lib.wpList_append_run _ rfl (.tmp 28) (.tmp 34) _ _ rfl _ _ rfl rfl _ _ (HRUN1.out _) ?_)
      | (with_reducible refine Lib.wpList_append_run _ rfl (.tmp 36) (.tmp 37) _ _ rfl _ _ rfl rfl _ _ (HRUN2.out _) ?_)
      | (with_reducible refine Lib.wpList_append_run _ rfl (.tmp 40) (.tmp 46) _ _ rfl _ _ rfl rfl _ _ (HRUN3.out _) ?_)))
    go_ret
    exact ⟨rfl, HA.out⟩
  · rw [if_neg hcn, Nat.mul_one] at HTA
    have hta := HTA.out
    subst hta
    go_wp2_with (at_builtin; go_must (first
      | (with_reducible refine Lib.wpList_append_run _ rfl (.tmp 28) (.tmp 34) _ _ rfl _ _ rfl rfl _ _ (HRUN1.out _) ?_)
      | (with_reducible refine Lib.wpList_append_run _ rfl (.tmp 36) (.tmp 37) _ _ rfl _ _ rfl rfl _ _ (HRUN2.out _) ?_)
      | (with_reducible refine Lib.wpList_append_run _ rfl (.tmp 40) (.tmp 46) _ _ rfl _ _ rfl rfl _ _ (HRUN3.out _) ?_)))
    go_ret
    exact ⟨rfl, HA.out⟩
end Go.Proofs.Ytblbbcgdgbajnaa.U
