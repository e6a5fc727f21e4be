/-
  The contracts of row.cut, row.put, row.drop.
-/
import Derived.Test.YtndlebopfojjeaaPSm
import Derived.Deep.RegionHeld3
import Derived.BigRegion
import Derived.Deep.DeepCutAuto
namespace Go.Proofs.Ytndlebopfojjeaa.U
open Go.RowKit
set_option linter.unusedVariables false
set_option linter.unusedSimpArgs false
set_option maxRecDepth 100000

/-- A row at hand: its list of pieces is its alone. -/
def RowAt (w : World) (bt : Nat) (f a s : Value) (v : Value) (len : Int) (ps : List Pc) : Prop :=
  TB w bt f a v len false s ∧ w.ownsRow 0 105 3 v ps.length (flatP ps)
/-- what a change of it may touch -/
def touch (bt : Nat) (v : Value) (k : Nat) : Prop := k = bt ∨ some k = v.ownBlock

theorem two1 (w : World) (o1 o2 : Obj) : ((w.alloc o1).alloc o2).drew.heap[w.heap.size]? = some o1 :=
  (Below.heap_alloc (w.alloc o1) o2 _ (by simp)).trans (heap_alloc_new w o1)
theorem two2 (w : World) (o1 o2 : Obj) : ((w.alloc o1).alloc o2).drew.heap[w.heap.size + 1]? = some o2 := by
  have h := heap_alloc_new (w.alloc o1) o2
  rw [World.size_alloc] at h
  exact h
theorem twoB (w : World) (o1 o2 : Obj) : Below w.heap.size w ((w.alloc o1).alloc o2).drew := (((Below.refl _ w).alloc (Nat.le_refl _) o1).alloc (by simp) o2).drew

theorem cut_end {w3 : World} {bt : Nat} {f a s u v' : Value} {len : Int} {ps : List Pc} {i L : Nat} {x y : Pc} (hown : w3.ownsRow 0 105 3 v' (ps.length + 1) (flatP (ps.take i ++ x :: y :: ps.drop (i + 1)))) (hTB : TB w3 bt f a u len false s) (hL : ps.length = L) (hi : i < ps.length) :
    RowAt (w3.setCell ⟨bt, 2, none⟩ v') bt f a s v' len (ps.take i ++ x :: y :: ps.drop (i + 1)) := by
  refine ⟨hTB.set2 _, ?_⟩
  have e : (ps.take i ++ x :: y :: ps.drop (i + 1)).length = ps.length + 1 := by simp; omega
  rw [e]
  exact own_block hown (fun k hk => Below.heap_setCell _ _ _ _ (row_block_apart hown hTB (by decide) hk))
theorem cut_fr {w w1 W w3 : World} {bt : Nat} {v u : Value} (h1 : Below w.heap.size w w1) (h2 : Below w1.heap.size w1 W) (h3 : Fr (own1 v) W w3) (hbt : bt < w1.heap.size) : Fr (touch bt v) w (w3.setCell ⟨bt, 2, none⟩ u) :=
  (((Fr.of_below (touch bt v) h1).trans (Fr.of_below (fun _ => False) h2) (fun _ _ h => h.elim)).trans h3 (fun _ _ h => .inr h)).setCell _ _ (fun _ => .inl rfl)

set_option maxHeartbeats 4000000 in
theorem cut_any (bt : Nat) (f a s : Value) (v : Value) (ps : List Pc) (len : Int) (n : Nat) (w : World) (h : RowAt w bt f a s v len ps)
    (hps : ∀ p ∈ ps, p.fr ≤ p.to ∧ p.to ≤ lim) (hn : n ≤ sumL ps) (hnl : n ≤ lim) (hpl : ps.length ≤ 1073741822) :
    Calls Try.prog 70 #[.pointer (some ⟨bt, 2, none⟩), .int .i64 n] w fun e w' => e = .returned (.int .i64 ((cutM ps n).2 : Nat)) ∧ ∃ v', RowAt w' bt f a s v' len (cutM ps n).1 ∧ Fr (touch bt v) w w' ∧ Near w v v' := by
  obtain ⟨hT, hO⟩ := h
  obtain ⟨ap, cp, rfl⟩ := own_slice hO
  have hfind := find_any bt f a s ap cp ps len false n w hT (RdP.own hO) hps hn hnl
  obtain ⟨q1, q2, q3, q4⟩ := findM_spec ps n hn
  have hlt := hT.lt
  have hcut : cutM ps n = cutM ps n := rfl
  unfold cutM at hcut ⊢
  obtain ⟨⟨i, k⟩, hF⟩ : ∃ F, findM ps n = F := ⟨_, rfl⟩
  rw [hF] at hfind q1 q2 q3 q4 ⊢
  simp only at hfind q1 q2 q3 q4 ⊢
  have HFI := Lib.hid hfind
  have HT := Lib.hid hT
  have HO := Lib.hid hO
  clear hfind hT hO hcut hF
  by_cases hk : k = 0
  · subst hk
    simp only [↓reduceIte]
    go_enter Try.func70, Try.ntmps70
    go_wp2_with fail
    refine HFI.out.mono ?_
    rintro e w1 ⟨rfl, hb⟩
    go_wp2
    go_ret
    exact ⟨rfl, _, ⟨HT.out.below hb, own_fr HO.out (Fr.of_below (fun _ => False) hb) (fun _ _ h => h)⟩, Fr.of_below _ hb, .inl rfl⟩
  · rw [if_neg hk]
    have hil : i < ps.length := by
      by_cases e : i = ps.length
      · exact absurd (q4 e) hk
      · omega
    have hpi : ps[i]? = some ps[i] := List.getElem?_eq_getElem hil
    have hg : ps.getD i default = ps[i] := by rw [List.getD_eq_getElem?_getD, hpi]; rfl
    rw [hg]
    have hkl := q3 ps[i] hpi
    have hpb := hps ps[i] (List.getElem_mem hil)
    obtain ⟨p, hp⟩ : ∃ p, ps[i] = p := ⟨_, rfl⟩
    rw [hp] at hkl hpb hpi ⊢
    obtain ⟨ad, fr, tt⟩ := p
    unfold lim at hpb hnl
    obtain ⟨hp1, hp2⟩ := hpb
    simp only [Pc.len] at hkl hp1 hp2 ⊢
    obtain ⟨g, rfl⟩ := own_some HO.out (by omega)
    obtain ⟨L, hL⟩ : ∃ L, ps.length = L := ⟨_, rfl⟩
    have HL := Lib.hid hL
    have HPI := Lib.hid hpi
    rw [hL] at hil
    have hi0 : (0 : Int) ≤ (i : Int) := by omega
    have hiL : (i : Int) < (L : Int) := by omega
    have hkk : ((k : Int) == 0) = false := by simp; omega
    clear hpi hg hp hps hL q1 q2 q3 q4
    go_enter Try.func70, Try.ntmps70
    go_wp2_with fail
    refine HFI.out.mono ?_
    rintro e w1 ⟨rfl, hb⟩
    have hO1 : w1.ownsRow 0 105 3 (.slice (some ⟨g, 0, none⟩) ps.length cp) ps.length (flatP ps) := own_fr HO.out (Fr.of_below (fun _ => False) hb) (fun _ _ h => h)
    have HO1 := Lib.hid hO1
    have HT1 := Lib.hid (HT.out.below hb)
    have HB := Lib.hid hb
    obtain ⟨b', off', ha, hgl, hc⟩ := (RdP.own hO1).at_ (by have := HL.out; omega)
    simp only [Option.some.injEq, Addr.mk.injEq, and_true] at ha
    obtain ⟨rfl, rfl⟩ := ha
    obtain ⟨c0, c1, c2⟩ := hc i _ HPI.out
    simp only [Nat.zero_add] at c0 c1 c2
    have t2 := HT1.out.c2
    rw [HL.out] at t2
    have hbt1 := HT1.out.lt
    clear hc hO1 hb
    go_wp2_with fail
    go_upto_region 4 with fail
    go_cut [7, 8] (fun s7 s8 wx => ∃ b7 b8, s7 = .pointer (some ⟨b7, 0, none⟩) ∧ s8 = .pointer (some ⟨b8, 0, none⟩) ∧ b7 ≠ b8 ∧ w1.heap.size ≤ b7 ∧ w1.heap.size ≤ b8 ∧
      wx.heap[b7]? = some (.cells #[.bool ad, .int .i64 fr, .int .i64 tt] 105 (0, 0)) ∧ wx.heap[b8]? = some (.cells #[.bool ad, .int .i64 fr, .int .i64 tt] 105 (0, 0)) ∧ Below w1.heap.size w1 wx)
    case first =>
      go_region
      all_goals
        go_wp2_with fail
        go_meet
        first
          | exact ⟨w1.heap.size, w1.heap.size + 1, rfl, rfl, by omega, by omega, by omega, two1 w1 _ _, two2 w1 _ _, twoB w1 _ _⟩
          | exact ⟨w1.heap.size + 1, w1.heap.size, rfl, rfl, by omega, by omega, by omega, two2 w1 _ _, two1 w1 _ _, twoB w1 _ _⟩
    case rest =>
      obtain ⟨b7, b8, rfl, rfl, hne, h7, h8, hb7, hb8, hbx⟩ := hcut
      obtain ⟨wx, hwx⟩ : ∃ wx, wx = wc := ⟨_, rfl⟩
      subst hwx
      have HBX := Lib.hid hbx
      have H7 := Lib.hid hb7
      have H8 := Lib.hid hb8
      have d70 : wx.cell? ⟨b7, 0, none⟩ = some (.bool ad) := cell_row hb7 0
      have d71 : wx.cell? ⟨b7, 1, none⟩ = some (.int .i64 fr) := cell_row hb7 1
      have d72 : wx.cell? ⟨b7, 2, none⟩ = some (.int .i64 tt) := cell_row hb7 2
      have d80 : wx.cell? ⟨b8, 0, none⟩ = some (.bool ad) := cell_row hb8 0
      have d81 : wx.cell? ⟨b8, 1, none⟩ = some (.int .i64 fr) := cell_row hb8 1
      have d82 : wx.cell? ⟨b8, 2, none⟩ = some (.int .i64 tt) := cell_row hb8 2
      have f72 := frozen_row hb7 2
      have f81 := frozen_row hb8 1
      have tx2 := (hbx.cell (p := ⟨bt, 2, none⟩) hbt1).trans t2
      have k7 := heap_lt hb7
      have k8 := heap_lt hb8
      have hne' : ¬ (b8 = b7) := fun e => hne e.symm
      clear hb7 hb8 hbx c0 c1 c2
      go_wp2_with fail
      obtain ⟨W, hW⟩ : ∃ W, (wx.setCell ⟨b7, 2, none⟩ (.int .i64 ((fr : Int) + (k : Int)))).setCell ⟨b8, 1, none⟩ (.int .i64 ((fr : Int) + (k : Int))) = W := ⟨_, rfl⟩
      rw [hW]
      have HFW : Hid (Below w1.heap.size w1 W) := by
        show Below _ _ _
        rw [← hW]
        exact (HBX.out.setCell h7 _).setCell h8 _
      have HB8 : Hid (W.heap[b8]? = some (.cells #[.bool ad, .int .i64 ((fr : Int) + (k : Int)), .int .i64 tt] 105 (0, 0))) := by
        show _ = _
        rw [← hW]
        exact heap_set ((Below.heap_setCell wx _ _ _ hne').trans H8.out) 1 _
      have HB7 : Hid (W.heap[b7]? = some (.cells #[.bool ad, .int .i64 fr, .int .i64 ((fr : Int) + (k : Int))] 105 (0, 0))) := by
        show _ = _
        rw [← hW]
        exact (Below.heap_setCell _ _ _ _ hne).trans (heap_set H7.out 2 _)
      have e70 : W.cell? ⟨b7, 0, none⟩ = some (.bool ad) := cell_row HB7.out 0
      have e71 : W.cell? ⟨b7, 1, none⟩ = some (.int .i64 fr) := cell_row HB7.out 1
      have e72 : W.cell? ⟨b7, 2, none⟩ = some (.int .i64 ((fr : Int) + (k : Int))) := cell_row HB7.out 2
      have e80 : W.cell? ⟨b8, 0, none⟩ = some (.bool ad) := cell_row HB8.out 0
      have e81 : W.cell? ⟨b8, 1, none⟩ = some (.int .i64 ((fr : Int) + (k : Int))) := cell_row HB8.out 1
      have e82 : W.cell? ⟨b8, 2, none⟩ = some (.int .i64 tt) := cell_row HB8.out 2
      have eb2 : W.cell? ⟨bt, 2, none⟩ = some (.slice (some ⟨g, 0, none⟩) L cp) := (HFW.out.cell (p := ⟨bt, 2, none⟩) hbt1).trans t2
      have hTW : TB W bt f a (.slice (some ⟨g, 0, none⟩) ps.length cp) len false s := HT1.out.below HFW.out
      have hOW : W.ownsRow 0 105 3 (.slice (some ⟨g, 0, none⟩) ps.length cp) ps.length (flatP ps) := own_fr HO1.out (Fr.of_below (fun _ => False) HFW.out) (fun _ _ h => h)
      have hgb : g ≠ bt := row_block_apart hOW hTW (by decide) rfl
      have hgW : g < W.heap.size := by have := HFW.out.size; omega
      have hbW : bt < W.heap.size := hTW.lt
      have HREP : Hid (∀ W2, Below W.heap.size W W2 → W2.heap[W.heap.size]? = some (.cells #[.bool ad, .int .i64 fr, .int .i64 ((fr : Int) + (k : Int)), .bool ad, .int .i64 ((fr : Int) + (k : Int)), .int .i64 tt] 105 (0, 0)) →
          Calls Try.prog 79 #[.slice (some ⟨g, 0, none⟩) L cp, .int .i64 i, .int .i64 ((i : Int) + 1), .slice (some ⟨W.heap.size, 0, none⟩) 2 2] W2 fun e w' => ∃ v', e = .returned v' ∧
            w'.ownsRow 0 105 3 v' (ps.length + 1) (flatP (ps.take i ++ ⟨ad, fr, fr + k⟩ :: ⟨ad, fr + k, tt⟩ :: ps.drop (i + 1))) ∧ Fr (own1 (.slice (some ⟨g, 0, none⟩) ps.length cp)) W w' ∧ Near W (.slice (some ⟨g, 0, none⟩) ps.length cp) v' ∧
            TB w' bt f a (.slice (some ⟨g, 0, none⟩) ps.length cp) len false s) := by
        intro W2 hW2 hh
        have hO2 : W2.ownsRow 0 105 3 (.slice (some ⟨g, 0, none⟩) ps.length cp) ps.length (flatP ps) := own_fr hOW (Fr.of_below (fun _ => False) hW2) (fun _ _ h => h)
        have hc := replace_any (some ⟨g, 0, none⟩) ps.length cp i W.heap.size ⟨ad, fr, fr + k⟩ ⟨ad, fr + k, tt⟩ ps W2 hO2 (by rw [hh]; simp [flatP, Pc.cells]) (fun k' e => by simp only [Value.ownBlock, Option.some.injEq] at e; omega) (by have := HL.out; omega) hpl
        rw [HL.out] at hc ⊢
        refine hc.mono ?_
        rintro e w' ⟨v', rfl, h1, h2, h3⟩
        refine ⟨v', rfl, h1, (Fr.of_below (own1 (.slice (some ⟨g, 0, none⟩) L cp)) hW2).trans h2 (fun _ _ h => h), ?_, ?_⟩
        · rcases h3 with h3 | h3
          · exact .inl h3
          · exact .inr (fun k hk => Nat.le_trans hW2.size (h3 k hk))
        · have hT2 : TB W2 bt f a (.slice (some ⟨g, 0, none⟩) L cp) len false s := by rw [HL.out] at hTW; exact hTW.below hW2
          exact hT2.keep (h2.block bt hT2.lt (fun e => hgb (by unfold own1 at e; simp [Value.ownBlock] at e; exact e.symm)))
      have HTW := Lib.hid hTW
      have hw1 : IntKind.i64.wrap ((i : Int) + 1) = (i : Int) + 1 := by rw [IntKind.wrap_i64]; omega
      clear hW d70 d71 d72 d80 d81 d82 f72 f81 tx2 k7 k8 hTW hOW
      go_region_with (go_at_call 79; go_must (refine (HREP.out _ (((Below.refl _ W).alloc (Nat.le_refl _) _).drew) (heap_alloc_new W _)).mono ?_); rintro e w3 ⟨v', rfl, hown, hfr, hnear, hTB⟩; obtain ⟨a', c', rfl⟩ := own_slice hown; have t3 := hTB.c2; have f3 := hTB.fz 2; have l3 := hTB.lt)
      all_goals
        go_wp2_with fail
        go_ret
        refine ⟨ret_int (by omega), _, cut_end hown hTB HL.out (by have := HL.out; omega), cut_fr HB.out HFW.out hfr hbt1, ?_⟩
        rcases hnear with h3 | h3
        · exact .inl h3
        · exact .inr (fun k hk => Nat.le_trans HB.out.size (Nat.le_trans HFW.out.size (h3 k hk)))
end Go.Proofs.Ytndlebopfojjeaa.U
