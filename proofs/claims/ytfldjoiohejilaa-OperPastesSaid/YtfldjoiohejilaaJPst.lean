/-
  The document's Paste.
-/
import Derived.Test.YtfldjoiohejilaaJBlkW
import Derived.Test.YtfldjoiohejilaaJWholeB
namespace Go.Proofs.Ytfldjoiohejilaa.U
open Go.RowKit
set_option linter.unusedVariables false
set_option linter.unusedSimpArgs false
set_option maxRecDepth 100000

/-- Paste's boxes: the place, the register, the place that is told -/
structure PbS (w : World) (b : Nat) (u : Po) (k : Int) (ga : Option Addr) (gn gc : Nat) (W : World) : Prop where
  p : W.heap[b]? = some (.cells #[.int .i64 u.l, .int .i64 u.c] 24 (0, 0))
  g : W.heap[b + 1]? = some (.cells #[.int .i64 k, .slice ga gn gc] 30 (0, 0))
  z : W.heap[b + 2]? = some (.cells #[.int .i64 0, .int .i64 0] 24 (0, 0))
  hb : Below b w W
theorem PbS.below {w W W' : World} {b : Nat} {u : Po} {k : Int} {ga : Option Addr} {gn gc : Nat} (h : PbS w b u k ga gn gc W) (hb : Below W.heap.size W W') : PbS w b u k ga gn gc W' :=
  ⟨hbox h.p hb, hbox h.g hb, hbox h.z hb, h.hb.trans (hb.mono (by have := heap_lt h.p; omega))⟩
theorem PbS.set {w W : World} {b : Nat} {u : Po} {k : Int} {ga : Option Addr} {gn gc : Nat} (h : PbS w b u k ga gn gc W) (v : Po) : PbS w b v k ga gn gc ((W.setCell ⟨b, 0, none⟩ (.int .i64 v.l)).setCell ⟨b, 1, none⟩ (.int .i64 v.c)) := by
  have hf : Fr (fun z => z = b) W ((W.setCell ⟨b, 0, none⟩ (.int .i64 v.l)).setCell ⟨b, 1, none⟩ (.int .i64 v.c)) := ((Fr.refl (fun z => z = b) W).setCell ⟨b, 0, none⟩ _ (fun _ => rfl)).setCell ⟨b, 1, none⟩ _ (fun _ => rfl)
  exact ⟨heap_set (heap_set h.p 0 _) 1 _, (hf.block _ (heap_lt h.g) (by omega)).trans h.g, (hf.block _ (heap_lt h.z) (by omega)).trans h.z, setCell_below (setCell_below h.hb _ _ _ (by omega)) _ _ _ (by omega)⟩
def PbC (b : Nat) (u : Po) (k : Int) (ga : Option Addr) (gn gc : Nat) (W : World) : Prop := W.cell? ⟨b, 0, none⟩ = some (.int .i64 u.l) ∧ W.cell? ⟨b, 1, none⟩ = some (.int .i64 u.c) ∧ W.frozen? ⟨b, 0, none⟩ = false ∧ W.frozen? ⟨b, 1, none⟩ = false ∧ b < W.heap.size ∧ W.cell? ⟨b + 1, 0, none⟩ = some (.int .i64 k) ∧ W.cell? ⟨b + 1, 1, none⟩ = some (.slice ga gn gc) ∧ b + 1 < W.heap.size ∧ ArP (b + 2) W
theorem PbS.cells {w W : World} {b : Nat} {u : Po} {k : Int} {ga : Option Addr} {gn gc : Nat} (h : PbS w b u k ga gn gc W) : PbC b u k ga gn gc W :=
  ⟨cell_row h.p 0, cell_row h.p 1, frozen_row h.p 0, frozen_row h.p 1, heap_lt h.p, cell_row h.g 0, cell_row h.g 1, heap_lt h.g, ArP.of h.z⟩
/-- and the lines that are told, and the place that goes with them -/
structure PoS (w : World) (b qb : Nat) (u : Po) (k : Int) (ga : Option Addr) (gn gc : Nat) (M : List (List Int)) (Q : Pl) (ra : Option Addr) (rn rc : Nat) (W : World) : Prop where
  s : PbS w b u k ga gn gc W
  q : W.heap[qb]? = some (.cells #[.int .i64 (Q.1 : Nat), .int .i64 (Q.2 : Nat)] 24 (0, 0))
  lt : b + 2 < qb
  o : RdL (fun x => b + 3 ≤ x) W ra rn rc M
def QbC (qb : Nat) (Q : Pl) (W : World) : Prop := W.cell? ⟨qb, 0, none⟩ = some (.int .i64 (Q.1 : Nat)) ∧ W.cell? ⟨qb, 1, none⟩ = some (.int .i64 (Q.2 : Nat)) ∧ W.frozen? ⟨qb, 0, none⟩ = false ∧ W.frozen? ⟨qb, 1, none⟩ = false ∧ qb < W.heap.size
theorem PoS.qcells {w W : World} {b qb : Nat} {u : Po} {k : Int} {ga : Option Addr} {gn gc : Nat} {M : List (List Int)} {Q : Pl} {ra : Option Addr} {rn rc : Nat} (h : PoS w b qb u k ga gn gc M Q ra rn rc W) : QbC qb Q W :=
  ⟨cell_row h.q 0, cell_row h.q 1, frozen_row h.q 0, frozen_row h.q 1, heap_lt h.q⟩
theorem pos_new {w W : World} {b : Nat} {u : Po} {k : Int} {ga : Option Addr} {gn gc : Nat} {M : List (List Int)} {ra : Option Addr} {rn rc : Nat} (s : PbS w b u k ga gn gc W) (o : RdL (fun x => b + 3 ≤ x) W ra rn rc M) (Q : Pl) : PoS w b W.heap.size u k ga gn gc M Q ra rn rc (W.alloc (.cells #[.int .i64 (Q.1 : Nat), .int .i64 (Q.2 : Nat)] 24)) :=
  ⟨s.below (bal _ _), heap_alloc_new _ _, heap_lt s.z, o.below (bal _ _)⟩
theorem pos_put {w W : World} {b qb : Nat} {u : Po} {k : Int} {ga : Option Addr} {gn gc : Nat} {M : List (List Int)} {ra : Option Addr} {rn rc : Nat} {v0 v1 : Value} (s : PbS w b u k ga gn gc W) (q : W.heap[qb]? = some (.cells #[v0, v1] 24 (0, 0))) (lt : b + 2 < qb) (o : RdL (fun x => qb < x) W ra rn rc M) (Q : Pl) : PoS w b qb u k ga gn gc M Q ra rn rc ((W.setCell ⟨qb, 0, none⟩ (.int .i64 (Q.1 : Nat))).setCell ⟨qb, 1, none⟩ (.int .i64 (Q.2 : Nat))) := by
  have hf : Fr (fun z => z = qb) W ((W.setCell ⟨qb, 0, none⟩ (.int .i64 (Q.1 : Nat))).setCell ⟨qb, 1, none⟩ (.int .i64 (Q.2 : Nat))) := ((Fr.refl (fun z => z = qb) W).setCell ⟨qb, 0, none⟩ _ (fun _ => rfl)).setCell ⟨qb, 1, none⟩ _ (fun _ => rfl)
  exact ⟨⟨(hf.block _ (heap_lt s.p) (by omega)).trans s.p, (hf.block _ (heap_lt s.g) (by omega)).trans s.g, (hf.block _ (heap_lt s.z) (by omega)).trans s.z, setCell_below (setCell_below s.hb _ _ _ (by omega)) _ _ _ (by omega)⟩, heap_set (heap_set q 0 _) 1 _, lt, (o.frF hf (fun k h1 h2 => by omega)).mono (fun k hk => by omega)⟩
theorem PoS.fin {w W : World} {b qb : Nat} {u : Po} {k : Int} {ga : Option Addr} {gn gc : Nat} {M : List (List Int)} {Q : Pl} {ra : Option Addr} {rn rc : Nat} (h : PoS w b qb u k ga gn gc M Q ra rn rc W) (v0 v1 : Value) (W' : World) (hW : W' = (W.setCell ⟨b + 2, 0, none⟩ v0).setCell ⟨b + 2, 1, none⟩ v1 ∨ W' = ((W.setCell ⟨b + 2, 0, none⟩ v0).setCell ⟨b + 2, 1, none⟩ v1).drew) : RdL (fun x => b ≤ x) W' ra rn rc M ∧ Below b w W' := by
  have hf : Fr (fun z => z = b + 2) W ((W.setCell ⟨b + 2, 0, none⟩ v0).setCell ⟨b + 2, 1, none⟩ v1) := ((Fr.refl (fun z => z = b + 2) W).setCell ⟨b + 2, 0, none⟩ _ (fun _ => rfl)).setCell ⟨b + 2, 1, none⟩ _ (fun _ => rfl)
  have h1 := (h.o.frF hf (fun k h1 h2 => by omega)).mono (G := fun x => b ≤ x) (fun k hk => by omega)
  have h2 : Below b w ((W.setCell ⟨b + 2, 0, none⟩ v0).setCell ⟨b + 2, 1, none⟩ v1) := setCell_below (setCell_below h.s.hb _ _ _ (by omega)) _ _ _ (by omega)
  rcases hW with rfl | rfl
  · exact ⟨h1, h2⟩
  · exact ⟨h1.below (Below.refl _ _).drew, h2.drew⟩
theorem lackR_leP (L : List (List Int)) (q1 col : Nat) : ∀ i, lackR L q1 col i ≤ i * (col + 1)
  | 0 => by simp [lackR]
  | i + 1 => by
    have := lackR_leP L q1 col i
    unfold lackR
    rw [Nat.add_mul, Nat.one_mul]
    split <;> omega
theorem size_widest : ∀ (L : List (List Int)) (m : Nat), (∀ x ∈ L, x.length ≤ m) → sizeN (lens L) ≤ L.length * (m + 1)
  | [], m, _ => by simp [lens, sizeN]
  | x :: L, m, h => by
    have ih := size_widest L m (fun y hy => h y (by simp [hy]))
    have hx := h x (by simp)
    simp only [lens, List.map_cons, sizeN_cons, List.length_cons] at ih ⊢
    rw [Nat.add_mul, Nat.one_mul]
    omega

set_option maxHeartbeats 4000000 in
/-- Paste of what isn't a register -/
theorem rpaste_arg (G : Nat → Prop) (a : Option Addr) (n c : Nat) (ga : Option Addr) (gn gc : Nat) (GL : List (List Int)) (p : Po) (k : Int) (bh : Bool) (m : Int) (w : World) (hg : RdL G w ga gn gc GL) (hk : i64b k) (hbad : ¬ (0 ≤ k ∧ k ≤ 2) ∨ GL = [] ∨ ¬ plainL GL) :
    Calls Try.prog 23 #[.slice a n c, p.v, rgV k ga gn gc, .bool bh, .int .i64 m] w fun e w' => e = .returned (.tuple #[.slice none 0 0, plV (0, 0), .int .i64 1]) ∧ Below w.heap.size w w' := by
  unfold rgV
  obtain ⟨p1, p2⟩ := p
  show Calls Try.prog 23 #[.slice a n c, .agg #[.int .i64 p1, .int .i64 p2], .agg #[.int .i64 k, .slice ga gn gc], .bool bh, .int .i64 m] w _
  have hgl := hg.len
  have hsm := hg.small
  obtain ⟨wb, hwb⟩ : ∃ wb, ((w.alloc (.cells #[.int .i64 p1, .int .i64 p2] 24)).alloc (.cells #[.int .i64 k, .slice ga gn gc] 30)).alloc (.cells #[.int .i64 0, .int .i64 0] 24) = wb := ⟨_, rfl⟩
  have hB : Below w.heap.size w wb := by rw [← hwb]; exact (((Below.refl _ _).alloc (Nat.le_refl _) _).alloc (by simp) _).alloc (by simp; omega) _
  obtain ⟨g1, g2, g3⟩ := three_new w _ _ _ _ _ _ wb (by rw [← hwb]; exact Below.refl _ _)
  obtain ⟨b, hbe⟩ : ∃ b, w.heap.size = b := ⟨_, rfl⟩
  rw [hbe] at g1 g2 g3
  obtain ⟨PT, hPT⟩ : ∃ PT, (!(GL.any has10)) = PT := ⟨_, rfl⟩
  have HPL : Hid (∀ W, W = wb → Calls Try.prog 37 #[.slice ga gn gc] W fun e w' => e = .returned (.bool PT) ∧ W = w') := by
    rintro W rfl
    rw [← hPT]
    exact rplain13_any G ga gn gc GL W (hg.below hB)
  have x0 := cell_row g2 0
  have x1 := cell_row g2 1
  have x2 := heap_lt g2
  obtain ⟨y0, y1, y2, y3⟩ := row2 g3
  have y4 := heap_lt g3
  have hcase : k < 0 ∨ (¬ k < 0 ∧ 2 < k) ∨ (¬ k < 0 ∧ ¬ 2 < k ∧ gn = 0) ∨ (¬ k < 0 ∧ ¬ 2 < k ∧ gn ≠ 0 ∧ PT = false) := by
    by_cases h1 : k < 0
    · exact Or.inl h1
    · by_cases h2 : 2 < k
      · exact Or.inr (Or.inl ⟨h1, h2⟩)
      · by_cases h3 : gn = 0
        · exact Or.inr (Or.inr (Or.inl ⟨h1, h2, h3⟩))
        · refine Or.inr (Or.inr (Or.inr ⟨h1, h2, h3, ?_⟩))
          rcases hbad with h | h | h
          · omega
          · rw [h] at hgl; simp at hgl; omega
          · rw [← plain_iff] at h
            rw [← hPT]
            simpa using h
  have HBE := Lib.hid hbe
  have HW := Lib.hid hwb
  have HB := Lib.hid hB
  rw [hbe] at HB
  rw [hbe]
  clear hg hgl hbad hwb hB g1 g2 g3 hbe hPT
  rcases hcase with h1 | ⟨h1, h2⟩ | ⟨h1, h2, h3⟩ | ⟨h1, h2, h3, h4⟩
  · have d1 : decide (k < 0) = true := decide_eq_true h1
    go_enter Try.func23, Try.ntmps23
    go_upto_region 1 with fail
    rw [HBE.out, HW.out]
    go_wp2_with (go_at_call 37; (refine (HPL.out _ rfl).mono ?_); rintro e wq ⟨rfl, hwq⟩; subst hwq)
    refine bodyPost_ret (v := .tuple #[.slice none 0 0, plV (0, 0), .int .i64 1]) ?_ rfl ⟨rfl, ?_⟩
    · rw [results_tct rfl]
      go_simp
      first | rfl | done
    · (repeat' (first | exact HB.out | omega | refine setCell_below ?_ _ _ _ ?_))
  · have d1 : decide (k < 0) = false := decide_eq_false h1
    have d2 : decide (2 < k) = true := decide_eq_true h2
    go_enter Try.func23, Try.ntmps23
    go_upto_region 1 with fail
    rw [HBE.out, HW.out]
    go_wp2_with (go_at_call 37; (refine (HPL.out _ rfl).mono ?_); rintro e wq ⟨rfl, hwq⟩; subst hwq)
    refine bodyPost_ret (v := .tuple #[.slice none 0 0, plV (0, 0), .int .i64 1]) ?_ rfl ⟨rfl, ?_⟩
    · rw [results_tct rfl]
      go_simp
      first | rfl | done
    · (repeat' (first | exact HB.out | omega | refine setCell_below ?_ _ _ _ ?_))
  · have d1 : decide (k < 0) = false := decide_eq_false h1
    have d2 : decide (2 < k) = false := decide_eq_false h2
    subst h3
    go_enter Try.func23, Try.ntmps23
    go_upto_region 1 with fail
    rw [HBE.out, HW.out]
    go_wp2_with (go_at_call 37; (refine (HPL.out _ rfl).mono ?_); rintro e wq ⟨rfl, hwq⟩; subst hwq)
    refine bodyPost_ret (v := .tuple #[.slice none 0 0, plV (0, 0), .int .i64 1]) ?_ rfl ⟨rfl, ?_⟩
    · rw [results_tct rfl]
      go_simp
      first | rfl | done
    · (repeat' (first | exact HB.out | omega | refine setCell_below ?_ _ _ _ ?_))
  · have d1 : decide (k < 0) = false := decide_eq_false h1
    have d2 : decide (2 < k) = false := decide_eq_false h2
    have d3 : ((gn : Int) == 0) = false := by rw [beq_eq_false_iff_ne]; omega
    subst h4
    go_enter Try.func23, Try.ntmps23
    go_upto_region 1 with fail
    rw [HBE.out, HW.out]
    go_wp2_with (go_at_call 37; (refine (HPL.out _ rfl).mono ?_); rintro e wq ⟨rfl, hwq⟩; subst hwq)
    refine bodyPost_ret (v := .tuple #[.slice none 0 0, plV (0, 0), .int .i64 1]) ?_ rfl ⟨rfl, ?_⟩
    · rw [results_tct rfl]
      go_simp
      first | rfl | done
    · (repeat' (first | exact HB.out | omega | refine setCell_below ?_ _ _ _ ?_))

set_option maxHeartbeats 4000000 in
/-- Paste into no lines -/
theorem rpaste_none (G : Nat → Prop) (a : Option Addr) (c : Nat) (ga : Option Addr) (gn gc : Nat) (GL : List (List Int)) (p : Po) (k : Int) (bh : Bool) (m : Int) (w : World) (hg : RdL G w ga gn gc GL) (h0 : 0 ≤ k) (h2 : k ≤ 2) (hG : GL ≠ []) (hpl : plainL GL) :
    Calls Try.prog 23 #[.slice a 0 c, p.v, rgV k ga gn gc, .bool bh, .int .i64 m] w fun e w' => e = .returned (.tuple #[.slice none 0 0, plV (0, 0), .int .i64 2]) ∧ Below w.heap.size w w' := by
  unfold rgV
  obtain ⟨p1, p2⟩ := p
  show Calls Try.prog 23 #[.slice a 0 c, .agg #[.int .i64 p1, .int .i64 p2], .agg #[.int .i64 k, .slice ga gn gc], .bool bh, .int .i64 m] w _
  have hgl := hg.len
  have hsm := hg.small
  have hgn : 0 < gn := by have := List.length_pos_iff.2 hG; omega
  obtain ⟨wb, hwb⟩ : ∃ wb, ((w.alloc (.cells #[.int .i64 p1, .int .i64 p2] 24)).alloc (.cells #[.int .i64 k, .slice ga gn gc] 30)).alloc (.cells #[.int .i64 0, .int .i64 0] 24) = wb := ⟨_, rfl⟩
  have hB : Below w.heap.size w wb := by rw [← hwb]; exact (((Below.refl _ _).alloc (Nat.le_refl _) _).alloc (by simp) _).alloc (by simp; omega) _
  obtain ⟨g1, g2, g3⟩ := three_new w _ _ _ _ _ _ wb (by rw [← hwb]; exact Below.refl _ _)
  obtain ⟨b, hbe⟩ : ∃ b, w.heap.size = b := ⟨_, rfl⟩
  rw [hbe] at g1 g2 g3
  have HPL : Hid (∀ W, W = wb → Calls Try.prog 37 #[.slice ga gn gc] W fun e w' => e = .returned (.bool true) ∧ W = w') := by
    rintro W rfl
    have h5 := rplain13_any G ga gn gc GL W (hg.below hB)
    rw [plain_iff.2 hpl] at h5
    exact h5
  have x0 := cell_row g2 0
  have x1 := cell_row g2 1
  have x2 := heap_lt g2
  obtain ⟨y0, y1, y2, y3⟩ := row2 g3
  have y4 := heap_lt g3
  have HBE := Lib.hid hbe
  have HW := Lib.hid hwb
  have HB := Lib.hid hB
  rw [hbe] at HB
  rw [hbe]
  have d1 : decide (k < 0) = false := decide_eq_false (by omega)
  have d2 : decide (2 < k) = false := decide_eq_false (by omega)
  have d3 : ((gn : Int) == 0) = false := by rw [beq_eq_false_iff_ne]; omega
  clear hg hgl hwb hB g1 g2 g3 hbe hG hpl
  go_enter Try.func23, Try.ntmps23
  go_upto_region 1 with fail
  rw [HBE.out, HW.out]
  go_wp2_with (go_at_call 37; (refine (HPL.out _ rfl).mono ?_); rintro e wq ⟨rfl, hwq⟩; subst hwq)
  refine bodyPost_ret (v := .tuple #[.slice none 0 0, plV (0, 0), .int .i64 2]) ?_ rfl ⟨rfl, ?_⟩
  · rw [results_tct rfl]
    go_simp
    first | rfl | done
  · (repeat' (first | exact HB.out | omega | refine setCell_below ?_ _ _ _ ?_))
set_option maxHeartbeats 16000000 in
/-- Paste where there are lines and there is a register -/
theorem rpaste_main (F G : Nat → Prop) (a : Option Addr) (n c : Nat) (L : List (List Int)) (ga : Option Addr) (gn gc : Nat) (GL : List (List Int)) (p : Po) (k : Int) (bh : Bool) (m : Int) (w : World) (h : RdL F w a n c L) (hs : sizeN (lens L) ≤ 65536) (hplL : plainL L) (hg : RdL G w ga gn gc GL) (hgs : sizeN (lens GL) ≤ 65536) (hp : i64p p) (hm : i64b m) (hL0 : L ≠ []) (h0 : 0 ≤ k) (h2 : k ≤ 2) (hG : GL ≠ []) (hpl : plainL GL) :
    Calls Try.prog 23 #[.slice a n c, p.v, rgV k ga gn gc, .bool bh, .int .i64 m] w (PasA w (pasteR L p k GL bh m)) := by
  unfold rgV
  have hl := h.len
  have hgl := hg.len
  have hsm := hg.small
  have hcnt := size_count L
  have hgcnt := size_count GL
  have hgn : 0 < gn := by have := List.length_pos_iff.2 hG; omega
  have hn : 0 < n := by have := List.length_pos_iff.2 hL0; omega
  have hcl := fun W (hW : Below w.heap.size w W) => rclip_any F a n c L p W (h.below hW) hp
  have hok := clipP_ok hL0 p.l p.c
  -- the answer
  obtain ⟨M, hM⟩ : ∃ M, max 1 m = M := ⟨_, rfl⟩
  obtain ⟨E, hE⟩ : ∃ E, eachR k GL = E := ⟨_, rfl⟩
  obtain ⟨T, hT⟩ : ∃ T, timesN k GL m = T := ⟨_, rfl⟩
  obtain ⟨R, hR⟩ : ∃ R, pasteR L p k GL bh m = R := ⟨_, rfl⟩
  have hRe : 0 < E ∧ ((65536 / E : Nat) : Int) < M → R = ([], (0, 0), 3) := by
    intro hf
    rw [← hR]
    unfold pasteR
    rw [hE, hM]
    rw [if_neg (by rw [plain_iff.2 hpl]; simp [hG]; omega), if_neg hL0, if_pos hf]
  have hRf : ¬ (0 < E ∧ ((65536 / E : Nat) : Int) < M) → 65536 < runesR (pasteM L (clipZ L p) k GL bh T) → R = ([], (0, 0), 3) := by
    intro hf hf2
    rw [← hR]
    unfold pasteR
    rw [hE, hM, hT]
    rw [if_neg (by rw [plain_iff.2 hpl]; simp [hG]; omega), if_neg hL0, if_neg hf, if_pos hf2]
  have hRo : ¬ (0 < E ∧ ((65536 / E : Nat) : Int) < M) → ¬ 65536 < runesR (pasteM L (clipZ L p) k GL bh T) → R = (pasteM L (clipZ L p) k GL bh T, pasteQ L (clipZ L p) k GL bh T, 0) := by
    intro hf hf2
    rw [← hR]
    unfold pasteR
    rw [hE, hM, hT]
    rw [if_neg (by rw [plain_iff.2 hpl]; simp [hG]; omega), if_neg hL0, if_neg hf, if_neg hf2]
  rw [hR]
  -- how many times
  have hTE : T = if E = 0 then 1 else M.toNat := by rw [← hT, ← hE, ← hM]; rfl
  have hMb : 1 ≤ M ∧ M ≤ 9223372036854775807 := by obtain ⟨hm1, hm2⟩ := hm; omega
  obtain ⟨hM1, hM2⟩ := hMb
  have hT1 : 1 ≤ T := by rw [hTE]; split <;> omega
  have hTb : ¬ (0 < E ∧ ((65536 / E : Nat) : Int) < M) → T * E ≤ 65536 ∧ T ≤ 65536 := by
    intro hf
    rw [hTE]
    by_cases e : E = 0
    · rw [if_pos e, e]; omega
    · rw [if_neg e]
      have h5 : M.toNat ≤ 65536 / E := by omega
      have h6 := (Nat.le_div_iff_mul_le (show 0 < E by omega)).1 h5
      have h7 := Nat.div_le_self 65536 E
      exact ⟨h6, by omega⟩
  have hszw : sizeN (lens GL) ≤ gn * (widestR GL + 1) := by
    rw [← hgl]
    exact size_widest GL _ (fun x hx => widest_ge hx)
  have hwle : widestR GL ≤ sizeN (lens GL) := widest_le GL _ (fun x hx => sizeN_mem (List.mem_map.2 ⟨x, hx, rfl⟩ : List.length x ∈ List.map List.length GL))
  have hrs := runesR_size hG
  have hEc : (k = 0 ∧ E + 1 = sizeN (lens GL)) ∨ (k = 1 ∧ E = sizeN (lens GL)) ∨ (k = 2 ∧ E = widestR GL * gn) := by
    have hkk : k = 0 ∨ k = 1 ∨ k = 2 := by omega
    rcases hkk with e | e | e
    · refine Or.inl ⟨e, ?_⟩
      rw [← hE, e, ← hrs]
      rfl
    · refine Or.inr (Or.inl ⟨e, ?_⟩)
      rw [← hE, e, ← hrs]
      rfl
    · refine Or.inr (Or.inr ⟨e, ?_⟩)
      rw [← hE, e, ← hgl]
      rfl
  have hEb : E ≤ 4294967296 := by
    rcases hEc with ⟨-, e⟩ | ⟨-, e⟩ | ⟨-, e⟩
    · omega
    · omega
    · rw [e]
      exact Nat.le_trans (Nat.mul_le_mul (show widestR GL ≤ 65536 by omega) (show gn ≤ 65536 by omega)) (by omega)
  have hbnd : ¬ (0 < E ∧ ((65536 / E : Nat) : Int) < M) → T * sizeN (lens GL) ≤ 262144 ∧ T * gn ≤ 262144 ∧ T * widestR GL ≤ 262144 := by
    intro hf
    obtain ⟨ha, hb⟩ := hTb hf
    have hmain : T * sizeN (lens GL) ≤ 262144 := by
      rcases hEc with ⟨-, e⟩ | ⟨-, e⟩ | ⟨-, e⟩
      · rw [← e, Nat.mul_add, Nat.mul_one]; omega
      · rw [← e]; omega
      · by_cases hE0 : E = 0
        · rw [hTE, if_pos hE0, Nat.one_mul]; omega
        · have hw1 : 1 ≤ widestR GL := by
            rcases Nat.eq_zero_or_pos (widestR GL) with h6 | h6
            · rw [h6, Nat.zero_mul] at e; omega
            · exact h6
          have h7 : gn * (widestR GL + 1) ≤ 2 * E := by
            have h8 : gn * 1 ≤ gn * widestR GL := Nat.mul_le_mul_left gn hw1
            rw [e, Nat.mul_comm (widestR GL) gn, Nat.mul_add]
            omega
          have h9 : T * sizeN (lens GL) ≤ T * (2 * E) := Nat.mul_le_mul_left T (by omega)
          have h10 : T * (2 * E) = 2 * (T * E) := by rw [Nat.mul_left_comm]
          omega
    refine ⟨hmain, ?_, ?_⟩
    · exact Nat.le_trans (Nat.mul_le_mul_left T (by omega)) hmain
    · exact Nat.le_trans (Nat.mul_le_mul_left T hwle) hmain
  obtain ⟨p1, p2⟩ := p
  obtain ⟨⟨q1, q2⟩, hq⟩ : ∃ q, clipP L p1 p2 = q := ⟨_, rfl⟩
  have hqz : clipZ L ⟨p1, p2⟩ = (q1, q2) := hq
  rw [hqz] at hRf hRo
  simp only at hcl hok
  rw [hq] at hcl hok
  have hqb := i64_okP h (by omega) hok
  simp only at hqb
  obtain ⟨hqb1, hqb2⟩ := hqb
  have hq1n : q1 < n := by have := hok.1; simp only at this; omega
  obtain ⟨x, hx⟩ : ∃ x, L[q1]? = some x := ⟨_, List.getElem?_eq_getElem (by omega)⟩
  have hln : lnL L q1 = x := lnL_of hx
  have hxl : x.length ≤ 65536 := by
    have hm : x.length ∈ lens L := List.mem_map.2 ⟨_, List.mem_of_getElem? hx, rfl⟩
    have := sizeN_mem hm
    omega
  obtain ⟨lb, lo, xa, xc, rfl, hlb, -, hc0, -, -, -⟩ := h.get (Below.refl _ _) hx
  obtain ⟨y, hy⟩ : ∃ y, x.length = y := ⟨_, rfl⟩
  have hq2y : q2 ≤ y - 1 := by have := hok.2; simp only [hln] at this; omega
  obtain ⟨col, hcol⟩ : ∃ col, colR L (q1, q2) bh = col := ⟨_, rfl⟩
  obtain ⟨B, hBB⟩ : ∃ B, (bh && decide (0 < y)) = B := ⟨_, rfl⟩
  have hcB : col = if B = true then q2 + 1 else q2 := by
    rw [← hcol, ← hBB]
    unfold colR
    simp only [hln]
    have : x ≠ [] ↔ 0 < y := by rw [← hy]; exact List.length_pos_iff.symm
    simp only [this, Bool.and_eq_true, decide_eq_true_eq]
  have hcoly : col ≤ y := by
    rw [hcB]
    split
    · rename_i e
      rw [← hBB] at e
      simp at e
      omega
    · omega
  rw [hy] at hc0 hxl
  obtain ⟨A, hA⟩ : ∃ A, (if bh then q1 + 1 else q1) = A := ⟨_, rfl⟩
  obtain ⟨CM, hCM⟩ : ∃ CM, charsL L (q1, q2) GL col T = CM := ⟨_, rfl⟩
  obtain ⟨QC, hQC⟩ : ∃ QC, charsQ L (q1, q2) GL col T = QC := ⟨_, rfl⟩
  obtain ⟨WM, hWM⟩ : ∃ WM, wholeL L A GL T = WM := ⟨_, rfl⟩
  obtain ⟨QW, hQW⟩ : ∃ QW, wholeQ L A GL T = QW := ⟨_, rfl⟩
  obtain ⟨BM, hBM⟩ : ∃ BM, blockL L q1 GL col T gn = BM := ⟨_, rfl⟩
  obtain ⟨QB, hQB⟩ : ∃ QB, clipP BM (q1 : Int) (col : Int) = QB := ⟨_, rfl⟩
  obtain ⟨M1, hM1e⟩ : ∃ M1, (if k = 1 then WM else CM) = M1 := ⟨_, rfl⟩
  obtain ⟨Q1, hQ1e⟩ : ∃ Q1, (if k = 1 then QW else QC) = Q1 := ⟨_, rfl⟩
  obtain ⟨MX, hM2e⟩ : ∃ MX, (if k = 2 then BM else M1) = MX := ⟨_, rfl⟩
  obtain ⟨QX, hQ2e⟩ : ∃ QX, (if k = 2 then QB else Q1) = QX := ⟨_, rfl⟩
  have hpM : pasteM L (q1, q2) k GL bh T = MX := by
    rw [← hM2e, ← hM1e, ← hBM, ← hWM, ← hCM, ← hA, ← hcol, ← hgl]
    rfl
  have hpQ : pasteQ L (q1, q2) k GL bh T = QX := by
    rw [← hQ2e, ← hQ1e, ← hQB, ← hBM, ← hQW, ← hQC, ← hA, ← hcol, ← hgl]
    rfl
  have hcne : CM ≠ [] := by
    have := pasteM_ne (L := L) (q := (q1, q2)) (by rw [hl]; exact hq1n) hG (k := 0) (by omega) (by omega) bh T
    rw [← hCM, ← hcol]
    exact this
  have hsX : T * E ≤ 65536 → sizeN (lens MX) ≤ 4611686018427387904 := by
    intro hTE6
    have h3 := pasteM_size (L := L) (q := (q1, q2)) (by rw [hl]; exact hq1n) hG h0 h2 bh T
    rw [hpM, hE] at h3
    have h4 : lackK L (q1, q2) k GL bh ≤ 65536 * 65538 := by
      unfold lackK
      split
      · refine Nat.le_trans (lackR_leP _ _ _ _) ?_
        rw [hcol]
        exact Nat.mul_le_mul (by omega) (by omega)
      · omega
    omega
  rw [hpM] at hRf hRo
  rw [hpQ] at hRo
  obtain ⟨RN, hRN⟩ : ∃ RN, runesR MX = RN := ⟨_, rfl⟩
  rw [hRN] at hRf hRo
  obtain ⟨D, hD⟩ : ∃ D, decide (0 < E ∧ ((65536 / E : Nat) : Int) < M) = D := ⟨_, rfl⟩
  have hDt : D = true → 0 < E ∧ ((65536 / E : Nat) : Int) < M := by intro e; rw [e] at hD; exact of_decide_eq_true hD
  have hDf : D = false → ¬ (0 < E ∧ ((65536 / E : Nat) : Int) < M) := by intro e; rw [e] at hD; exact of_decide_eq_false hD
  -- the world that is begun with
  obtain ⟨wb, hwb⟩ : ∃ wb, ((w.alloc (.cells #[.int .i64 p1, .int .i64 p2] 24)).alloc (.cells #[.int .i64 k, .slice ga gn gc] 30)).alloc (.cells #[.int .i64 0, .int .i64 0] 24) = wb := ⟨_, rfl⟩
  have hB : Below w.heap.size w wb := by rw [← hwb]; exact (((Below.refl _ _).alloc (Nat.le_refl _) _).alloc (by simp) _).alloc (by simp; omega) _
  obtain ⟨g1, g2, g3⟩ := three_new w _ _ _ _ _ _ wb (by rw [← hwb]; exact Below.refl _ _)
  obtain ⟨b, hbe⟩ : ∃ b, w.heap.size = b := ⟨_, rfl⟩
  rw [hbe] at g1 g2 g3 hB
  have hP0 : PbS w b ⟨p1, p2⟩ k ga gn gc wb := ⟨g1, g2, g3, hB⟩
  have hup : ∀ {u : Po} {W : World}, PbS w b u k ga gn gc W → Below w.heap.size w W := fun hh => by rw [hbe]; exact hh.hb
  have hsz : ∀ {u : Po} {W : World}, PbS w b u k ga gn gc W → b + 3 ≤ W.heap.size := fun hh => by have := heap_lt hh.z; omega
  have HPL : Hid (∀ W, W = wb → Calls Try.prog 37 #[.slice ga gn gc] W fun e w' => e = .returned (.bool true) ∧ W = w') := by
    rintro W rfl
    have h5 := rplain13_any G ga gn gc GL W (hg.below (hup hP0))
    rw [plain_iff.2 hpl] at h5
    exact h5
  have HCL : Hid (∀ W, W = wb → Calls Try.prog 32 #[.slice (some ⟨lb, lo, none⟩) n c, .agg #[.int .i64 p1, .int .i64 p2]] W fun e w' => e = .returned (.agg #[.int .i64 (q1 : Nat), .int .i64 (q2 : Nat)]) ∧ PbC b ⟨p1, p2⟩ k ga gn gc w' ∧ Hid (PbS w b ⟨p1, p2⟩ k ga gn gc w')) := by
    rintro W rfl
    refine (hcl W (hup hP0)).mono ?_
    rintro e w' ⟨rfl, hb⟩
    exact ⟨rfl, (hP0.below hb).cells, hP0.below hb⟩
  have HEA : Hid (∀ W, Hid (PbS w b ⟨(q1 : Nat), (q2 : Nat)⟩ k ga gn gc W) → Calls Try.prog 57 #[.agg #[.int .i64 k, .slice ga gn gc]] W fun e w' => e = .returned (.int .i64 (E : Nat)) ∧ PbC b ⟨(q1 : Nat), (q2 : Nat)⟩ k ga gn gc w' ∧ Hid (PbS w b ⟨(q1 : Nat), (q2 : Nat)⟩ k ga gn gc w')) := by
    intro W hW
    have h5 := reach_any G ga gn gc GL k W (hg.below (hup hW.out)) (by omega) h0 h2
    rw [hE] at h5
    refine h5.mono ?_
    rintro e w' ⟨rfl, hb⟩
    exact ⟨rfl, (hW.out.below hb).cells, hW.out.below hb⟩
  have HLN : Hid (∀ W, Hid (PbS w b ⟨(q1 : Nat), (q2 : Nat)⟩ k ga gn gc W) → W.cell? ⟨lb, lo + q1, none⟩ = some (.slice xa y xc)) := fun W hW => ((hup hW.out).cell (p := ⟨lb, lo + q1, none⟩) hlb).trans hc0
  have HCH : Hid (D = false → ∀ W, Hid (PbS w b ⟨(q1 : Nat), (q2 : Nat)⟩ k ga gn gc W) → Calls Try.prog 58 #[.slice (some ⟨lb, lo, none⟩) n c, .agg #[.int .i64 (q1 : Nat), .int .i64 (q2 : Nat)], .agg #[.int .i64 k, .slice ga gn gc], .int .i64 (col : Nat), .int .i64 (T : Nat)] W fun e w' => ∃ ra rn rc, e = .returned (.tuple #[.slice ra rn rc, .agg #[.int .i64 (QC.1 : Nat), .int .i64 (QC.2 : Nat)]]) ∧ PbC b ⟨(q1 : Nat), (q2 : Nat)⟩ k ga gn gc w' ∧ Hid (PbS w b ⟨(q1 : Nat), (q2 : Nat)⟩ k ga gn gc w' ∧ RdL (fun x => b + 3 ≤ x) w' ra rn rc CM)) := by
    intro hDF W hW
    have h5 := rchars_any F G _ n c L ga gn gc GL q1 q2 col k T W (h.below (hup hW.out)) hs (hg.below (hup hW.out)) hgs hok (by rw [hln, hy]; exact hcoly) (hbnd (hDf hDF)).1 hgn (hTb (hDf hDF)).2 (by rw [hCM]; exact hcne) hplL
    rw [hCM, hQC] at h5
    refine h5.mono ?_
    rintro e w' ⟨ra, rn, rc, rfl, ho, hb⟩
    exact ⟨ra, rn, rc, rfl, (hW.out.below hb).cells, hW.out.below hb, ho.mono (fun x hx => by have := hsz hW.out; omega)⟩
  have HWH : Hid (D = false → ∀ W qb ra rn rc, Hid (PoS w b qb ⟨(q1 : Nat), (q2 : Nat)⟩ k ga gn gc CM QC ra rn rc W) → k = 1 → Calls Try.prog 59 #[.slice (some ⟨lb, lo, none⟩) n c, .agg #[.int .i64 (q1 : Nat), .int .i64 (q2 : Nat)], .agg #[.int .i64 k, .slice ga gn gc], .bool bh, .int .i64 (T : Nat)] W fun e w' => ∃ ra rn rc, e = .returned (.tuple #[.slice ra rn rc, .agg #[.int .i64 (QW.1 : Nat), .int .i64 (QW.2 : Nat)]]) ∧ PbC b ⟨(q1 : Nat), (q2 : Nat)⟩ k ga gn gc w' ∧ QbC qb QC w' ∧ Hid (PoS w b qb ⟨(q1 : Nat), (q2 : Nat)⟩ k ga gn gc WM QW ra rn rc ((w'.setCell ⟨qb, 0, none⟩ (.int .i64 (QW.1 : Nat))).setCell ⟨qb, 1, none⟩ (.int .i64 (QW.2 : Nat))))) := by
    intro hDF W qb ra rn rc hW hk1
    have h5 := rwhole_any F G _ n c L ga gn gc GL q1 q2 k bh T A W (h.below (hup hW.out.s)) (by omega) (hg.below (hup hW.out.s)) (by omega) hq1n hA.symm hT1 hgn (by have := (hbnd (hDf hDF)).2.1; omega)
    rw [hWM, hQW] at h5
    refine h5.mono ?_
    rintro e w' ⟨ra', rc', rfl, ho, hb⟩
    have hq5 := hbox hW.out.q hb
    exact ⟨ra', _, rc', rfl, (hW.out.s.below hb).cells, ⟨cell_row hq5 0, cell_row hq5 1, frozen_row hq5 0, frozen_row hq5 1, heap_lt hq5⟩, pos_put (hW.out.s.below hb) hq5 hW.out.lt (ho.mono (fun x hx => by have := heap_lt hW.out.q; omega)) QW⟩
  have HBK : Hid (D = false → ∀ W qb ra rn rc, Hid (PoS w b qb ⟨(q1 : Nat), (q2 : Nat)⟩ k ga gn gc M1 Q1 ra rn rc W) → k = 2 → Calls Try.prog 60 #[.slice (some ⟨lb, lo, none⟩) n c, .agg #[.int .i64 (q1 : Nat), .int .i64 (q2 : Nat)], .agg #[.int .i64 k, .slice ga gn gc], .int .i64 (col : Nat), .int .i64 (T : Nat)] W fun e w' => ∃ ra rn rc, e = .returned (.tuple #[.slice ra rn rc, .agg #[.int .i64 (QB.1 : Nat), .int .i64 (QB.2 : Nat)]]) ∧ PbC b ⟨(q1 : Nat), (q2 : Nat)⟩ k ga gn gc w' ∧ QbC qb Q1 w' ∧ Hid (PoS w b qb ⟨(q1 : Nat), (q2 : Nat)⟩ k ga gn gc BM QB ra rn rc ((w'.setCell ⟨qb, 0, none⟩ (.int .i64 (QB.1 : Nat))).setCell ⟨qb, 1, none⟩ (.int .i64 (QB.2 : Nat))))) := by
    intro hDF W qb ra rn rc hW hk1
    have h5 := rblock_any F G _ n c L ga gn gc GL q1 q2 col k T W (h.below (hup hW.out.s)) hs (hg.below (hup hW.out.s)) hgs hok (by omega) (hbnd (hDf hDF)).2.2 (hTb (hDf hDF)).2
    rw [hBM, hQB] at h5
    refine h5.mono ?_
    rintro e w' ⟨ra', rn', rc', rfl, ho, hb⟩
    have hq5 := hbox hW.out.q hb
    exact ⟨ra', rn', rc', rfl, (hW.out.s.below hb).cells, ⟨cell_row hq5 0, cell_row hq5 1, frozen_row hq5 0, frozen_row hq5 1, heap_lt hq5⟩, pos_put (hW.out.s.below hb) hq5 hW.out.lt (ho.mono (fun x hx => by have := heap_lt hW.out.q; omega)) QB⟩
  have HRU : Hid (D = false → ∀ W qb ra rn rc, Hid (PoS w b qb ⟨(q1 : Nat), (q2 : Nat)⟩ k ga gn gc MX QX ra rn rc W) → Calls Try.prog 51 #[.slice ra rn rc] W fun e w' => e = .returned (.int .i64 (RN : Nat)) ∧ W = w') := by
    intro hDF W qb ra rn rc hW
    have h5 := rrunes_any _ ra rn rc MX W hW.out.o (hsX (hTb (hDf hDF)).1)
    rw [← hRN]
    exact h5
  have HE1 : Hid (D = true → R = ([], (0, 0), 3)) := fun e => hRe (hDt e)
  have HE2 : Hid (D = false → 65536 < RN → R = ([], (0, 0), 3)) := fun e => hRf (hDf e)
  have HE3 : Hid (D = false → ¬ 65536 < RN → R = (MX, QX, 0)) := fun e => hRo (hDf e)
  have hRNb : D = false → RN ≤ 4611686018427387904 := fun e => by
    have := joinL_len_le MX
    have := hsX (hTb (hDf e)).1
    unfold runesR at hRN
    omega
  have HRNB := Lib.hid hRNb
  have HDD := Lib.hid hD
  have HTE := Lib.hid hTE
  have HT6 : Hid (D = false → T ≤ 65536) := fun e => (hTb (hDf e)).2
  have HCB := Lib.hid hcB
  have HBBE := Lib.hid hBB
  have HM1 := Lib.hid hM1e
  have HQ1 := Lib.hid hQ1e
  have HM2 := Lib.hid hM2e
  have HQ2 := Lib.hid hQ2e
  have HBE := Lib.hid hbe
  have HW := Lib.hid hwb
  have HEB := Lib.hid hEb
  have HP0 : Hid (PbS w b ⟨p1, p2⟩ k ga gn gc wb) := hP0
  have hsm6 : gn ≤ 65536 := by omega
  have hn6 : n ≤ 65536 := by omega
  have d1 : decide (k < 0) = false := decide_eq_false (by omega)
  have d2 : decide (2 < k) = false := decide_eq_false (by omega)
  have d3 : ((gn : Int) == 0) = false := by rw [beq_eq_false_iff_ne]; omega
  have d4 : ((n : Int) == 0) = false := by rw [beq_eq_false_iff_ne]; omega
  have hnlb : ¬ lb = b := by omega
  have hcol6 : col ≤ 65537 := by omega
  have hq26 : q2 ≤ 65537 := by omega
  obtain ⟨t0, t1, t2, t3, t4, t5, t6, t7, ⟨r0, r1, r2, r3, r4⟩⟩ := hP0.cells
  unfold PasA
  show Calls Try.prog 23 #[.slice (some ⟨lb, lo, none⟩) n c, .agg #[.int .i64 p1, .int .i64 p2], .agg #[.int .i64 k, .slice ga gn gc], .bool bh, .int .i64 m] w _
  rw [hbe]
  clear hszw hwle hrs hEc h hs hplL hg hgs hp hm hL0 hG hpl hl hgl hsm hcnt hgcnt hgn hn hcl hok hE hT hR hRe hRf hRo hTE hT1 hTb hEb hbnd hq hqz hx hln hy hcol hBB hcB hA hCM hQC hWM hQW hBM hQB hM1e hQ1e hM2e hQ2e hpM hpQ hcne hsX hRN hRNb hD hDt hDf hwb hB g1 g2 g3 hbe hP0 hup hsz hc0 hcoly hq2y
  go_enter Try.func23, Try.ntmps23
  go_upto_region 1 with fail
  rw [HBE.out, HW.out]
  go_upto_region 6 with (first
    | (go_at_call 37; (refine (HPL.out _ rfl).mono ?_); rintro e wq ⟨rfl, hwq⟩; subst hwq)
    | (go_at_call 32; (with_reducible refine (HCL.out _ rfl).mono ?_); rintro e w2 ⟨rfl, ⟨s0, s1, s2, s3, s4, s5, s6, s7, ⟨u0, u1, u2, u3, u4⟩⟩, HP2⟩))
  have HP3 := Lib.hid (HP2.out.set ⟨(q1 : Nat), (q2 : Nat)⟩)
  obtain ⟨w3, hw3⟩ : ∃ w3, (w2.setCell ⟨b, 0, none⟩ (.int .i64 (q1 : Nat))).setCell ⟨b, 1, none⟩ (.int .i64 (q2 : Nat)) = w3 := ⟨_, rfl⟩
  simp only at HP3
  rw [hw3] at HP3 ⊢
  clear hw3 t0 t1 t2 t3 t4 t5 t6 t7 r0 r1 r2 r3 r4 s0 s1 s2 s3 s4 s5 s6 s7 u0 u1 u2 u3 u4 HP2 HCL HPL
  obtain ⟨t0, t1, t2, t3, t4, t5, t6, t7, ⟨r0, r1, r2, r3, r4⟩⟩ := HP3.out.cells
  simp only at t0 t1
  go_upto_region 7 with fail
  go_cut [55] (fun v W => v = .bool D ∧ Hid (PbS w b ⟨(q1 : Nat), (q2 : Nat)⟩ k ga gn gc W))
  case first =>
    by_cases hE0 : E = 0
    · have hDE : Hid (D = false) := by
        show D = false
        rw [← HDD.out, hE0]
        exact decide_eq_false (by omega)
      have d6 : decide ((0 : Int) < (E : Int)) = false := decide_eq_false (by omega)
      have d7 : ¬ (0 : Int) < (E : Int) := by omega
      go_wp2_with (go_at_call 57; (refine (HEA.out _ HP3).mono ?_); rintro e w4 ⟨rfl, ⟨s0, s1, s2, s3, s4, s5, s6, s7, ⟨u0, u1, u2, u3, u4⟩⟩, HP4⟩)
      go_meet
      exact ⟨by rw [hDE.out], HP4⟩
    · have d6 : decide ((0 : Int) < (E : Int)) = true := decide_eq_true (by omega)
      have d7 : (0 : Int) < (E : Int) := by omega
      have d8 : ((E : Int) == 0) = false := by rw [beq_eq_false_iff_ne]; omega
      have d9 : ¬ (E : Int) = 0 := by omega
      have hquo : ((65536 : Int).tdiv (E : Int)) = ((65536 / E : Nat) : Int) := by rw [Int.tdiv_eq_ediv_of_nonneg (by omega)]; rfl
      obtain ⟨DV, hDV⟩ : ∃ DV, 65536 / E = DV := ⟨_, rfl⟩
      have hDV6 : DV ≤ 65536 := by rw [← hDV]; exact Nat.div_le_self _ _
      rw [hDV] at hquo
      have hDE : Hid (D = decide ((DV : Int) < M)) := by
        show D = _
        rw [← HDD.out, hDV, decide_eq_decide]
        omega
      clear hDV
      go_wp2_with (go_at_call 57; (first | refine (HEA.out _ HP4).mono ?_ | refine (HEA.out _ HP3).mono ?_); rintro e w4 ⟨rfl, ⟨s0, s1, s2, s3, s4, s5, s6, s7, ⟨u0, u1, u2, u3, u4⟩⟩, HP4⟩)
      go_meet
      exact ⟨by rw [hDE.out], HP4⟩
  case rest =>
    exact by
      obtain ⟨rfl, HP5⟩ := hcut
      obtain ⟨w5, hw5⟩ : ∃ w5, w5 = wc := ⟨_, rfl⟩
      subst hw5
      clear t0 t1 t2 t3 t4 t5 t6 t7 r0 r1 r2 r3 r4 HP3
      obtain ⟨t0, t1, t2, t3, t4, t5, t6, t7, ⟨r0, r1, r2, r3, r4⟩⟩ := HP5.out.cells
      simp only at t0 t1
      cases D
      · go_upto_region 9 with fail
        go_upto_if 59 with (go_at_call 57; (refine (HEA.out _ HP5).mono ?_); rintro e w6 ⟨rfl, ⟨s0, s1, s2, s3, s4, s5, s6, s7, ⟨u0, u1, u2, u3, u4⟩⟩, HP6⟩)
        clear t0 t1 t2 t3 t4 t5 t6 t7 r0 r1 r2 r3 r4 HP5
        go_cut [4] (fun v W => v = .int .i64 (T : Nat) ∧ Hid (PbS w b ⟨(q1 : Nat), (q2 : Nat)⟩ k ga gn gc W))
        case first =>
          have hte := HTE.out
          by_cases hE0 : E = 0
          · rw [if_pos hE0] at hte
            subst hte
            have d8 : ((E : Int) == 0) = true := by rw [beq_iff_eq]; omega
            have d9 : (E : Int) = 0 := by omega
            go_wp2_with fail
            go_meet
            exact ⟨by first | rfl | go_num, HP6⟩
          · rw [if_neg hE0] at hte
            have d8 : ((E : Int) == 0) = false := by rw [beq_eq_false_iff_ne]; omega
            have d9 : ¬ (E : Int) = 0 := by omega
            have hMT : Hid (M = (T : Int)) := by show M = _; omega
            clear hte
            go_wp2_with fail
            go_meet
            exact ⟨by rw [hMT.out], HP6⟩
        case rest =>
          exact by
            obtain ⟨rfl, HP7⟩ := hcut
            obtain ⟨w7, hw7⟩ : ∃ w7, w7 = wc := ⟨_, rfl⟩
            subst hw7
            clear s0 s1 s2 s3 s4 s5 s6 s7 u0 u1 u2 u3 u4 HP6
            obtain ⟨t0, t1, t2, t3, t4, t5, t6, t7, ⟨r0, r1, r2, r3, r4⟩⟩ := HP7.out.cells
            simp only at t0 t1
            have hx7 := HLN.out _ HP7
            go_upto_region 12 with fail
            go_cut [71] (fun v W => v = .bool B ∧ Hid (PbS w b ⟨(q1 : Nat), (q2 : Nat)⟩ k ga gn gc W))
            case first =>
              have hbbe := HBBE.out
              cases bh
              · simp only [Bool.false_and] at hbbe
                subst hbbe
                go_wp2_with fail
                go_meet
                exact ⟨rfl, HP7⟩
              · have d5 : decide ((0 : Int) < (y : Int)) = B := by rw [← hbbe, Bool.true_and, decide_eq_decide]; omega
                clear hbbe
                go_wp2_with fail
                go_meet
                refine ⟨?_, HP7⟩
                first
                  | rfl
                  | (simp only [d5]; done)
                  | (rw [← d5]; done)
                  | (rw [← d5]; congr 1; rw [decide_eq_decide]; omega)
            case rest =>
              exact by
                obtain ⟨rfl, HP8⟩ := hcut
                obtain ⟨w8, hw8⟩ : ∃ w8, w8 = wc := ⟨_, rfl⟩
                subst hw8
                clear t0 t1 t2 t3 t4 t5 t6 t7 r0 r1 r2 r3 r4 HP7 hx7
                obtain ⟨t0, t1, t2, t3, t4, t5, t6, t7, ⟨r0, r1, r2, r3, r4⟩⟩ := HP8.out.cells
                simp only at t0 t1
                go_upto_if 71 with fail
                go_cut [13] (fun v W => v = .int .i64 (col : Nat) ∧ Hid (PbS w b ⟨(q1 : Nat), (q2 : Nat)⟩ k ga gn gc W))
                case first =>
                  have hcb := HCB.out
                  cases B
                  · simp only [Bool.false_eq_true, if_false] at hcb
                    subst hcb
                    go_wp2_with fail
                    go_meet
                    exact ⟨rfl, HP8⟩
                  · simp only [if_true] at hcb
                    have HCE : Hid ((q2 : Int) + 1 = (col : Int)) := by show (q2 : Int) + 1 = _; omega
                    clear hcb
                    go_wp2_with fail
                    go_meet
                    exact ⟨by first | (rw [← HCE.out]; done) | (have := HCE.out; go_num), HP8⟩
                case rest =>
                  exact by
                    obtain ⟨rfl, HP9⟩ := hcut
                    obtain ⟨w9, hw9⟩ : ∃ w9, w9 = wc := ⟨_, rfl⟩
                    subst hw9
                    clear t0 t1 t2 t3 t4 t5 t6 t7 r0 r1 r2 r3 r4 HP8
                    obtain ⟨t0, t1, t2, t3, t4, t5, t6, t7, ⟨r0, r1, r2, r3, r4⟩⟩ := HP9.out.cells
                    simp only at t0 t1
                    have hT6 := HT6.out (by first | rfl | trivial)
                    have HCH9 := HCH.out (by first | rfl | trivial) w9 HP9
                    go_upto_if 85 with (go_at_call 58; (refine HCH9.mono ?_); rintro e w10 ⟨ra, rn, rc, rfl, ⟨s0, s1, s2, s3, s4, s5, s6, s7, ⟨u0, u1, u2, u3, u4⟩⟩, HP10⟩)
                    have HP11 : Hid (PoS w b w10.heap.size ⟨(q1 : Nat), (q2 : Nat)⟩ k ga gn gc CM QC ra rn rc (w10.alloc (.cells #[.int .i64 (QC.1 : Nat), .int .i64 (QC.2 : Nat)] 24))) := pos_new HP10.out.1 HP10.out.2 QC
                    obtain ⟨qb, hqb⟩ : ∃ qb, w10.heap.size = qb := ⟨_, rfl⟩
                    obtain ⟨w11, hw11⟩ : ∃ w11, w10.alloc (.cells #[.int .i64 (QC.1 : Nat), .int .i64 (QC.2 : Nat)] 24) = w11 := ⟨_, rfl⟩
                    rw [hqb, hw11] at HP11
                    rw [hqb, hw11]
                    clear hqb hw11 HP10 HCH9 HCH s0 s1 s2 s3 s4 s5 s6 s7 u0 u1 u2 u3 u4 t0 t1 t2 t3 t4 t5 t6 t7 r0 r1 r2 r3 r4 HP9 HEA HLN
                    have hqlt := HP11.out.lt
                    have hq5 : ¬ qb = b := by omega
                    have hq6 : ¬ qb = b + 1 := by omega
                    have hq7 : ¬ qb = b + 2 := by omega
                    obtain ⟨t0, t1, t2, t3, t4, t5, t6, t7, ⟨r0, r1, r2, r3, r4⟩⟩ := HP11.out.s.cells
                    simp only at t0 t1
                    obtain ⟨y0, y1, y2, y3, y4⟩ := HP11.out.qcells
                    go_cut [14] (fun v W => ∃ ra rn rc, v = .slice ra rn rc ∧ Hid (PoS w b qb ⟨(q1 : Nat), (q2 : Nat)⟩ k ga gn gc M1 Q1 ra rn rc W))
                    case first =>
                      have hm1 := HM1.out
                      have hq1 := HQ1.out
                      by_cases hk1 : k = 1
                      · rw [if_pos hk1] at hm1 hq1
                        have d5 : (k == 1) = true := by rw [beq_iff_eq]; exact hk1
                        have HWH9 := HWH.out (by first | rfl | trivial) w11 qb ra rn rc HP11 hk1
                        subst hm1
                        subst hq1
                        clear hk1
                        go_wp2_with (go_at_call 59; (refine HWH9.mono ?_); rintro e w12 ⟨ra2, rn2, rc2, rfl, ⟨s0, s1, s2, s3, s4, s5, s6, s7, ⟨u0, u1, u2, u3, u4⟩⟩, ⟨v0, v1, v2, v3, v4⟩, HP12⟩)
                        go_meet
                        exact ⟨_, _, _, rfl, HP12⟩
                      · rw [if_neg hk1] at hm1 hq1
                        have d5 : (k == 1) = false := by rw [beq_eq_false_iff_ne]; exact hk1
                        subst hm1
                        subst hq1
                        go_wp2_with fail
                        go_meet
                        exact ⟨_, _, _, rfl, HP11⟩
                    case rest =>
                      exact by
                        obtain ⟨ra, rn, rc, rfl, HP12⟩ := hcut
                        obtain ⟨w12, hw12⟩ : ∃ w12, w12 = wc := ⟨_, rfl⟩
                        subst hw12
                        clear t0 t1 t2 t3 t4 t5 t6 t7 r0 r1 r2 r3 r4 y0 y1 y2 y3 y4 HP11 HWH
                        obtain ⟨t0, t1, t2, t3, t4, t5, t6, t7, ⟨r0, r1, r2, r3, r4⟩⟩ := HP12.out.s.cells
                        simp only at t0 t1
                        obtain ⟨y0, y1, y2, y3, y4⟩ := HP12.out.qcells
                        go_upto_if 97 with fail
                        go_cut [14] (fun v W => ∃ ra rn rc, v = .slice ra rn rc ∧ Hid (PoS w b qb ⟨(q1 : Nat), (q2 : Nat)⟩ k ga gn gc MX QX ra rn rc W))
                        case first =>
                          have hm1 := HM2.out
                          have hq1 := HQ2.out
                          by_cases hk1 : k = 2
                          · rw [if_pos hk1] at hm1 hq1
                            have d5 : (k == 2) = true := by rw [beq_iff_eq]; exact hk1
                            have HBK9 := HBK.out (by first | rfl | trivial) w12 qb ra rn rc HP12 hk1
                            subst hm1
                            subst hq1
                            clear hk1
                            go_wp2_with (go_at_call 60; (refine HBK9.mono ?_); rintro e w13 ⟨ra2, rn2, rc2, rfl, ⟨s0, s1, s2, s3, s4, s5, s6, s7, ⟨u0, u1, u2, u3, u4⟩⟩, ⟨v0, v1, v2, v3, v4⟩, HP13⟩)
                            go_meet
                            exact ⟨_, _, _, rfl, HP13⟩
                          · rw [if_neg hk1] at hm1 hq1
                            have d5 : (k == 2) = false := by rw [beq_eq_false_iff_ne]; exact hk1
                            subst hm1
                            subst hq1
                            go_wp2_with fail
                            go_meet
                            exact ⟨_, _, _, rfl, HP12⟩
                        case rest =>
                          exact by
                            obtain ⟨ra, rn, rc, rfl, HP13⟩ := hcut
                            obtain ⟨w13, hw13⟩ : ∃ w13, w13 = wc := ⟨_, rfl⟩
                            subst hw13
                            clear t0 t1 t2 t3 t4 t5 t6 t7 r0 r1 r2 r3 r4 y0 y1 y2 y3 y4 HP12 HBK
                            obtain ⟨t0, t1, t2, t3, t4, t5, t6, t7, ⟨r0, r1, r2, r3, r4⟩⟩ := HP13.out.s.cells
                            simp only at t0 t1
                            obtain ⟨y0, y1, y2, y3, y4⟩ := HP13.out.qcells
                            have HRU9 := HRU.out (by first | rfl | trivial) w13 qb ra rn rc HP13
                            have hRN6 := HRNB.out (by first | rfl | trivial)
                            obtain ⟨FB, hFB⟩ : ∃ FB, decide ((65536 : Int) < (RN : Int)) = FB := ⟨_, rfl⟩
                            have HF1 : Hid (FB = true → 65536 < RN) := by
                              intro e
                              rw [e] at hFB
                              have := of_decide_eq_true hFB
                              omega
                            have HF2 : Hid (FB = false → ¬ 65536 < RN) := by
                              intro e
                              rw [e] at hFB
                              have := of_decide_eq_false hFB
                              omega
                            go_upto_region 19 with fail
                            go_cut [109] (fun v W => v = .bool FB ∧ Hid (PoS w b qb ⟨(q1 : Nat), (q2 : Nat)⟩ k ga gn gc MX QX ra rn rc W))
                            case first =>
                              go_wp2_with (go_at_call 51; (refine HRU9.mono ?_); rintro e wq ⟨rfl, hwq⟩; subst hwq)
                              go_meet
                              exact ⟨by first | rfl | (rw [hFB]; done), HP13⟩
                            case rest =>
                            exact by
                              obtain ⟨rfl, HP14⟩ := hcut
                              obtain ⟨w14, hw14⟩ : ∃ w14, w14 = wc := ⟨_, rfl⟩
                              subst hw14
                              clear t0 t1 t2 t3 t4 t5 t6 t7 r0 r1 r2 r3 r4 y0 y1 y2 y3 y4 HP13 HRU9 HRU hRN6 hFB
                              obtain ⟨t0, t1, t2, t3, t4, t5, t6, t7, ⟨r0, r1, r2, r3, r4⟩⟩ := HP14.out.s.cells
                              simp only at t0 t1
                              obtain ⟨y0, y1, y2, y3, y4⟩ := HP14.out.qcells
                              cases FB
                              rotate_left
                              · go_wp2_with fail
                                refine bodyPost_ret (v := .tuple #[.slice none 0 0, plV (0, 0), .int .i64 3]) ?_ rfl ?_
                                · rw [results_tct rfl]
                                  go_simp
                                  first | rfl | done
                                · rw [HE2.out (by first | rfl | trivial) (HF1.out (by first | rfl | trivial))]
                                  refine ⟨none, 0, 0, rfl, RdL.none0 _ _, ?_⟩
                                  (repeat' (first | exact HP14.out.s.hb | omega | refine setCell_below ?_ _ _ _ ?_))
                              · have hfl := HF2.out (by first | rfl | trivial)
                                have HFL := Lib.hid hfl
                                clear hfl
                                go_wp2_with fail
                                go_region
                                all_goals
                                  go_wp2_with fail
                                  refine bodyPost_ret (v := .tuple #[.slice ra rn rc, plV QX, .int .i64 0]) ?_ rfl ?_
                                  · rw [results_tct rfl]
                                    go_simp
                                    first | rfl | done
                                  · rw [HE3.out (by first | rfl | trivial) HFL.out]
                                    have hfin := HP14.out.fin (.int .i64 (QX.1 : Nat)) (.int .i64 (QX.2 : Nat))
                                    exact ⟨ra, rn, rc, rfl, hfin _ (by first | exact Or.inl rfl | exact Or.inr rfl)⟩
      · go_wp2_with fail
        refine bodyPost_ret (v := .tuple #[.slice none 0 0, plV (0, 0), .int .i64 3]) ?_ rfl ?_
        · rw [results_tct rfl]
          go_simp
          first | rfl | done
        · rw [HE1.out (by first | rfl | trivial)]
          refine ⟨none, 0, 0, rfl, RdL.none0 _ _, ?_⟩
          (repeat' (first | exact HP5.out.hb | omega | refine setCell_below ?_ _ _ _ ?_))
theorem rpasteK : PasteK 23 := by
  intro F G a n c L ga gn gc GL p k bh m w h hs hplL hg hgs hp hk hm
  by_cases hbad : ¬ (0 ≤ k ∧ k ≤ 2) ∨ GL = [] ∨ ¬ plainL GL
  · rw [pasteR_arg hbad]
    refine (rpaste_arg G a n c ga gn gc GL p k bh m w hg hk hbad).mono ?_
    rintro e w' ⟨rfl, hb⟩
    exact ⟨none, 0, 0, rfl, RdL.none0 _ _, hb⟩
  · have hk2 : 0 ≤ k ∧ k ≤ 2 := Classical.not_not.1 (fun e => hbad (Or.inl e))
    have hG : GL ≠ [] := fun e => hbad (Or.inr (Or.inl e))
    have hpl : plainL GL := Classical.not_not.1 (fun e => hbad (Or.inr (Or.inr e)))
    by_cases hL : L = []
    · have hl := h.len
      rw [hL] at hl
      simp only [List.length_nil] at hl
      subst hl
      rw [hL, pasteR_range hG hpl hk2.1 hk2.2]
      refine (rpaste_none G a c ga gn gc GL p k bh m w hg hk2.1 hk2.2 hG hpl).mono ?_
      rintro e w' ⟨rfl, hb⟩
      exact ⟨none, 0, 0, rfl, RdL.none0 _ _, hb⟩
    · exact rpaste_main F G a n c L ga gn gc GL p k bh m w h hs hplL hg hgs hp hm hL hk2.1 hk2.2 hG hpl
end Go.Proofs.Ytfldjoiohejilaa.U
