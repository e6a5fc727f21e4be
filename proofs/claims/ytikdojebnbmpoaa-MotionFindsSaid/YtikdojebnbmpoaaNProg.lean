/-
  The program's contracts: Next, Prev, End, ParaNext, ParaPrev, SentNext, SentPrev. (MADE by wip/tools/gen_prog9.py.)
-/
import Derived.Test.YtikdojebnbmpoaaNClos
import Derived.Test.YtikdojebnbmpoaaNPrev
namespace Go.Proofs.Ytikdojebnbmpoaa.U
open Go.RowKit
set_option linter.unusedVariables false
set_option linter.unusedSimpArgs false
set_option maxRecDepth 100000

theorem block_lt_of_cell_any {W : World} {b o : Nat} {x : _} {y : Value} (h : W.cell? ⟨b, o, x⟩ = some y) : b < W.heap.size := by
  by_cases hb : b < W.heap.size
  · exact hb
  · exfalso
    have : W.heap[b]? = none := Array.getElem?_eq_none (by omega)
    simp [World.cell?, this] at h
theorem four (w : World) (o1 o2 o3 o4 : Obj) :
    ((((w.alloc o1).alloc o2).alloc o3).alloc o4).heap.size = w.heap.size + 4 ∧
    ((((w.alloc o1).alloc o2).alloc o3).alloc o4).heap[w.heap.size]? = some o1 ∧
    ((((w.alloc o1).alloc o2).alloc o3).alloc o4).heap[w.heap.size + 1]? = some o2 ∧
    ((((w.alloc o1).alloc o2).alloc o3).alloc o4).heap[w.heap.size + 1 + 1]? = some o3 ∧
    ((((w.alloc o1).alloc o2).alloc o3).alloc o4).heap[w.heap.size + 1 + 1 + 1]? = some o4 ∧
    Below w.heap.size w ((((w.alloc o1).alloc o2).alloc o3).alloc o4) := by
  have n1 := World.alloc_heap_new w o1
  have n2 := World.alloc_heap_new (w.alloc o1) o2
  have n3 := World.alloc_heap_new ((w.alloc o1).alloc o2) o3
  have n4 := World.alloc_heap_new (((w.alloc o1).alloc o2).alloc o3) o4
  simp only [World.size_alloc] at n2 n3 n4
  refine ⟨by simp, ?_, ?_, ?_, n4, (((((Below.refl _ w).alloc (Nat.le_refl _) _).alloc (by simp) _).alloc (by simp; omega) _).alloc (by simp; omega) _)⟩
  · exact (Below.heap_alloc _ _ _ (by first | (simp; done) | (simp; omega))).trans ((Below.heap_alloc _ _ _ (by first | (simp; done) | (simp; omega))).trans ((Below.heap_alloc _ _ _ (by first | (simp; done) | (simp; omega))).trans n1))
  · exact (Below.heap_alloc _ _ _ (by first | (simp; done) | (simp; omega))).trans ((Below.heap_alloc _ _ _ (by first | (simp; done) | (simp; omega))).trans n2)
  · exact (Below.heap_alloc _ _ _ (by first | (simp; done) | (simp; omega))).trans n3
theorem three (w : World) (o1 o2 o3 : Obj) :
    (((w.alloc o1).alloc o2).alloc o3).heap.size = w.heap.size + 3 ∧
    (((w.alloc o1).alloc o2).alloc o3).heap[w.heap.size]? = some o1 ∧
    (((w.alloc o1).alloc o2).alloc o3).heap[w.heap.size + 1]? = some o2 ∧
    (((w.alloc o1).alloc o2).alloc o3).heap[w.heap.size + 1 + 1]? = some o3 ∧
    Below w.heap.size w (((w.alloc o1).alloc o2).alloc o3) := by
  have n1 := World.alloc_heap_new w o1
  have n2 := World.alloc_heap_new (w.alloc o1) o2
  have n3 := World.alloc_heap_new ((w.alloc o1).alloc o2) o3
  simp only [World.size_alloc] at n2 n3
  refine ⟨by simp, ?_, ?_, n3, ((((Below.refl _ w).alloc (Nat.le_refl _) _).alloc (by simp) _).alloc (by simp; omega) _)⟩
  · exact (Below.heap_alloc _ _ _ (by first | (simp; done) | (simp; omega))).trans ((Below.heap_alloc _ _ _ (by first | (simp; done) | (simp; omega))).trans n1)
  · exact (Below.heap_alloc _ _ _ (by first | (simp; done) | (simp; omega))).trans n2
theorem isK_b (L : List (List Int)) (big : Bool) (p : Pl) : isK L (if big then 1 else 0) p = begins big (lnL L p.1) p.2 := by
  cases big <;> (unfold isK; first | rfl | simp)
theorem isK_e (L : List (List Int)) (big : Bool) (p : Pl) : isK L (if big then 3 else 2) p = ends big (lnL L p.1) p.2 := by
  cases big <;> (unfold isK; first | rfl | simp)
theorem isK6 (L : List (List Int)) (p : Pl) : isK L 6 p = sentB L p.1 p.2 := by
  unfold isK; first | rfl | simp
theorem para_on {L : List (List Int)} {cp x : Pl} (hx : okP L x) (ha : aheadP cp x = true) (h0 : (lnL L x.1).length = 0) : 0 < x.1 := by
  rw [aheadP_iff] at ha
  have := hx.2
  omega
theorem para_back {L : List (List Int)} {cp x : Pl} (hc : okP L cp) (hx : okP L x) (ha : aheadP x cp = true) (h0 : (lnL L x.1).length = 0) : x.1 + 1 < L.length := by
  rw [aheadP_iff] at ha
  have h1 := hc.1
  have h2 := hc.2
  rcases ha with ha | ⟨ha, hb⟩
  · omega
  · rw [← ha] at h2; omega
set_option maxHeartbeats 600000 in
theorem wnext_any (F : Nat → Prop) (a : Option Addr) (n c : Nat) (L : List (List Int)) (q : Po) (big : Bool) (w : World) (h : RdL F w a n c L) (hq : i64p q) (hs : sizeN (lens L) ≤ 262144) :
    Calls Try.prog 50 #[.slice a n c, q.v, .bool big] w fun e w' => e = .returned (plV (behindP L (if big then 1 else 0) (clipP L q.l q.c))) ∧ Below w.heap.size w w' := by
  obtain ⟨u, v⟩ := q
  show Calls Try.prog 50 #[.slice a n c, .agg #[.int .i64 u, .int .i64 v], .bool big] w fun e w' => e = .returned (plV (behindP L (if big then 1 else 0) (clipP L u v))) ∧ Below w.heap.size w w'
  obtain ⟨cp, hcp⟩ : ∃ cp, clipP L u v = cp := ⟨_, rfl⟩
  rw [hcp, behind_find]
  obtain ⟨hsz, t1, t2, t3, t4, hB0⟩ := four w (.cells #[.slice a n c] 22) (.cells #[.int .i64 u, .int .i64 v] 24) (.cells #[.bool big] 4) (.cells #[.int .i64 0, .int .i64 0] 24)
  obtain ⟨w1, hw1⟩ : ∃ w1, (((w.alloc (.cells #[.slice a n c] 22)).alloc (.cells #[.int .i64 u, .int .i64 v] 24)).alloc (.cells #[.bool big] 4)).alloc (.cells #[.int .i64 0, .int .i64 0] 24) = w1 := ⟨_, rfl⟩
  rw [hw1] at hsz t1 t2 t3 t4 hB0
  have bL : w1.cell? ⟨w.heap.size, 0, none⟩ = some (.slice a n c) := by rw [cell_row t1]; rfl
  have bB : w1.cell? ⟨w.heap.size + 1 + 1, 0, none⟩ = some (.bool big) := by rw [cell_row t3]; rfl
  have hcell : ∀ (p : Addr) (W : World) (y : Value), Below w1.heap.size w1 W → w1.cell? p = some y → W.cell? p = some y := fun p W y hb hc => (hb.cell (p := p) (by obtain ⟨b, o, x⟩ := p; exact block_lt_of_cell_any hc)).trans hc
  have hN := next_word F a n c L u v cp (isK L (if big then 1 else 0)) w.heap.size (w.heap.size + 1 + 1) w1 hcp (h.below hB0) hq (by
    intro x W hx ha hW
    rw [isK_b]
    exact cnext F a n c L x big w.heap.size (w.heap.size + 1 + 1) W ((h.below hB0).below hW) hx (hcell _ W _ hW bL) (hcell _ W _ hW bB))
  have HN := Lib.hid hN
  obtain ⟨⟨p1, p2⟩, hp⟩ : ∃ p, ((behL L cp).find? (isK L (if big then 1 else 0))).getD (lastP L) = p := ⟨_, rfl⟩
  rw [hp] at HN ⊢
  unfold plV at HN ⊢
  obtain ⟨b0, b1, z0, z1⟩ := row2 t2
  have HW1 := Lib.hid hw1
  have HB1 := Lib.hid hB0
  have HT := Lib.hid t4
  clear hN hp h hq hs hcp hcell t1 t2 t3 t4 hw1 hB0 hsz
  go_enter Try.func50, Try.ntmps50
  go_upto_region 1 with fail
  rw [HW1.out]
  go_wp2_with (go_at_call 64; refine HN.out.mono ?_; rintro e w2 ⟨rfl, hb2⟩; obtain ⟨a0, a1, y0, y1⟩ := row2 ((hb2.block _ (Array.getElem?_eq_some_iff.1 HT.out).1).trans HT.out))
  refine bodyPost_ret (v := plV (p1, p2)) ?_ rfl ⟨rfl, ?_⟩
  · rw [results_cell1 rfl]
    go_simp
    rfl
  · have h2 := btr HB1.out hb2
    (repeat' (first | exact h2 | omega | refine setCell_below ?_ _ _ _ ?_))
set_option maxHeartbeats 600000 in
theorem wprev_any (F : Nat → Prop) (a : Option Addr) (n c : Nat) (L : List (List Int)) (q : Po) (big : Bool) (w : World) (h : RdL F w a n c L) (hq : i64p q) (hs : sizeN (lens L) ≤ 262144) :
    Calls Try.prog 52 #[.slice a n c, q.v, .bool big] w fun e w' => e = .returned (plV (beforeP L (if big then 1 else 0) (clipP L q.l q.c))) ∧ Below w.heap.size w w' := by
  obtain ⟨u, v⟩ := q
  show Calls Try.prog 52 #[.slice a n c, .agg #[.int .i64 u, .int .i64 v], .bool big] w fun e w' => e = .returned (plV (beforeP L (if big then 1 else 0) (clipP L u v))) ∧ Below w.heap.size w w'
  obtain ⟨cp, hcp⟩ : ∃ cp, clipP L u v = cp := ⟨_, rfl⟩
  rw [hcp, before_find]
  obtain ⟨hsz, t1, t2, t3, t4, hB0⟩ := four w (.cells #[.slice a n c] 22) (.cells #[.int .i64 u, .int .i64 v] 24) (.cells #[.bool big] 4) (.cells #[.int .i64 0, .int .i64 0] 24)
  obtain ⟨w1, hw1⟩ : ∃ w1, (((w.alloc (.cells #[.slice a n c] 22)).alloc (.cells #[.int .i64 u, .int .i64 v] 24)).alloc (.cells #[.bool big] 4)).alloc (.cells #[.int .i64 0, .int .i64 0] 24) = w1 := ⟨_, rfl⟩
  rw [hw1] at hsz t1 t2 t3 t4 hB0
  have bL : w1.cell? ⟨w.heap.size, 0, none⟩ = some (.slice a n c) := by rw [cell_row t1]; rfl
  have bB : w1.cell? ⟨w.heap.size + 1 + 1, 0, none⟩ = some (.bool big) := by rw [cell_row t3]; rfl
  have hcell : ∀ (p : Addr) (W : World) (y : Value), Below w1.heap.size w1 W → w1.cell? p = some y → W.cell? p = some y := fun p W y hb hc => (hb.cell (p := p) (by obtain ⟨b, o, x⟩ := p; exact block_lt_of_cell_any hc)).trans hc
  have hN := prev_word F a n c L u v cp (isK L (if big then 1 else 0)) w.heap.size (w.heap.size + 1 + 1) w1 hcp (h.below hB0) hq (by
    intro x W hx ha hW
    rw [isK_b]
    exact cprev F a n c L x big w.heap.size (w.heap.size + 1 + 1) W ((h.below hB0).below hW) hx (hcell _ W _ hW bL) (hcell _ W _ hW bB))
  have HN := Lib.hid hN
  obtain ⟨⟨p1, p2⟩, hp⟩ : ∃ p, ((befL L cp).find? (isK L (if big then 1 else 0))).getD ((0, 0)) = p := ⟨_, rfl⟩
  rw [hp] at HN ⊢
  unfold plV at HN ⊢
  obtain ⟨b0, b1, z0, z1⟩ := row2 t2
  have HW1 := Lib.hid hw1
  have HB1 := Lib.hid hB0
  have HT := Lib.hid t4
  clear hN hp h hq hs hcp hcell t1 t2 t3 t4 hw1 hB0 hsz
  go_enter Try.func52, Try.ntmps52
  go_upto_region 1 with fail
  rw [HW1.out]
  go_wp2_with (go_at_call 67; refine HN.out.mono ?_; rintro e w2 ⟨rfl, hb2⟩; obtain ⟨a0, a1, y0, y1⟩ := row2 ((hb2.block _ (Array.getElem?_eq_some_iff.1 HT.out).1).trans HT.out))
  refine bodyPost_ret (v := plV (p1, p2)) ?_ rfl ⟨rfl, ?_⟩
  · rw [results_cell1 rfl]
    go_simp
    rfl
  · have h2 := btr HB1.out hb2
    (repeat' (first | exact h2 | omega | refine setCell_below ?_ _ _ _ ?_))
set_option maxHeartbeats 600000 in
theorem wend_any (F : Nat → Prop) (a : Option Addr) (n c : Nat) (L : List (List Int)) (q : Po) (big : Bool) (w : World) (h : RdL F w a n c L) (hq : i64p q) (hs : sizeN (lens L) ≤ 262144) :
    Calls Try.prog 53 #[.slice a n c, q.v, .bool big] w fun e w' => e = .returned (plV (behindP L (if big then 3 else 2) (clipP L q.l q.c))) ∧ Below w.heap.size w w' := by
  obtain ⟨u, v⟩ := q
  show Calls Try.prog 53 #[.slice a n c, .agg #[.int .i64 u, .int .i64 v], .bool big] w fun e w' => e = .returned (plV (behindP L (if big then 3 else 2) (clipP L u v))) ∧ Below w.heap.size w w'
  obtain ⟨cp, hcp⟩ : ∃ cp, clipP L u v = cp := ⟨_, rfl⟩
  rw [hcp, behind_find]
  obtain ⟨hsz, t1, t2, t3, t4, hB0⟩ := four w (.cells #[.slice a n c] 22) (.cells #[.int .i64 u, .int .i64 v] 24) (.cells #[.bool big] 4) (.cells #[.int .i64 0, .int .i64 0] 24)
  obtain ⟨w1, hw1⟩ : ∃ w1, (((w.alloc (.cells #[.slice a n c] 22)).alloc (.cells #[.int .i64 u, .int .i64 v] 24)).alloc (.cells #[.bool big] 4)).alloc (.cells #[.int .i64 0, .int .i64 0] 24) = w1 := ⟨_, rfl⟩
  rw [hw1] at hsz t1 t2 t3 t4 hB0
  have bL : w1.cell? ⟨w.heap.size, 0, none⟩ = some (.slice a n c) := by rw [cell_row t1]; rfl
  have bB : w1.cell? ⟨w.heap.size + 1 + 1, 0, none⟩ = some (.bool big) := by rw [cell_row t3]; rfl
  have hcell : ∀ (p : Addr) (W : World) (y : Value), Below w1.heap.size w1 W → w1.cell? p = some y → W.cell? p = some y := fun p W y hb hc => (hb.cell (p := p) (by obtain ⟨b, o, x⟩ := p; exact block_lt_of_cell_any hc)).trans hc
  have hN := next_end F a n c L u v cp (isK L (if big then 3 else 2)) w.heap.size (w.heap.size + 1 + 1) w1 hcp (h.below hB0) hq (by
    intro x W hx ha hW
    rw [isK_e]
    exact cend F a n c L x big w.heap.size (w.heap.size + 1 + 1) W ((h.below hB0).below hW) hx (hcell _ W _ hW bL) (hcell _ W _ hW bB))
  have HN := Lib.hid hN
  obtain ⟨⟨p1, p2⟩, hp⟩ : ∃ p, ((behL L cp).find? (isK L (if big then 3 else 2))).getD (lastP L) = p := ⟨_, rfl⟩
  rw [hp] at HN ⊢
  unfold plV at HN ⊢
  obtain ⟨b0, b1, z0, z1⟩ := row2 t2
  have HW1 := Lib.hid hw1
  have HB1 := Lib.hid hB0
  have HT := Lib.hid t4
  clear hN hp h hq hs hcp hcell t1 t2 t3 t4 hw1 hB0 hsz
  go_enter Try.func53, Try.ntmps53
  go_upto_region 1 with fail
  rw [HW1.out]
  go_wp2_with (go_at_call 64; refine HN.out.mono ?_; rintro e w2 ⟨rfl, hb2⟩; obtain ⟨a0, a1, y0, y1⟩ := row2 ((hb2.block _ (Array.getElem?_eq_some_iff.1 HT.out).1).trans HT.out))
  refine bodyPost_ret (v := plV (p1, p2)) ?_ rfl ⟨rfl, ?_⟩
  · rw [results_cell1 rfl]
    go_simp
    rfl
  · have h2 := btr HB1.out hb2
    (repeat' (first | exact h2 | omega | refine setCell_below ?_ _ _ _ ?_))
set_option maxHeartbeats 600000 in
theorem wparan_any (F : Nat → Prop) (a : Option Addr) (n c : Nat) (L : List (List Int)) (q : Po) (w : World) (h : RdL F w a n c L) (hq : i64p q) (hs : sizeN (lens L) ≤ 262144) :
    Calls Try.prog 58 #[.slice a n c, q.v] w fun e w' => e = .returned (plV (behindP L (4) (clipP L q.l q.c))) ∧ Below w.heap.size w w' := by
  obtain ⟨u, v⟩ := q
  show Calls Try.prog 58 #[.slice a n c, .agg #[.int .i64 u, .int .i64 v]] w fun e w' => e = .returned (plV (behindP L (4) (clipP L u v))) ∧ Below w.heap.size w w'
  obtain ⟨cp, hcp⟩ : ∃ cp, clipP L u v = cp := ⟨_, rfl⟩
  rw [hcp, behind_find]
  obtain ⟨hsz, t1, t2, t4, hB0⟩ := three w (.cells #[.slice a n c] 22) (.cells #[.int .i64 u, .int .i64 v] 24) (.cells #[.int .i64 0, .int .i64 0] 24)
  obtain ⟨w1, hw1⟩ : ∃ w1, ((w.alloc (.cells #[.slice a n c] 22)).alloc (.cells #[.int .i64 u, .int .i64 v] 24)).alloc (.cells #[.int .i64 0, .int .i64 0] 24) = w1 := ⟨_, rfl⟩
  rw [hw1] at hsz t1 t2 t4 hB0
  have bL : w1.cell? ⟨w.heap.size, 0, none⟩ = some (.slice a n c) := by rw [cell_row t1]; rfl
  have hcell : ∀ (p : Addr) (W : World) (y : Value), Below w1.heap.size w1 W → w1.cell? p = some y → W.cell? p = some y := fun p W y hb hc => (hb.cell (p := p) (by obtain ⟨b, o, x⟩ := p; exact block_lt_of_cell_any hc)).trans hc
  have hN := next_para F a n c L u v cp (isK L (4)) w.heap.size w1 hcp (h.below hB0) hq (by
    intro x W hx ha hW
    exact cparan F a n c L x w.heap.size W ((h.below hB0).below hW) hx (fun h0 => para_on hx ha h0) (hcell _ W _ hW bL))
  have HN := Lib.hid hN
  obtain ⟨⟨p1, p2⟩, hp⟩ : ∃ p, ((behL L cp).find? (isK L (4))).getD (lastP L) = p := ⟨_, rfl⟩
  rw [hp] at HN ⊢
  unfold plV at HN ⊢
  obtain ⟨b0, b1, z0, z1⟩ := row2 t2
  have HW1 := Lib.hid hw1
  have HB1 := Lib.hid hB0
  have HT := Lib.hid t4
  clear hN hp h hq hs hcp hcell t1 t2 t4 hw1 hB0 hsz
  go_enter Try.func58, Try.ntmps58
  go_upto_region 1 with fail
  rw [HW1.out]
  go_wp2_with (go_at_call 64; refine HN.out.mono ?_; rintro e w2 ⟨rfl, hb2⟩; obtain ⟨a0, a1, y0, y1⟩ := row2 ((hb2.block _ (Array.getElem?_eq_some_iff.1 HT.out).1).trans HT.out))
  refine bodyPost_ret (v := plV (p1, p2)) ?_ rfl ⟨rfl, ?_⟩
  · rw [results_cell1 rfl]
    go_simp
    rfl
  · have h2 := btr HB1.out hb2
    (repeat' (first | exact h2 | omega | refine setCell_below ?_ _ _ _ ?_))
set_option maxHeartbeats 600000 in
theorem wparap_any (F : Nat → Prop) (a : Option Addr) (n c : Nat) (L : List (List Int)) (q : Po) (w : World) (h : RdL F w a n c L) (hq : i64p q) (hs : sizeN (lens L) ≤ 262144) :
    Calls Try.prog 59 #[.slice a n c, q.v] w fun e w' => e = .returned (plV (beforeP L (5) (clipP L q.l q.c))) ∧ Below w.heap.size w w' := by
  obtain ⟨u, v⟩ := q
  show Calls Try.prog 59 #[.slice a n c, .agg #[.int .i64 u, .int .i64 v]] w fun e w' => e = .returned (plV (beforeP L (5) (clipP L u v))) ∧ Below w.heap.size w w'
  obtain ⟨cp, hcp⟩ : ∃ cp, clipP L u v = cp := ⟨_, rfl⟩
  rw [hcp, before_find]
  obtain ⟨hsz, t1, t2, t4, hB0⟩ := three w (.cells #[.slice a n c] 22) (.cells #[.int .i64 u, .int .i64 v] 24) (.cells #[.int .i64 0, .int .i64 0] 24)
  obtain ⟨w1, hw1⟩ : ∃ w1, ((w.alloc (.cells #[.slice a n c] 22)).alloc (.cells #[.int .i64 u, .int .i64 v] 24)).alloc (.cells #[.int .i64 0, .int .i64 0] 24) = w1 := ⟨_, rfl⟩
  rw [hw1] at hsz t1 t2 t4 hB0
  have bL : w1.cell? ⟨w.heap.size, 0, none⟩ = some (.slice a n c) := by rw [cell_row t1]; rfl
  have hcell : ∀ (p : Addr) (W : World) (y : Value), Below w1.heap.size w1 W → w1.cell? p = some y → W.cell? p = some y := fun p W y hb hc => (hb.cell (p := p) (by obtain ⟨b, o, x⟩ := p; exact block_lt_of_cell_any hc)).trans hc
  have hN := prev_para F a n c L u v cp (isK L (5)) w.heap.size w1 hcp (h.below hB0) hq (by
    intro x W hx ha hW
    exact cparap F a n c L x w.heap.size W ((h.below hB0).below hW) hx (fun h0 => para_back (by rw [← hcp]; exact clipP_ok (by rintro rfl; exact absurd hx.1 (by simp)) u v) hx ha h0) (hcell _ W _ hW bL))
  have HN := Lib.hid hN
  obtain ⟨⟨p1, p2⟩, hp⟩ : ∃ p, ((befL L cp).find? (isK L (5))).getD ((0, 0)) = p := ⟨_, rfl⟩
  rw [hp] at HN ⊢
  unfold plV at HN ⊢
  obtain ⟨b0, b1, z0, z1⟩ := row2 t2
  have HW1 := Lib.hid hw1
  have HB1 := Lib.hid hB0
  have HT := Lib.hid t4
  clear hN hp h hq hs hcp hcell t1 t2 t4 hw1 hB0 hsz
  go_enter Try.func59, Try.ntmps59
  go_upto_region 1 with fail
  rw [HW1.out]
  go_wp2_with (go_at_call 67; refine HN.out.mono ?_; rintro e w2 ⟨rfl, hb2⟩; obtain ⟨a0, a1, y0, y1⟩ := row2 ((hb2.block _ (Array.getElem?_eq_some_iff.1 HT.out).1).trans HT.out))
  refine bodyPost_ret (v := plV (p1, p2)) ?_ rfl ⟨rfl, ?_⟩
  · rw [results_cell1 rfl]
    go_simp
    rfl
  · have h2 := btr HB1.out hb2
    (repeat' (first | exact h2 | omega | refine setCell_below ?_ _ _ _ ?_))
set_option maxHeartbeats 600000 in
theorem wsentn_any (F : Nat → Prop) (a : Option Addr) (n c : Nat) (L : List (List Int)) (q : Po) (w : World) (h : RdL F w a n c L) (hq : i64p q) (hs : sizeN (lens L) ≤ 262144) :
    Calls Try.prog 60 #[.slice a n c, q.v] w fun e w' => e = .returned (plV (behindP L (6) (clipP L q.l q.c))) ∧ Below w.heap.size w w' := by
  obtain ⟨u, v⟩ := q
  show Calls Try.prog 60 #[.slice a n c, .agg #[.int .i64 u, .int .i64 v]] w fun e w' => e = .returned (plV (behindP L (6) (clipP L u v))) ∧ Below w.heap.size w w'
  obtain ⟨cp, hcp⟩ : ∃ cp, clipP L u v = cp := ⟨_, rfl⟩
  rw [hcp, behind_find]
  obtain ⟨hsz, t1, t2, t4, hB0⟩ := three w (.cells #[.slice a n c] 22) (.cells #[.int .i64 u, .int .i64 v] 24) (.cells #[.int .i64 0, .int .i64 0] 24)
  obtain ⟨w1, hw1⟩ : ∃ w1, ((w.alloc (.cells #[.slice a n c] 22)).alloc (.cells #[.int .i64 u, .int .i64 v] 24)).alloc (.cells #[.int .i64 0, .int .i64 0] 24) = w1 := ⟨_, rfl⟩
  rw [hw1] at hsz t1 t2 t4 hB0
  have bL : w1.cell? ⟨w.heap.size, 0, none⟩ = some (.slice a n c) := by rw [cell_row t1]; rfl
  have hcell : ∀ (p : Addr) (W : World) (y : Value), Below w1.heap.size w1 W → w1.cell? p = some y → W.cell? p = some y := fun p W y hb hc => (hb.cell (p := p) (by obtain ⟨b, o, x⟩ := p; exact block_lt_of_cell_any hc)).trans hc
  have hN := next_sent F a n c L u v cp (isK L (6)) w.heap.size w1 hcp (h.below hB0) hq (by
    intro x W hx ha hW
    rw [isK6]
    exact csentn F a n c L x w.heap.size W ((h.below hB0).below hW) hx (hcell _ W _ hW bL))
  have HN := Lib.hid hN
  obtain ⟨⟨p1, p2⟩, hp⟩ : ∃ p, ((behL L cp).find? (isK L (6))).getD (lastP L) = p := ⟨_, rfl⟩
  rw [hp] at HN ⊢
  unfold plV at HN ⊢
  obtain ⟨b0, b1, z0, z1⟩ := row2 t2
  have HW1 := Lib.hid hw1
  have HB1 := Lib.hid hB0
  have HT := Lib.hid t4
  clear hN hp h hq hs hcp hcell t1 t2 t4 hw1 hB0 hsz
  go_enter Try.func60, Try.ntmps60
  go_upto_region 1 with fail
  rw [HW1.out]
  go_wp2_with (go_at_call 64; refine HN.out.mono ?_; rintro e w2 ⟨rfl, hb2⟩; obtain ⟨a0, a1, y0, y1⟩ := row2 ((hb2.block _ (Array.getElem?_eq_some_iff.1 HT.out).1).trans HT.out))
  refine bodyPost_ret (v := plV (p1, p2)) ?_ rfl ⟨rfl, ?_⟩
  · rw [results_cell1 rfl]
    go_simp
    rfl
  · have h2 := btr HB1.out hb2
    (repeat' (first | exact h2 | omega | refine setCell_below ?_ _ _ _ ?_))
set_option maxHeartbeats 600000 in
theorem wsentp_any (F : Nat → Prop) (a : Option Addr) (n c : Nat) (L : List (List Int)) (q : Po) (w : World) (h : RdL F w a n c L) (hq : i64p q) (hs : sizeN (lens L) ≤ 262144) :
    Calls Try.prog 61 #[.slice a n c, q.v] w fun e w' => e = .returned (plV (beforeP L (6) (clipP L q.l q.c))) ∧ Below w.heap.size w w' := by
  obtain ⟨u, v⟩ := q
  show Calls Try.prog 61 #[.slice a n c, .agg #[.int .i64 u, .int .i64 v]] w fun e w' => e = .returned (plV (beforeP L (6) (clipP L u v))) ∧ Below w.heap.size w w'
  obtain ⟨cp, hcp⟩ : ∃ cp, clipP L u v = cp := ⟨_, rfl⟩
  rw [hcp, before_find]
  obtain ⟨hsz, t1, t2, t4, hB0⟩ := three w (.cells #[.slice a n c] 22) (.cells #[.int .i64 u, .int .i64 v] 24) (.cells #[.int .i64 0, .int .i64 0] 24)
  obtain ⟨w1, hw1⟩ : ∃ w1, ((w.alloc (.cells #[.slice a n c] 22)).alloc (.cells #[.int .i64 u, .int .i64 v] 24)).alloc (.cells #[.int .i64 0, .int .i64 0] 24) = w1 := ⟨_, rfl⟩
  rw [hw1] at hsz t1 t2 t4 hB0
  have bL : w1.cell? ⟨w.heap.size, 0, none⟩ = some (.slice a n c) := by rw [cell_row t1]; rfl
  have hcell : ∀ (p : Addr) (W : World) (y : Value), Below w1.heap.size w1 W → w1.cell? p = some y → W.cell? p = some y := fun p W y hb hc => (hb.cell (p := p) (by obtain ⟨b, o, x⟩ := p; exact block_lt_of_cell_any hc)).trans hc
  have hN := prev_sent F a n c L u v cp (isK L (6)) w.heap.size w1 hcp (h.below hB0) hq (by
    intro x W hx ha hW
    rw [isK6]
    exact csentp F a n c L x w.heap.size W ((h.below hB0).below hW) hx (hcell _ W _ hW bL))
  have HN := Lib.hid hN
  obtain ⟨⟨p1, p2⟩, hp⟩ : ∃ p, ((befL L cp).find? (isK L (6))).getD ((0, 0)) = p := ⟨_, rfl⟩
  rw [hp] at HN ⊢
  unfold plV at HN ⊢
  obtain ⟨b0, b1, z0, z1⟩ := row2 t2
  have HW1 := Lib.hid hw1
  have HB1 := Lib.hid hB0
  have HT := Lib.hid t4
  clear hN hp h hq hs hcp hcell t1 t2 t4 hw1 hB0 hsz
  go_enter Try.func61, Try.ntmps61
  go_upto_region 1 with fail
  rw [HW1.out]
  go_wp2_with (go_at_call 67; refine HN.out.mono ?_; rintro e w2 ⟨rfl, hb2⟩; obtain ⟨a0, a1, y0, y1⟩ := row2 ((hb2.block _ (Array.getElem?_eq_some_iff.1 HT.out).1).trans HT.out))
  refine bodyPost_ret (v := plV (p1, p2)) ?_ rfl ⟨rfl, ?_⟩
  · rw [results_cell1 rfl]
    go_simp
    rfl
  · have h2 := btr HB1.out hb2
    (repeat' (first | exact h2 | omega | refine setCell_below ?_ _ _ _ ?_))
end Go.Proofs.Ytikdojebnbmpoaa.U
