/-
  Steps by words, paragraphs, sentences: b, e, }, {, ), (, w. (MADE by wip/tools/gen_far.py.)
-/
import Derived.Test.YtikdojebnbmpoaaOWords
namespace Go.Proofs.Ytikdojebnbmpoaa.U
open Go.RowKit
set_option linter.unusedVariables false
set_option linter.unusedSimpArgs false
set_option maxRecDepth 100000

set_option maxHeartbeats 1000000 in
theorem farP_any (a : Option Addr) (n c l q : Nat) (t : Nat) (key cnt arg want : Int) (op : Bool) (L : List (List Int)) (f : FuncId) (g : Pl → Pl) (w : World) (hp : okP L (l, q)) (ht : (t : Int) ≤ 9223372036854775807) (ht1 : 1 ≤ t) (hg : ∀ p, okP L p → okP L (g p))
    (hcf : ∀ (xs : Array Value) (W : World), Sem.run Try.prog (callFunc f xs) W = .ok (.enter f xs) W)
    (hf : ∀ (p1 p2 : Nat) (W : World), okP L (p1, p2) → Below w.heap.size w W → Calls Try.prog f #[.slice a n c, .agg #[.int .i64 (p1 : Nat), .int .i64 (p2 : Nat)]] W fun e w' => e = .returned (plV (g (p1, p2))) ∧ Below W.heap.size W w') :
    Calls Try.prog 51 #[askL a n c l q (t : Nat) key cnt arg want op, .func (.func f) #[] #[]] w fun e w' => e = .returned (.tuple #[plV (stepsP g t (l, q) (l, q)).1, .bool (movedP g (l, q))]) ∧ Below w.heap.size w w' := by
  have HS := Lib.hid (fun (W : World) (hW : Below w.heap.size w W) => stepsP_any a n c l q t key cnt arg want op L f g W hp ht ht1 hg hcf (fun p1 p2 W2 h1 h2 => hf p1 p2 W2 h1 (btr hW h2)))
  obtain ⟨⟨⟨r1, r2⟩, ⟨s1, s2⟩⟩, hr⟩ : ∃ y, stepsP g t (l, q) (l, q) = y := ⟨_, rfl⟩
  obtain ⟨mv, hmv⟩ : ∃ b, movedP g (l, q) = b := ⟨_, rfl⟩
  rw [hr, hmv] at HS
  rw [hr, hmv]
  unfold plV at HS
  clear hr hmv hf hg hp
  obtain ⟨w1, hw1, ha1⟩ := lead_start w (askO a n c l q (t : Nat) key cnt arg want op)
  obtain ⟨x0, x1, x2, x3, x4, x5, x6, x7, x8⟩ := ha1.cells
  have HW1 := Lib.hid hw1
  have HA1 := Lib.hid ha1
  clear hw1 ha1
  go_enter Try.func51, Try.ntmps51
  go_upto_region 1 with fail
  rw [HW1.out]
  go_upto_region 2 with (go_at_call 48; refine (HS.out _ HA1.out.1).mono ?_; rintro e w2 ⟨rfl, hb2⟩; have HA2 := Lib.hid (HA1.out.below hb2))
  obtain ⟨w3, hw3, hsz3, g3, g4, hb3⟩ := two2 w2 (.cells #[.int .i64 (s1 : Nat), .int .i64 (s2 : Nat)] 24) (.cells #[.int .i64 (r1 : Nat), .int .i64 (r2 : Nat)] 24)
  rw [hw3]
  have HA3 := Lib.hid (HA2.out.below hb3)
  obtain ⟨pv0, pv1, pc0, pc1, pz0, pz1⟩ := HA3.out.pos
  obtain ⟨y0, y1, -, -⟩ := row2 g4
  clear hw3 g3 g4 hb3
  go_wp2_with fail
  refine bodyPost_ret (v := .tuple #[.agg #[.int .i64 (r1 : Nat), .int .i64 (r2 : Nat)], .bool mv]) ?_ rfl ⟨rfl, ?_⟩
  · rw [results_ct rfl]
    go_simp
  · exact (HA3.out.store _ _).1
set_option maxHeartbeats 1000000 in
theorem farB_any (a : Option Addr) (n c l q : Nat) (t : Nat) (key cnt arg want : Int) (op : Bool) (L : List (List Int)) (f : FuncId) (b1 b2 : Nat) (g : Pl → Pl) (w : World) (hp : okP L (l, q)) (ht : (t : Int) ≤ 9223372036854775807) (ht1 : 1 ≤ t) (hg : ∀ p, okP L p → okP L (g p))
    (hcf : ∀ (xs : Array Value) (W : World), Sem.run Try.prog (callFunc f xs) W = .ok (.enter f xs) W)
    (hf : ∀ (p1 p2 : Nat) (W : World), okP L (p1, p2) → Below w.heap.size w W → Calls Try.prog f #[.slice a n c, .agg #[.int .i64 (p1 : Nat), .int .i64 (p2 : Nat)], .pointer (some ⟨b1, 0, none⟩), .pointer (some ⟨b2, 0, none⟩)] W fun e w' => e = .returned (plV (g (p1, p2))) ∧ Below W.heap.size W w') :
    Calls Try.prog 51 #[askL a n c l q (t : Nat) key cnt arg want op, .func (.func f) #[] #[.pointer (some ⟨b1, 0, none⟩), .pointer (some ⟨b2, 0, none⟩)]] w fun e w' => e = .returned (.tuple #[plV (stepsP g t (l, q) (l, q)).1, .bool (movedP g (l, q))]) ∧ Below w.heap.size w w' := by
  have HS := Lib.hid (fun (W : World) (hW : Below w.heap.size w W) => stepsB_any a n c l q t key cnt arg want op L f b1 b2 g W hp ht ht1 hg hcf (fun p1 p2 W2 h1 h2 => hf p1 p2 W2 h1 (btr hW h2)))
  obtain ⟨⟨⟨r1, r2⟩, ⟨s1, s2⟩⟩, hr⟩ : ∃ y, stepsP g t (l, q) (l, q) = y := ⟨_, rfl⟩
  obtain ⟨mv, hmv⟩ : ∃ b, movedP g (l, q) = b := ⟨_, rfl⟩
  rw [hr, hmv] at HS
  rw [hr, hmv]
  unfold plV at HS
  clear hr hmv hf hg hp
  obtain ⟨w1, hw1, ha1⟩ := lead_start w (askO a n c l q (t : Nat) key cnt arg want op)
  obtain ⟨x0, x1, x2, x3, x4, x5, x6, x7, x8⟩ := ha1.cells
  have HW1 := Lib.hid hw1
  have HA1 := Lib.hid ha1
  clear hw1 ha1
  go_enter Try.func51, Try.ntmps51
  go_upto_region 1 with fail
  rw [HW1.out]
  go_upto_region 2 with (go_at_call 48; refine (HS.out _ HA1.out.1).mono ?_; rintro e w2 ⟨rfl, hb2⟩; have HA2 := Lib.hid (HA1.out.below hb2))
  obtain ⟨w3, hw3, hsz3, g3, g4, hb3⟩ := two2 w2 (.cells #[.int .i64 (s1 : Nat), .int .i64 (s2 : Nat)] 24) (.cells #[.int .i64 (r1 : Nat), .int .i64 (r2 : Nat)] 24)
  rw [hw3]
  have HA3 := Lib.hid (HA2.out.below hb3)
  obtain ⟨pv0, pv1, pc0, pc1, pz0, pz1⟩ := HA3.out.pos
  obtain ⟨y0, y1, -, -⟩ := row2 g4
  clear hw3 g3 g4 hb3
  go_wp2_with fail
  refine bodyPost_ret (v := .tuple #[.agg #[.int .i64 (r1 : Nat), .int .i64 (r2 : Nat)], .bool mv]) ?_ rfl ⟨rfl, ?_⟩
  · rw [results_ct rfl]
    go_simp
  · exact (HA3.out.store _ _).1
theorem okP_i64z {L : List (List Int)} {p1 p2 : Nat} (hz : sizeN (lens L) ≤ 262144) (h : okP L (p1, p2)) : i64p ⟨(p1 : Nat), (p2 : Nat)⟩ := by
  obtain ⟨h1, h2⟩ := h
  simp only at h1 h2
  have h3 := size_count L
  have h4 : (lnL L p1).length ≤ sizeN (lens L) := by
    unfold lnL
    rw [List.getD_eq_getElem?_getD, List.getElem?_eq_getElem h1]
    refine sizeN_mem ?_
    unfold lens
    exact List.mem_map.2 ⟨_, List.getElem_mem h1, rfl⟩
  exact ⟨⟨by show _ ≤ (p1 : Int); omega, by show (p1 : Int) ≤ _; omega⟩, by show _ ≤ (p2 : Int); omega, by show (p2 : Int) ≤ _; omega⟩
theorem nextPara_any (F : Nat → Prop) (a : Option Addr) (n c l q : Nat) (t : Nat) (key cnt arg want : Int) (op : Bool) (L : List (List Int)) (w : World) (h : RdL F w a n c L) (hp : okP L (l, q)) (ht : (t : Int) ≤ 9223372036854775807) (ht1 : 1 ≤ t) (hz : sizeN (lens L) ≤ 262144) :
    Calls Try.prog 37 #[askL a n c l q (t : Nat) key cnt arg want op] w fun e w' => e = .returned (.tuple #[plV (stepsP (behindP L 4) t (l, q) (l, q)).1, .bool (movedP (behindP L 4) (l, q))]) ∧ Below w.heap.size w w' := by
  have hL : L ≠ [] := by rintro rfl; exact absurd hp.1 (by simp)
  have HFA := Lib.hid (fun (W : World) (hW : Below w.heap.size w W) => farP_any a n c l q t key cnt arg want op L 58 (behindP L 4) W hp ht ht1 (fun p _ => places_mem.1 (behindP_mem hL _ p)) (fun _ _ => rfl)
    (fun p1 p2 W2 hok hW2 => by
      have := wparan_any F a n c L ⟨(p1 : Nat), (p2 : Nat)⟩ W2 (h.below (btr hW hW2)) (okP_i64z hz hok) hz
      rw [clipP_id hok] at this
      exact this))
  obtain ⟨⟨r1, r2⟩, hr⟩ : ∃ y, (stepsP (behindP L 4) t (l, q) (l, q)).1 = y := ⟨_, rfl⟩
  obtain ⟨mv, hmv⟩ : ∃ b, movedP (behindP L 4) (l, q) = b := ⟨_, rfl⟩
  rw [hr, hmv] at HFA
  rw [hr, hmv]
  unfold plV at HFA
  clear hr hmv h hp hz hL
  obtain ⟨w1, hw1, ha1⟩ := lead_start w (askO a n c l q (t : Nat) key cnt arg want op)
  obtain ⟨x0, x1, x2, x3, x4, x5, x6, x7, x8⟩ := ha1.cells
  obtain ⟨pv0, pv1, pc0, pc1, pz0, pz1⟩ := ha1.pos
  have HW1 := Lib.hid hw1
  have HA1 := Lib.hid ha1
  clear hw1 ha1
  go_enter Try.func37, Try.ntmps37
  go_upto_region 1 with fail
  rw [HW1.out]
  go_wp2_with (go_at_call 51; refine (HFA.out _ HA1.out.1).mono ?_; rintro e w2 ⟨rfl, hb2⟩; have HA2 := Lib.hid (HA1.out.below hb2); obtain ⟨x0, x1, x2, x3, x4, x5, x6, x7, x8⟩ := HA2.out.cells; obtain ⟨pv0, pv1, pc0, pc1, pz0, pz1⟩ := HA2.out.pos)
  refine bodyPost_ret (v := .tuple #[.agg #[.int .i64 ((r1 : Nat)), .int .i64 ((r2 : Nat))], .bool (mv)]) ?_ rfl ⟨rfl, ?_⟩
  · rw [results_ct rfl]
    go_simp
  · exact (HA2.out.store _ _).1
theorem prevPara_any (F : Nat → Prop) (a : Option Addr) (n c l q : Nat) (t : Nat) (key cnt arg want : Int) (op : Bool) (L : List (List Int)) (w : World) (h : RdL F w a n c L) (hp : okP L (l, q)) (ht : (t : Int) ≤ 9223372036854775807) (ht1 : 1 ≤ t) (hz : sizeN (lens L) ≤ 262144) :
    Calls Try.prog 38 #[askL a n c l q (t : Nat) key cnt arg want op] w fun e w' => e = .returned (.tuple #[plV (stepsP (beforeP L 5) t (l, q) (l, q)).1, .bool (movedP (beforeP L 5) (l, q))]) ∧ Below w.heap.size w w' := by
  have hL : L ≠ [] := by rintro rfl; exact absurd hp.1 (by simp)
  have HFA := Lib.hid (fun (W : World) (hW : Below w.heap.size w W) => farP_any a n c l q t key cnt arg want op L 59 (beforeP L 5) W hp ht ht1 (fun p _ => places_mem.1 (beforeP_mem hL _ p)) (fun _ _ => rfl)
    (fun p1 p2 W2 hok hW2 => by
      have := wparap_any F a n c L ⟨(p1 : Nat), (p2 : Nat)⟩ W2 (h.below (btr hW hW2)) (okP_i64z hz hok) hz
      rw [clipP_id hok] at this
      exact this))
  obtain ⟨⟨r1, r2⟩, hr⟩ : ∃ y, (stepsP (beforeP L 5) t (l, q) (l, q)).1 = y := ⟨_, rfl⟩
  obtain ⟨mv, hmv⟩ : ∃ b, movedP (beforeP L 5) (l, q) = b := ⟨_, rfl⟩
  rw [hr, hmv] at HFA
  rw [hr, hmv]
  unfold plV at HFA
  clear hr hmv h hp hz hL
  obtain ⟨w1, hw1, ha1⟩ := lead_start w (askO a n c l q (t : Nat) key cnt arg want op)
  obtain ⟨x0, x1, x2, x3, x4, x5, x6, x7, x8⟩ := ha1.cells
  obtain ⟨pv0, pv1, pc0, pc1, pz0, pz1⟩ := ha1.pos
  have HW1 := Lib.hid hw1
  have HA1 := Lib.hid ha1
  clear hw1 ha1
  go_enter Try.func38, Try.ntmps38
  go_upto_region 1 with fail
  rw [HW1.out]
  go_wp2_with (go_at_call 51; refine (HFA.out _ HA1.out.1).mono ?_; rintro e w2 ⟨rfl, hb2⟩; have HA2 := Lib.hid (HA1.out.below hb2); obtain ⟨x0, x1, x2, x3, x4, x5, x6, x7, x8⟩ := HA2.out.cells; obtain ⟨pv0, pv1, pc0, pc1, pz0, pz1⟩ := HA2.out.pos)
  refine bodyPost_ret (v := .tuple #[.agg #[.int .i64 ((r1 : Nat)), .int .i64 ((r2 : Nat))], .bool (mv)]) ?_ rfl ⟨rfl, ?_⟩
  · rw [results_ct rfl]
    go_simp
  · exact (HA2.out.store _ _).1
theorem nextSent_any (F : Nat → Prop) (a : Option Addr) (n c l q : Nat) (t : Nat) (key cnt arg want : Int) (op : Bool) (L : List (List Int)) (w : World) (h : RdL F w a n c L) (hp : okP L (l, q)) (ht : (t : Int) ≤ 9223372036854775807) (ht1 : 1 ≤ t) (hz : sizeN (lens L) ≤ 262144) :
    Calls Try.prog 39 #[askL a n c l q (t : Nat) key cnt arg want op] w fun e w' => e = .returned (.tuple #[plV (stepsP (behindP L 6) t (l, q) (l, q)).1, .bool (movedP (behindP L 6) (l, q))]) ∧ Below w.heap.size w w' := by
  have hL : L ≠ [] := by rintro rfl; exact absurd hp.1 (by simp)
  have HFA := Lib.hid (fun (W : World) (hW : Below w.heap.size w W) => farP_any a n c l q t key cnt arg want op L 60 (behindP L 6) W hp ht ht1 (fun p _ => places_mem.1 (behindP_mem hL _ p)) (fun _ _ => rfl)
    (fun p1 p2 W2 hok hW2 => by
      have := wsentn_any F a n c L ⟨(p1 : Nat), (p2 : Nat)⟩ W2 (h.below (btr hW hW2)) (okP_i64z hz hok) hz
      rw [clipP_id hok] at this
      exact this))
  obtain ⟨⟨r1, r2⟩, hr⟩ : ∃ y, (stepsP (behindP L 6) t (l, q) (l, q)).1 = y := ⟨_, rfl⟩
  obtain ⟨mv, hmv⟩ : ∃ b, movedP (behindP L 6) (l, q) = b := ⟨_, rfl⟩
  rw [hr, hmv] at HFA
  rw [hr, hmv]
  unfold plV at HFA
  clear hr hmv h hp hz hL
  obtain ⟨w1, hw1, ha1⟩ := lead_start w (askO a n c l q (t : Nat) key cnt arg want op)
  obtain ⟨x0, x1, x2, x3, x4, x5, x6, x7, x8⟩ := ha1.cells
  obtain ⟨pv0, pv1, pc0, pc1, pz0, pz1⟩ := ha1.pos
  have HW1 := Lib.hid hw1
  have HA1 := Lib.hid ha1
  clear hw1 ha1
  go_enter Try.func39, Try.ntmps39
  go_upto_region 1 with fail
  rw [HW1.out]
  go_wp2_with (go_at_call 51; refine (HFA.out _ HA1.out.1).mono ?_; rintro e w2 ⟨rfl, hb2⟩; have HA2 := Lib.hid (HA1.out.below hb2); obtain ⟨x0, x1, x2, x3, x4, x5, x6, x7, x8⟩ := HA2.out.cells; obtain ⟨pv0, pv1, pc0, pc1, pz0, pz1⟩ := HA2.out.pos)
  refine bodyPost_ret (v := .tuple #[.agg #[.int .i64 ((r1 : Nat)), .int .i64 ((r2 : Nat))], .bool (mv)]) ?_ rfl ⟨rfl, ?_⟩
  · rw [results_ct rfl]
    go_simp
  · exact (HA2.out.store _ _).1
theorem prevSent_any (F : Nat → Prop) (a : Option Addr) (n c l q : Nat) (t : Nat) (key cnt arg want : Int) (op : Bool) (L : List (List Int)) (w : World) (h : RdL F w a n c L) (hp : okP L (l, q)) (ht : (t : Int) ≤ 9223372036854775807) (ht1 : 1 ≤ t) (hz : sizeN (lens L) ≤ 262144) :
    Calls Try.prog 40 #[askL a n c l q (t : Nat) key cnt arg want op] w fun e w' => e = .returned (.tuple #[plV (stepsP (beforeP L 6) t (l, q) (l, q)).1, .bool (movedP (beforeP L 6) (l, q))]) ∧ Below w.heap.size w w' := by
  have hL : L ≠ [] := by rintro rfl; exact absurd hp.1 (by simp)
  have HFA := Lib.hid (fun (W : World) (hW : Below w.heap.size w W) => farP_any a n c l q t key cnt arg want op L 61 (beforeP L 6) W hp ht ht1 (fun p _ => places_mem.1 (beforeP_mem hL _ p)) (fun _ _ => rfl)
    (fun p1 p2 W2 hok hW2 => by
      have := wsentp_any F a n c L ⟨(p1 : Nat), (p2 : Nat)⟩ W2 (h.below (btr hW hW2)) (okP_i64z hz hok) hz
      rw [clipP_id hok] at this
      exact this))
  obtain ⟨⟨r1, r2⟩, hr⟩ : ∃ y, (stepsP (beforeP L 6) t (l, q) (l, q)).1 = y := ⟨_, rfl⟩
  obtain ⟨mv, hmv⟩ : ∃ b, movedP (beforeP L 6) (l, q) = b := ⟨_, rfl⟩
  rw [hr, hmv] at HFA
  rw [hr, hmv]
  unfold plV at HFA
  clear hr hmv h hp hz hL
  obtain ⟨w1, hw1, ha1⟩ := lead_start w (askO a n c l q (t : Nat) key cnt arg want op)
  obtain ⟨x0, x1, x2, x3, x4, x5, x6, x7, x8⟩ := ha1.cells
  obtain ⟨pv0, pv1, pc0, pc1, pz0, pz1⟩ := ha1.pos
  have HW1 := Lib.hid hw1
  have HA1 := Lib.hid ha1
  clear hw1 ha1
  go_enter Try.func40, Try.ntmps40
  go_upto_region 1 with fail
  rw [HW1.out]
  go_wp2_with (go_at_call 51; refine (HFA.out _ HA1.out.1).mono ?_; rintro e w2 ⟨rfl, hb2⟩; have HA2 := Lib.hid (HA1.out.below hb2); obtain ⟨x0, x1, x2, x3, x4, x5, x6, x7, x8⟩ := HA2.out.cells; obtain ⟨pv0, pv1, pc0, pc1, pz0, pz1⟩ := HA2.out.pos)
  refine bodyPost_ret (v := .tuple #[.agg #[.int .i64 ((r1 : Nat)), .int .i64 ((r2 : Nat))], .bool (mv)]) ?_ rfl ⟨rfl, ?_⟩
  · rw [results_ct rfl]
    go_simp
  · exact (HA2.out.store _ _).1
set_option maxHeartbeats 1000000 in
theorem prevWord_any (F : Nat → Prop) (a : Option Addr) (n c l q : Nat) (t : Nat) (key cnt arg want : Int) (op : Bool) (L : List (List Int)) (w : World) (h : RdL F w a n c L) (hp : okP L (l, q)) (ht : (t : Int) ≤ 9223372036854775807) (ht1 : 1 ≤ t) (hz : sizeN (lens L) ≤ 262144) (big : Bool) (hk : decide (key < 97) = big) :
    Calls Try.prog 30 #[askL a n c l q (t : Nat) key cnt arg want op] w fun e w' => e = .returned (.tuple #[plV (stepsP (beforeP L (if big then 1 else 0)) t (l, q) (l, q)).1, .bool (movedP (beforeP L (if big then 1 else 0)) (l, q))]) ∧ Below w.heap.size w w' := by
  have hL : L ≠ [] := by rintro rfl; exact absurd hp.1 (by simp)
  have HWO := Lib.hid (fun (W : World) => words_any a n c l q t key cnt arg want op 52 big W hk)
  have HFA : Hid (∀ (b1 b2 : Nat) (t1 t2 : TypeId) (W : World), Below w.heap.size w W → W.heap[b1]? = some (.cells #[.func (.func 52) #[] #[]] t1 (0, 0)) → W.heap[b2]? = some (.cells #[.bool big] t2 (0, 0)) →
      Calls Try.prog 51 #[askL a n c l q (t : Nat) key cnt arg want op, .func (.func 63) #[] #[.pointer (some ⟨b1, 0, none⟩), .pointer (some ⟨b2, 0, none⟩)]] W fun e w' => e = .returned (.tuple #[plV (stepsP (beforeP L (if big then 1 else 0)) t (l, q) (l, q)).1, .bool (movedP (beforeP L (if big then 1 else 0)) (l, q))]) ∧ Below W.heap.size W w') := by
    intro b1 b2 t1 t2 W hW h1 h2
    refine farB_any a n c l q t key cnt arg want op L 63 b1 b2 (beforeP L (if big then 1 else 0)) W hp ht ht1 (fun p _ => places_mem.1 (beforeP_mem hL _ p)) (fun _ _ => rfl) (fun p1 p2 W2 hok hW2 => ?_)
    have hcl := fun (W3 : World) (hW3 : Below W2.heap.size W2 W3) => wprev_any F a n c L ⟨(p1 : Nat), (p2 : Nat)⟩ big W3 (h.below (btr (btr hW hW2) hW3)) (okP_i64z hz hok) hz
    rw [clipP_id hok] at hcl
    obtain ⟨⟨r1, r2⟩, hr⟩ : ∃ y, (beforeP L (if big then 1 else 0)) (p1, p2) = y := ⟨_, rfl⟩
    rw [hr] at hcl ⊢
    exact words1_any a n c 52 big p1 p2 r1 r2 b1 b2 t1 t2 W2 ((hW2.block _ (Array.getElem?_eq_some_iff.1 h1).1).trans h1) ((hW2.block _ (Array.getElem?_eq_some_iff.1 h2).1).trans h2) (fun _ _ => rfl) hcl
  obtain ⟨⟨r1, r2⟩, hr⟩ : ∃ y, (stepsP (beforeP L (if big then 1 else 0)) t (l, q) (l, q)).1 = y := ⟨_, rfl⟩
  obtain ⟨mv, hmv⟩ : ∃ b, movedP (beforeP L (if big then 1 else 0)) (l, q) = b := ⟨_, rfl⟩
  rw [hr, hmv] at HFA
  rw [hr, hmv]
  unfold plV at HFA
  clear hr hmv h hp hz hL hk
  obtain ⟨w1, hw1, ha1⟩ := lead_start w (askO a n c l q (t : Nat) key cnt arg want op)
  have HW1 := Lib.hid hw1
  have HA1 := Lib.hid ha1
  clear hw1 ha1
  go_enter Try.func30, Try.ntmps30
  go_upto_region 1 with fail
  rw [HW1.out]
  refine wp_region_held (S := AkS w (askO a n c l q (t : Nat) key cnt arg want op)) (by kernel_rfl) ?_
  change wpAnyH _ _ _ _ _ _ _ _ (World.drew _)
  have hHeld : (AkS w (askO a n c l q (t : Nat) key cnt arg want op)) (World.drew w1) := HA1.out.drew
  refine takeH 0 (some 4) (v := ?_) rfl rfl (by kernel_rfl) (by kernel_rfl) (by kernel_rfl) (fun _ _ _ h => h) (Or.inl ⟨by kernel_rfl, ?_⟩) hHeld ?_
  rotate_left
  · intro w' hSw
    obtain ⟨s0, s1, s2, s3, s4, s5, s6, s7, s8⟩ := hSw.cells
    go_simp
    try with_reducible rfl
  (try simp only [Act.put, List.setIfInBounds_toArray, List.set_cons_zero, List.set_cons_succ])
  refine takeH 1 (some 5) (v := ?_) rfl rfl (by kernel_rfl) (by kernel_rfl) (by kernel_rfl) (fun _ _ _ h => h) (Or.inl ⟨by kernel_rfl, ?_⟩) hHeld ?_
  rotate_left
  · intro w' hSw
    obtain ⟨s0, s1, s2, s3, s4, s5, s6, s7, s8⟩ := hSw.cells
    go_simp
    try with_reducible rfl
  (try simp only [Act.put, List.setIfInBounds_toArray, List.set_cons_zero, List.set_cons_succ])
  refine callH 2 (some 6) (f := 49) (args := ?_) rfl rfl (by kernel_rfl) (by kernel_rfl) ?_ ?_
  rotate_left
  · go_simp
    try with_reducible rfl
  refine (HWO.out _).mono ?_
  rintro e w2 ⟨b1, b2, t1, t2, rfl, hb2, hx1, hx2⟩
  have hHeld1 := hHeld.below hb2
  refine ⟨_, rfl, hHeld1, ?_⟩
  (try simp only [Act.put, List.setIfInBounds_toArray, List.set_cons_zero, List.set_cons_succ])
  refine callH 3 (some 7) (f := 51) (args := ?_) rfl rfl (by kernel_rfl) (by kernel_rfl) ?_ ?_
  rotate_left
  · go_simp
    try with_reducible rfl
  refine (HFA.out b1 b2 t1 t2 _ hHeld1.1 hx1 hx2).mono ?_
  rintro e w3 ⟨rfl, hb3⟩
  have hHeld2 := hHeld1.below hb3
  refine ⟨_, rfl, hHeld2, ?_⟩
  (try simp only [Act.put, List.setIfInBounds_toArray, List.set_cons_zero, List.set_cons_succ])
  refine takeH 4 (some 8) (v := ?_) rfl rfl (by kernel_rfl) (by kernel_rfl) (by kernel_rfl) (fun _ _ _ h => h) (Or.inl ⟨by kernel_rfl, ?_⟩) hHeld2 ?_
  rotate_left
  · intro w' hSw
    obtain ⟨s0, s1, s2, s3, s4, s5, s6, s7, s8⟩ := hSw.cells
    go_simp
    try with_reducible rfl
  (try simp only [Act.put, List.setIfInBounds_toArray, List.set_cons_zero, List.set_cons_succ])
  refine takeH 5 (some 9) (v := ?_) rfl rfl (by kernel_rfl) (by kernel_rfl) (by kernel_rfl) (fun _ _ _ h => h) (Or.inl ⟨by kernel_rfl, ?_⟩) hHeld2 ?_
  rotate_left
  · intro w' hSw
    obtain ⟨s0, s1, s2, s3, s4, s5, s6, s7, s8⟩ := hSw.cells
    go_simp
    try with_reducible rfl
  (try simp only [Act.put, List.setIfInBounds_toArray, List.set_cons_zero, List.set_cons_succ])
  obtain ⟨pv0, pv1, pc0, pc1, pz0, pz1⟩ := hHeld2.pos
  have hHeld3 : (AkS w (askO a n c l q (t : Nat) key cnt arg want op)) ((w3.setCell ⟨w.heap.size + 1, 0, none⟩ (.int .i64 ((r1 : Nat)))).setCell ⟨w.heap.size + 1, 1, none⟩ (.int .i64 ((r2 : Nat)))) := hHeld2.store _ _
  refine storeH 6 (w' := (w3.setCell ⟨w.heap.size + 1, 0, none⟩ (.int .i64 ((r1 : Nat)))).setCell ⟨w.heap.size + 1, 1, none⟩ (.int .i64 ((r2 : Nat)))) rfl rfl (by kernel_rfl) (by kernel_rfl) ?_ hHeld3 ?_
  · go_simp
    try rfl
  (try simp only [Act.put, List.setIfInBounds_toArray, List.set_cons_zero, List.set_cons_succ])
  refine takeH 7 (some 3) (v := ?_) rfl rfl (by kernel_rfl) (by kernel_rfl) (by kernel_rfl) (fun _ _ _ h => h) (Or.inl ⟨by kernel_rfl, ?_⟩) hHeld3 ?_
  rotate_left
  · intro w' hSw
    obtain ⟨s0, s1, s2, s3, s4, s5, s6, s7, s8⟩ := hSw.cells
    go_simp
    try with_reducible rfl
  (try simp only [Act.put, List.setIfInBounds_toArray, List.set_cons_zero, List.set_cons_succ])
  refine wpAnyH_done (by kernel_rfl) ?_ _
  go_wp2_with fail
  refine bodyPost_ret (v := .tuple #[.agg #[.int .i64 ((r1 : Nat)), .int .i64 ((r2 : Nat))], .bool (mv)]) ?_ rfl ⟨rfl, ?_⟩
  · rw [results_ct rfl]
    go_simp
  · exact hHeld3.1
set_option maxHeartbeats 1000000 in
theorem endOfWord_any (F : Nat → Prop) (a : Option Addr) (n c l q : Nat) (t : Nat) (key cnt arg want : Int) (op : Bool) (L : List (List Int)) (w : World) (h : RdL F w a n c L) (hp : okP L (l, q)) (ht : (t : Int) ≤ 9223372036854775807) (ht1 : 1 ≤ t) (hz : sizeN (lens L) ≤ 262144) (big : Bool) (hk : decide (key < 97) = big) :
    Calls Try.prog 31 #[askL a n c l q (t : Nat) key cnt arg want op] w fun e w' => e = .returned (.tuple #[plV (stepsP (behindP L (if big then 3 else 2)) t (l, q) (l, q)).1, .bool (movedP (behindP L (if big then 3 else 2)) (l, q))]) ∧ Below w.heap.size w w' := by
  have hL : L ≠ [] := by rintro rfl; exact absurd hp.1 (by simp)
  have HWO := Lib.hid (fun (W : World) => words_any a n c l q t key cnt arg want op 53 big W hk)
  have HFA : Hid (∀ (b1 b2 : Nat) (t1 t2 : TypeId) (W : World), Below w.heap.size w W → W.heap[b1]? = some (.cells #[.func (.func 53) #[] #[]] t1 (0, 0)) → W.heap[b2]? = some (.cells #[.bool big] t2 (0, 0)) →
      Calls Try.prog 51 #[askL a n c l q (t : Nat) key cnt arg want op, .func (.func 63) #[] #[.pointer (some ⟨b1, 0, none⟩), .pointer (some ⟨b2, 0, none⟩)]] W fun e w' => e = .returned (.tuple #[plV (stepsP (behindP L (if big then 3 else 2)) t (l, q) (l, q)).1, .bool (movedP (behindP L (if big then 3 else 2)) (l, q))]) ∧ Below W.heap.size W w') := by
    intro b1 b2 t1 t2 W hW h1 h2
    refine farB_any a n c l q t key cnt arg want op L 63 b1 b2 (behindP L (if big then 3 else 2)) W hp ht ht1 (fun p _ => places_mem.1 (behindP_mem hL _ p)) (fun _ _ => rfl) (fun p1 p2 W2 hok hW2 => ?_)
    have hcl := fun (W3 : World) (hW3 : Below W2.heap.size W2 W3) => wend_any F a n c L ⟨(p1 : Nat), (p2 : Nat)⟩ big W3 (h.below (btr (btr hW hW2) hW3)) (okP_i64z hz hok) hz
    rw [clipP_id hok] at hcl
    obtain ⟨⟨r1, r2⟩, hr⟩ : ∃ y, (behindP L (if big then 3 else 2)) (p1, p2) = y := ⟨_, rfl⟩
    rw [hr] at hcl ⊢
    exact words1_any a n c 53 big p1 p2 r1 r2 b1 b2 t1 t2 W2 ((hW2.block _ (Array.getElem?_eq_some_iff.1 h1).1).trans h1) ((hW2.block _ (Array.getElem?_eq_some_iff.1 h2).1).trans h2) (fun _ _ => rfl) hcl
  obtain ⟨⟨r1, r2⟩, hr⟩ : ∃ y, (stepsP (behindP L (if big then 3 else 2)) t (l, q) (l, q)).1 = y := ⟨_, rfl⟩
  obtain ⟨mv, hmv⟩ : ∃ b, movedP (behindP L (if big then 3 else 2)) (l, q) = b := ⟨_, rfl⟩
  rw [hr, hmv] at HFA
  rw [hr, hmv]
  unfold plV at HFA
  clear hr hmv h hp hz hL hk
  obtain ⟨w1, hw1, ha1⟩ := lead_start w (askO a n c l q (t : Nat) key cnt arg want op)
  have HW1 := Lib.hid hw1
  have HA1 := Lib.hid ha1
  clear hw1 ha1
  go_enter Try.func31, Try.ntmps31
  go_upto_region 1 with fail
  rw [HW1.out]
  refine wp_region_held (S := AkS w (askO a n c l q (t : Nat) key cnt arg want op)) (by kernel_rfl) ?_
  change wpAnyH _ _ _ _ _ _ _ _ (World.drew _)
  have hHeld : (AkS w (askO a n c l q (t : Nat) key cnt arg want op)) (World.drew w1) := HA1.out.drew
  refine takeH 0 (some 4) (v := ?_) rfl rfl (by kernel_rfl) (by kernel_rfl) (by kernel_rfl) (fun _ _ _ h => h) (Or.inl ⟨by kernel_rfl, ?_⟩) hHeld ?_
  rotate_left
  · intro w' hSw
    obtain ⟨s0, s1, s2, s3, s4, s5, s6, s7, s8⟩ := hSw.cells
    go_simp
    try with_reducible rfl
  (try simp only [Act.put, List.setIfInBounds_toArray, List.set_cons_zero, List.set_cons_succ])
  refine takeH 1 (some 5) (v := ?_) rfl rfl (by kernel_rfl) (by kernel_rfl) (by kernel_rfl) (fun _ _ _ h => h) (Or.inl ⟨by kernel_rfl, ?_⟩) hHeld ?_
  rotate_left
  · intro w' hSw
    obtain ⟨s0, s1, s2, s3, s4, s5, s6, s7, s8⟩ := hSw.cells
    go_simp
    try with_reducible rfl
  (try simp only [Act.put, List.setIfInBounds_toArray, List.set_cons_zero, List.set_cons_succ])
  refine callH 2 (some 6) (f := 49) (args := ?_) rfl rfl (by kernel_rfl) (by kernel_rfl) ?_ ?_
  rotate_left
  · go_simp
    try with_reducible rfl
  refine (HWO.out _).mono ?_
  rintro e w2 ⟨b1, b2, t1, t2, rfl, hb2, hx1, hx2⟩
  have hHeld1 := hHeld.below hb2
  refine ⟨_, rfl, hHeld1, ?_⟩
  (try simp only [Act.put, List.setIfInBounds_toArray, List.set_cons_zero, List.set_cons_succ])
  refine callH 3 (some 7) (f := 51) (args := ?_) rfl rfl (by kernel_rfl) (by kernel_rfl) ?_ ?_
  rotate_left
  · go_simp
    try with_reducible rfl
  refine (HFA.out b1 b2 t1 t2 _ hHeld1.1 hx1 hx2).mono ?_
  rintro e w3 ⟨rfl, hb3⟩
  have hHeld2 := hHeld1.below hb3
  refine ⟨_, rfl, hHeld2, ?_⟩
  (try simp only [Act.put, List.setIfInBounds_toArray, List.set_cons_zero, List.set_cons_succ])
  refine takeH 4 (some 8) (v := ?_) rfl rfl (by kernel_rfl) (by kernel_rfl) (by kernel_rfl) (fun _ _ _ h => h) (Or.inl ⟨by kernel_rfl, ?_⟩) hHeld2 ?_
  rotate_left
  · intro w' hSw
    obtain ⟨s0, s1, s2, s3, s4, s5, s6, s7, s8⟩ := hSw.cells
    go_simp
    try with_reducible rfl
  (try simp only [Act.put, List.setIfInBounds_toArray, List.set_cons_zero, List.set_cons_succ])
  refine takeH 5 (some 9) (v := ?_) rfl rfl (by kernel_rfl) (by kernel_rfl) (by kernel_rfl) (fun _ _ _ h => h) (Or.inl ⟨by kernel_rfl, ?_⟩) hHeld2 ?_
  rotate_left
  · intro w' hSw
    obtain ⟨s0, s1, s2, s3, s4, s5, s6, s7, s8⟩ := hSw.cells
    go_simp
    try with_reducible rfl
  (try simp only [Act.put, List.setIfInBounds_toArray, List.set_cons_zero, List.set_cons_succ])
  obtain ⟨pv0, pv1, pc0, pc1, pz0, pz1⟩ := hHeld2.pos
  have hHeld3 : (AkS w (askO a n c l q (t : Nat) key cnt arg want op)) ((w3.setCell ⟨w.heap.size + 1, 0, none⟩ (.int .i64 ((r1 : Nat)))).setCell ⟨w.heap.size + 1, 1, none⟩ (.int .i64 ((r2 : Nat)))) := hHeld2.store _ _
  refine storeH 6 (w' := (w3.setCell ⟨w.heap.size + 1, 0, none⟩ (.int .i64 ((r1 : Nat)))).setCell ⟨w.heap.size + 1, 1, none⟩ (.int .i64 ((r2 : Nat)))) rfl rfl (by kernel_rfl) (by kernel_rfl) ?_ hHeld3 ?_
  · go_simp
    try rfl
  (try simp only [Act.put, List.setIfInBounds_toArray, List.set_cons_zero, List.set_cons_succ])
  refine takeH 7 (some 3) (v := ?_) rfl rfl (by kernel_rfl) (by kernel_rfl) (by kernel_rfl) (fun _ _ _ h => h) (Or.inl ⟨by kernel_rfl, ?_⟩) hHeld3 ?_
  rotate_left
  · intro w' hSw
    obtain ⟨s0, s1, s2, s3, s4, s5, s6, s7, s8⟩ := hSw.cells
    go_simp
    try with_reducible rfl
  (try simp only [Act.put, List.setIfInBounds_toArray, List.set_cons_zero, List.set_cons_succ])
  refine wpAnyH_done (by kernel_rfl) ?_ _
  go_wp2_with fail
  refine bodyPost_ret (v := .tuple #[.agg #[.int .i64 ((r1 : Nat)), .int .i64 ((r2 : Nat))], .bool (mv)]) ?_ rfl ⟨rfl, ?_⟩
  · rw [results_ct rfl]
    go_simp
  · exact hHeld3.1
end Go.Proofs.Ytikdojebnbmpoaa.U
