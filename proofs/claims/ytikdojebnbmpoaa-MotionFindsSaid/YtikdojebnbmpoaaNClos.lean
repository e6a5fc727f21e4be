/-
  What Next, Prev, End, ParaNext, ParaPrev, SentNext, SentPrev ask of each place: their closures. (MADE by wip/tools/gen_clos.py.)
-/
import Derived.Test.YtikdojebnbmpoaaNKinds
import Derived.Test.YtikdojebnbmpoaaNSentP
namespace Go.Proofs.Ytikdojebnbmpoaa.U
open Go.RowKit
set_option linter.unusedVariables false
set_option linter.unusedSimpArgs false
set_option maxRecDepth 100000
theorem isK4 (L : List (List Int)) (p : Pl) : isK L 4 p = (decide ((lnL L p.1).length = 0) && decide (0 < p.1) && decide (0 < (lnL L (p.1 - 1)).length)) := by
  unfold isK
  rw [if_neg (by decide), if_neg (by decide), if_pos rfl]
theorem isK5 (L : List (List Int)) (p : Pl) : isK L 5 p = (decide ((lnL L p.1).length = 0) && decide (p.1 + 1 < L.length) && decide (0 < (lnL L (p.1 + 1)).length)) := by
  unfold isK
  rw [if_neg (by decide), if_neg (by decide), if_neg (by decide), if_pos rfl]
theorem cnext (F : Nat → Prop) (a : Option Addr) (n c : Nat) (L : List (List Int)) (p : Pl) (big : Bool) (lb bb : Nat) (w : World) (h : RdL F w a n c L) (hp : okP L p) (hLb : w.cell? ⟨lb, 0, none⟩ = some (.slice a n c)) (hBg : w.cell? ⟨bb, 0, none⟩ = some (.bool big)) :
    Calls Try.prog 65 #[plV p, .pointer (some ⟨lb, 0, none⟩), .pointer (some ⟨bb, 0, none⟩)] w fun e w' => e = .returned (.bool (begins big (lnL L p.1) p.2)) ∧ Below w.heap.size w w' := by
  obtain ⟨w1, hw1⟩ : ∃ w1, w.alloc (.cells #[.int .i64 (p.1 : Nat), .int .i64 (p.2 : Nat)] 24) = w1 := ⟨_, rfl⟩
  have hb1 : Below w.heap.size w w1 := by rw [← hw1]; exact bal _ _
  have g1 : w1.heap[w.heap.size]? = some (.cells #[.int .i64 (p.1 : Nat), .int .i64 (p.2 : Nat)] 24 (0, 0)) := by rw [← hw1]; exact heap_alloc_new w _
  obtain ⟨a0, a1, z0, z1⟩ := row2 g1
  have HC := Lib.hid (wbegins_any F a n c L p big w1 (h.below hb1) hp)
  have l1 := (hb1.cell (p := ⟨lb, 0, none⟩) (block_lt_of_cell hLb)).trans hLb
  have l2 := (hb1.cell (p := ⟨bb, 0, none⟩) (block_lt_of_cell hBg)).trans hBg
  obtain ⟨r, hr⟩ : ∃ r, (begins big (lnL L p.1) p.2) = r := ⟨_, rfl⟩
  rw [hr] at HC ⊢
  have HW1 := Lib.hid hw1
  have HB1 := Lib.hid hb1
  obtain ⟨i, j⟩ := p
  unfold plV at HC ⊢
  simp only at a0 a1 HC hw1 HW1 ⊢
  clear hr hw1 hb1 g1 h hp hLb hBg
  go_enter Try.func65, Try.ntmps65
  go_upto_region 1 with fail
  rw [HW1.out]
  go_wp2_with (go_at_call 66; refine HC.out.mono ?_; rintro e w' ⟨rfl, hb2⟩)
  go_ret
  exact ⟨rfl, btr HB1.out hb2⟩
theorem cprev (F : Nat → Prop) (a : Option Addr) (n c : Nat) (L : List (List Int)) (p : Pl) (big : Bool) (lb bb : Nat) (w : World) (h : RdL F w a n c L) (hp : okP L p) (hLb : w.cell? ⟨lb, 0, none⟩ = some (.slice a n c)) (hBg : w.cell? ⟨bb, 0, none⟩ = some (.bool big)) :
    Calls Try.prog 68 #[plV p, .pointer (some ⟨lb, 0, none⟩), .pointer (some ⟨bb, 0, none⟩)] w fun e w' => e = .returned (.bool (begins big (lnL L p.1) p.2)) ∧ Below w.heap.size w w' := by
  obtain ⟨w1, hw1⟩ : ∃ w1, w.alloc (.cells #[.int .i64 (p.1 : Nat), .int .i64 (p.2 : Nat)] 24) = w1 := ⟨_, rfl⟩
  have hb1 : Below w.heap.size w w1 := by rw [← hw1]; exact bal _ _
  have g1 : w1.heap[w.heap.size]? = some (.cells #[.int .i64 (p.1 : Nat), .int .i64 (p.2 : Nat)] 24 (0, 0)) := by rw [← hw1]; exact heap_alloc_new w _
  obtain ⟨a0, a1, z0, z1⟩ := row2 g1
  have HC := Lib.hid (wbegins_any F a n c L p big w1 (h.below hb1) hp)
  have l1 := (hb1.cell (p := ⟨lb, 0, none⟩) (block_lt_of_cell hLb)).trans hLb
  have l2 := (hb1.cell (p := ⟨bb, 0, none⟩) (block_lt_of_cell hBg)).trans hBg
  obtain ⟨r, hr⟩ : ∃ r, (begins big (lnL L p.1) p.2) = r := ⟨_, rfl⟩
  rw [hr] at HC ⊢
  have HW1 := Lib.hid hw1
  have HB1 := Lib.hid hb1
  obtain ⟨i, j⟩ := p
  unfold plV at HC ⊢
  simp only at a0 a1 HC hw1 HW1 ⊢
  clear hr hw1 hb1 g1 h hp hLb hBg
  go_enter Try.func68, Try.ntmps68
  go_upto_region 1 with fail
  rw [HW1.out]
  go_wp2_with (go_at_call 66; refine HC.out.mono ?_; rintro e w' ⟨rfl, hb2⟩)
  go_ret
  exact ⟨rfl, btr HB1.out hb2⟩
theorem cend (F : Nat → Prop) (a : Option Addr) (n c : Nat) (L : List (List Int)) (p : Pl) (big : Bool) (lb bb : Nat) (w : World) (h : RdL F w a n c L) (hp : okP L p) (hLb : w.cell? ⟨lb, 0, none⟩ = some (.slice a n c)) (hBg : w.cell? ⟨bb, 0, none⟩ = some (.bool big)) :
    Calls Try.prog 69 #[plV p, .pointer (some ⟨lb, 0, none⟩), .pointer (some ⟨bb, 0, none⟩)] w fun e w' => e = .returned (.bool (ends big (lnL L p.1) p.2)) ∧ Below w.heap.size w w' := by
  obtain ⟨w1, hw1⟩ : ∃ w1, w.alloc (.cells #[.int .i64 (p.1 : Nat), .int .i64 (p.2 : Nat)] 24) = w1 := ⟨_, rfl⟩
  have hb1 : Below w.heap.size w w1 := by rw [← hw1]; exact bal _ _
  have g1 : w1.heap[w.heap.size]? = some (.cells #[.int .i64 (p.1 : Nat), .int .i64 (p.2 : Nat)] 24 (0, 0)) := by rw [← hw1]; exact heap_alloc_new w _
  obtain ⟨a0, a1, z0, z1⟩ := row2 g1
  have HC := Lib.hid (wends_any F a n c L p big w1 (h.below hb1) hp)
  have l1 := (hb1.cell (p := ⟨lb, 0, none⟩) (block_lt_of_cell hLb)).trans hLb
  have l2 := (hb1.cell (p := ⟨bb, 0, none⟩) (block_lt_of_cell hBg)).trans hBg
  obtain ⟨r, hr⟩ : ∃ r, (ends big (lnL L p.1) p.2) = r := ⟨_, rfl⟩
  rw [hr] at HC ⊢
  have HW1 := Lib.hid hw1
  have HB1 := Lib.hid hb1
  obtain ⟨i, j⟩ := p
  unfold plV at HC ⊢
  simp only at a0 a1 HC hw1 HW1 ⊢
  clear hr hw1 hb1 g1 h hp hLb hBg
  go_enter Try.func69, Try.ntmps69
  go_upto_region 1 with fail
  rw [HW1.out]
  go_wp2_with (go_at_call 70; refine HC.out.mono ?_; rintro e w' ⟨rfl, hb2⟩)
  go_ret
  exact ⟨rfl, btr HB1.out hb2⟩
theorem csentn (F : Nat → Prop) (a : Option Addr) (n c : Nat) (L : List (List Int)) (p : Pl) (lb : Nat) (w : World) (h : RdL F w a n c L) (hp : okP L p) (hLb : w.cell? ⟨lb, 0, none⟩ = some (.slice a n c)) :
    Calls Try.prog 75 #[plV p, .pointer (some ⟨lb, 0, none⟩)] w fun e w' => e = .returned (.bool (sentB L p.1 p.2)) ∧ Below w.heap.size w w' := by
  obtain ⟨w1, hw1⟩ : ∃ w1, w.alloc (.cells #[.int .i64 (p.1 : Nat), .int .i64 (p.2 : Nat)] 24) = w1 := ⟨_, rfl⟩
  have hb1 : Below w.heap.size w w1 := by rw [← hw1]; exact bal _ _
  have g1 : w1.heap[w.heap.size]? = some (.cells #[.int .i64 (p.1 : Nat), .int .i64 (p.2 : Nat)] 24 (0, 0)) := by rw [← hw1]; exact heap_alloc_new w _
  obtain ⟨a0, a1, z0, z1⟩ := row2 g1
  have HC := Lib.hid (wsent_any F a n c L p w1 (h.below hb1) hp)
  have l1 := (hb1.cell (p := ⟨lb, 0, none⟩) (block_lt_of_cell hLb)).trans hLb
  obtain ⟨r, hr⟩ : ∃ r, (sentB L p.1 p.2) = r := ⟨_, rfl⟩
  rw [hr] at HC ⊢
  have HW1 := Lib.hid hw1
  have HB1 := Lib.hid hb1
  obtain ⟨i, j⟩ := p
  unfold plV at HC ⊢
  simp only at a0 a1 HC hw1 HW1 ⊢
  clear hr hw1 hb1 g1 h hp hLb
  go_enter Try.func75, Try.ntmps75
  go_upto_region 1 with fail
  rw [HW1.out]
  go_wp2_with (go_at_call 76; refine HC.out.mono ?_; rintro e w' ⟨rfl, hb2⟩)
  go_ret
  exact ⟨rfl, btr HB1.out hb2⟩
theorem csentp (F : Nat → Prop) (a : Option Addr) (n c : Nat) (L : List (List Int)) (p : Pl) (lb : Nat) (w : World) (h : RdL F w a n c L) (hp : okP L p) (hLb : w.cell? ⟨lb, 0, none⟩ = some (.slice a n c)) :
    Calls Try.prog 77 #[plV p, .pointer (some ⟨lb, 0, none⟩)] w fun e w' => e = .returned (.bool (sentB L p.1 p.2)) ∧ Below w.heap.size w w' := by
  obtain ⟨w1, hw1⟩ : ∃ w1, w.alloc (.cells #[.int .i64 (p.1 : Nat), .int .i64 (p.2 : Nat)] 24) = w1 := ⟨_, rfl⟩
  have hb1 : Below w.heap.size w w1 := by rw [← hw1]; exact bal _ _
  have g1 : w1.heap[w.heap.size]? = some (.cells #[.int .i64 (p.1 : Nat), .int .i64 (p.2 : Nat)] 24 (0, 0)) := by rw [← hw1]; exact heap_alloc_new w _
  obtain ⟨a0, a1, z0, z1⟩ := row2 g1
  have HC := Lib.hid (wsent_any F a n c L p w1 (h.below hb1) hp)
  have l1 := (hb1.cell (p := ⟨lb, 0, none⟩) (block_lt_of_cell hLb)).trans hLb
  obtain ⟨r, hr⟩ : ∃ r, (sentB L p.1 p.2) = r := ⟨_, rfl⟩
  rw [hr] at HC ⊢
  have HW1 := Lib.hid hw1
  have HB1 := Lib.hid hb1
  obtain ⟨i, j⟩ := p
  unfold plV at HC ⊢
  simp only at a0 a1 HC hw1 HW1 ⊢
  clear hr hw1 hb1 g1 h hp hLb
  go_enter Try.func77, Try.ntmps77
  go_upto_region 1 with fail
  rw [HW1.out]
  go_wp2_with (go_at_call 76; refine HC.out.mono ?_; rintro e w' ⟨rfl, hb2⟩)
  go_ret
  exact ⟨rfl, btr HB1.out hb2⟩
set_option maxHeartbeats 600000 in
theorem cparan (F : Nat → Prop) (a : Option Addr) (n c : Nat) (L : List (List Int)) (p : Pl) (lb : Nat) (w : World) (h : RdL F w a n c L) (hp : okP L p) (hpl : (lnL L p.1).length = 0 → 0 < p.1) (hLb : w.cell? ⟨lb, 0, none⟩ = some (.slice a n c)) :
    Calls Try.prog 72 #[plV p, .pointer (some ⟨lb, 0, none⟩)] w fun e w' => e = .returned (.bool (isK L 4 p)) ∧ Below w.heap.size w w' := by
  have hl := h.len
  have hsm := h.small
  obtain ⟨w1, hw1⟩ : ∃ w1, w.alloc (.cells #[.int .i64 (p.1 : Nat), .int .i64 (p.2 : Nat)] 24) = w1 := ⟨_, rfl⟩
  have hb1 : Below w.heap.size w w1 := by rw [← hw1]; exact bal _ _
  have g1 : w1.heap[w.heap.size]? = some (.cells #[.int .i64 (p.1 : Nat), .int .i64 (p.2 : Nat)] 24 (0, 0)) := by rw [← hw1]; exact heap_alloc_new w _
  obtain ⟨a0, a1, z0, z1⟩ := row2 g1
  have HE := Lib.hid (fun (k : Nat) (hk : k < n) => wempty_eq F a n c L k w1 (h.below hb1) hk)
  have l1 := (hb1.cell (p := ⟨lb, 0, none⟩) (block_lt_of_cell hLb)).trans hLb
  obtain ⟨r, hr⟩ : ∃ r, isK L 4 p = r := ⟨_, rfl⟩
  rw [hr]
  have HW1 := Lib.hid hw1
  have HB1 := Lib.hid hb1
  have hpn := hp.1
  obtain ⟨i, j⟩ := p
  unfold plV
  rw [isK4] at hr
  simp only at a0 a1 hw1 HW1 hpn hpl hr ⊢
  have HEi := Lib.hid (HE.out i (by omega))
  clear hw1 hb1 g1 h hp hLb
  by_cases h0 : (lnL L i).length = 0
  · have hd : decide ((lnL L i).length = 0) = true := by simp [h0]
    have hpl := hpl h0
    rw [hd] at HEi
    obtain ⟨i1, hi1⟩ : ∃ i1, i - 1 = i1 := ⟨_, rfl⟩
    have s1 : (i : Int) - 1 = (i1 : Int) := by omega
    have hin : i < n := by omega
    have hi1n : i1 < n := by omega
    have hi0 : 0 < i := hpl
    have HE1 := Lib.hid (HE.out i1 (by omega))
    have hr : r = !(decide ((lnL L i1).length = 0)) := by
      rw [← hr, hi1, hd]
      have h1 : decide (0 < i) = true := by simp; omega
      rw [h1]
      by_cases hz : (lnL L i1).length = 0
      · simp [hz]
      · have : 0 < (lnL L i1).length := by omega
        simp [hz, this]
    obtain ⟨d, hdd⟩ : ∃ d, decide ((lnL L i1).length = 0) = d := ⟨_, rfl⟩
    rw [hdd] at HE1 hr
    subst hr
    clear hdd hi1 HE hd h0 hl hpl
    have tok : True := trivial
    go_enter Try.func72, Try.ntmps72
    go_upto_region 1 with fail
    rw [HW1.out]
    go_wp2_with (first
      | (go_at_call 73; have _t := tok; refine HEi.out.mono ?_; clear tok _t; rintro e w' ⟨rfl, hw⟩; subst hw)
      | (go_at_call 73; refine HE1.out.mono ?_; rintro e w' ⟨rfl, hw⟩; subst hw))
    go_ret
    exact ⟨rfl, HB1.out⟩
  · have hd : decide ((lnL L i).length = 0) = false := by simp [h0]
    rw [hd] at HEi hr
    have hr : r = false := by rw [← hr]; rfl
    subst hr
    clear HE hd h0 hl hpl
    go_enter Try.func72, Try.ntmps72
    go_upto_region 1 with fail
    rw [HW1.out]
    go_wp2_with (go_at_call 73; refine HEi.out.mono ?_; rintro e w' ⟨rfl, hw⟩; subst hw)
    go_ret
    exact ⟨rfl, HB1.out⟩
set_option maxHeartbeats 600000 in
theorem cparap (F : Nat → Prop) (a : Option Addr) (n c : Nat) (L : List (List Int)) (p : Pl) (lb : Nat) (w : World) (h : RdL F w a n c L) (hp : okP L p) (hpl : (lnL L p.1).length = 0 → p.1 + 1 < L.length) (hLb : w.cell? ⟨lb, 0, none⟩ = some (.slice a n c)) :
    Calls Try.prog 74 #[plV p, .pointer (some ⟨lb, 0, none⟩)] w fun e w' => e = .returned (.bool (isK L 5 p)) ∧ Below w.heap.size w w' := by
  have hl := h.len
  have hsm := h.small
  obtain ⟨w1, hw1⟩ : ∃ w1, w.alloc (.cells #[.int .i64 (p.1 : Nat), .int .i64 (p.2 : Nat)] 24) = w1 := ⟨_, rfl⟩
  have hb1 : Below w.heap.size w w1 := by rw [← hw1]; exact bal _ _
  have g1 : w1.heap[w.heap.size]? = some (.cells #[.int .i64 (p.1 : Nat), .int .i64 (p.2 : Nat)] 24 (0, 0)) := by rw [← hw1]; exact heap_alloc_new w _
  obtain ⟨a0, a1, z0, z1⟩ := row2 g1
  have HE := Lib.hid (fun (k : Nat) (hk : k < n) => wempty_eq F a n c L k w1 (h.below hb1) hk)
  have l1 := (hb1.cell (p := ⟨lb, 0, none⟩) (block_lt_of_cell hLb)).trans hLb
  obtain ⟨r, hr⟩ : ∃ r, isK L 5 p = r := ⟨_, rfl⟩
  rw [hr]
  have HW1 := Lib.hid hw1
  have HB1 := Lib.hid hb1
  have hpn := hp.1
  obtain ⟨i, j⟩ := p
  unfold plV
  rw [isK5] at hr
  simp only at a0 a1 hw1 HW1 hpn hpl hr ⊢
  have HEi := Lib.hid (HE.out i (by omega))
  clear hw1 hb1 g1 h hp hLb
  by_cases h0 : (lnL L i).length = 0
  · have hd : decide ((lnL L i).length = 0) = true := by simp [h0]
    have hpl := hpl h0
    rw [hd] at HEi
    obtain ⟨i1, hi1⟩ : ∃ i1, i + 1 = i1 := ⟨_, rfl⟩
    have s1 : (i : Int) + 1 = (i1 : Int) := by omega
    have hin : i < n := by omega
    have hi1n : i1 < n := by omega
    skip
    have HE1 := Lib.hid (HE.out i1 (by omega))
    have hr : r = !(decide ((lnL L i1).length = 0)) := by
      rw [← hr, hi1, hd]
      have h1 : decide (i1 < L.length) = true := by simp; omega
      rw [h1]
      by_cases hz : (lnL L i1).length = 0
      · simp [hz]
      · have : 0 < (lnL L i1).length := by omega
        simp [hz, this]
    obtain ⟨d, hdd⟩ : ∃ d, decide ((lnL L i1).length = 0) = d := ⟨_, rfl⟩
    rw [hdd] at HE1 hr
    subst hr
    clear hdd hi1 HE hd h0 hl hpl
    have tok : True := trivial
    go_enter Try.func74, Try.ntmps74
    go_upto_region 1 with fail
    rw [HW1.out]
    go_wp2_with (first
      | (go_at_call 73; have _t := tok; refine HEi.out.mono ?_; clear tok _t; rintro e w' ⟨rfl, hw⟩; subst hw)
      | (go_at_call 73; refine HE1.out.mono ?_; rintro e w' ⟨rfl, hw⟩; subst hw))
    go_ret
    exact ⟨rfl, HB1.out⟩
  · have hd : decide ((lnL L i).length = 0) = false := by simp [h0]
    rw [hd] at HEi hr
    have hr : r = false := by rw [← hr]; rfl
    subst hr
    clear HE hd h0 hl hpl
    go_enter Try.func74, Try.ntmps74
    go_upto_region 1 with fail
    rw [HW1.out]
    go_wp2_with (go_at_call 73; refine HEi.out.mono ?_; rintro e w' ⟨rfl, hw⟩; subst hw)
    go_ret
    exact ⟨rfl, HB1.out⟩
end Go.Proofs.Ytikdojebnbmpoaa.U
