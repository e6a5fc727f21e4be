/-
  The program's Shift.
-/
import Derived.Test.YtfldjoiohejilaaKShiftL
import Derived.Test.YtfldjoiohejilaaJBackP
import Derived.Test.YtfldjoiohejilaaJLaws1
namespace Go.Proofs.Ytfldjoiohejilaa.U
open Go.RowKit
set_option linter.unusedVariables false
set_option linter.unusedSimpArgs false
set_option maxRecDepth 100000

/-- Shift, of lines that are not too many -/
def ShiftK (f : FuncId) : Prop := ∀ (F : Nat → Prop) (a : Option Addr) (n c : Nat) (L : List (List Int)) (x y by_ : Int) (w : World), RdL F w a n c L → sizeN (lens L) ≤ 65536 → i64b x → i64b y → i64b by_ →
  Calls Try.prog f #[.slice a n c, .int .i64 x, .int .i64 y, .int .i64 by_] w fun e w' => ∃ ra k rc, e = .returned (.tuple #[.slice ra k rc, .int .i64 (shiftR13 L x y by_).2]) ∧ RdL (fun z => w.heap.size ≤ z) w' ra k rc (shiftR13 L x y by_).1 ∧ Below w.heap.size w w'
/-- how many runes m lines get -/
def gainI (L : List (List Int)) (by_ : Int) (a m : Nat) : Int := (thrI (fun i => longI by_ (lnL L i)) a m).sum
theorem gainI_succ (L : List (List Int)) (by_ : Int) (a m : Nat) : gainI L by_ a (m + 1) = gainI L by_ a m + longI by_ (lnL L (a + m)) := by
  unfold gainI
  rw [thrI_succ, List.sum_append]
  simp
theorem gainI_bound (L : List (List Int)) {by_ : Int} (h1 : -64 ≤ by_) (h2 : by_ ≤ 64) (a : Nat) : ∀ m : Nat, -(64 * (m : Int)) ≤ gainI L by_ a m ∧ gainI L by_ a m ≤ 64 * (m : Int)
  | 0 => by simp [gainI, thrI]
  | m + 1 => by
    have h := gainI_bound L h1 h2 a m
    have hb := long_bound h1 h2 (lnL L (a + m))
    rw [gainI_succ]
    push_cast
    omega
theorem shiftL_parts (L : List (List Int)) (by_ : Int) (a m : Nat) (h : a + m ≤ L.length) : shiftL L by_ a m = L.take a ++ thrL (fun i => shiftX by_ (lnL L i)) a m ++ L.drop (a + m) := by
  unfold shiftL thrL
  rw [← range_lines L a m h, List.map_map, List.drop_drop]
  rfl
theorem thr_size (L : List (List Int)) (by_ : Int) (a : Nat) : ∀ m, a + m ≤ L.length → (sizeN (lens (thrL (fun i => shiftX by_ (lnL L i)) a m)) : Int) = (sizeN (lens ((L.drop a).take m)) : Int) + gainI L by_ a m
  | 0, _ => by simp [thrL, gainI, thrI, lens, sizeN]
  | m + 1, h => by
    have ih := thr_size L by_ a m (by omega)
    have hs := shift_len by_ (lnL L (a + m))
    have ht : (L.drop a).take (m + 1) = (L.drop a).take m ++ [lnL L (a + m)] := by
      rw [← range_lines L a (m + 1) h, ← range_lines L a m (by omega), List.range_succ, List.map_append]
      rfl
    rw [thrL_succ, gainI_succ, ht, lens_append, lens_append, sizeN_append, sizeN_append]
    simp only [lens, List.map_cons, List.map_nil, sizeN_cons, sizeN_nil] at ih ⊢
    push_cast
    omega
theorem shiftL_size (L : List (List Int)) (by_ : Int) (a m : Nat) (h : a + m ≤ L.length) : (sizeN (lens (shiftL L by_ a m)) : Int) = (sizeN (lens L) : Int) + gainI L by_ a m := by
  have h1 := thr_size L by_ a m h
  have h2 : sizeN (lens L) = sizeN (lens (L.take a)) + sizeN (lens (L.drop a)) := by rw [← sizeN_append, ← lens_append, List.take_append_drop]
  have h3 : sizeN (lens (L.drop a)) = sizeN (lens ((L.drop a).take m)) + sizeN (lens (L.drop (a + m))) := by
    rw [show L.drop (a + m) = (L.drop a).drop m by rw [List.drop_drop], ← sizeN_append, ← lens_append, List.take_append_drop]
  rw [shiftL_parts L by_ a m h, lens_append, lens_append, sizeN_append, sizeN_append]
  push_cast
  omega
theorem shiftR_ok {L : List (List Int)} {A B : Nat} {by_ : Int} (h1 : -64 ≤ by_) (h2 : by_ ≤ 64) (hAB : A ≤ B) (hB : B < L.length) :
    shiftR13 L (A : Int) (B : Int) by_ = if 65537 - (sizeN (lens L) : Int) < gainI L by_ A (B + 1 - A) then ([], 3) else (shiftL L by_ A (B + 1 - A), 0) := by
  have hs := shiftL_size L by_ A (B + 1 - A) (by omega)
  have hne : shiftL L by_ A (B + 1 - A) ≠ [] := by
    intro e
    have h3 := shiftL_parts L by_ A (B + 1 - A) (by omega)
    rw [e] at h3
    have h4 := congrArg List.length h3
    simp only [List.length_append, List.length_take, List.length_drop, thrL_len, List.length_nil] at h4
    omega
  have hr := runesR_size hne
  unfold shiftR13
  rw [if_neg (by omega), if_neg (by omega), Int.toNat_natCast, Int.toNat_natCast]
  by_cases hc : 65536 < runesR (shiftL L by_ A (B + 1 - A))
  · rw [if_pos hc, if_pos (by omega)]
  · rw [if_neg hc, if_neg (by omega)]
theorem shiftX_wf (by_ : Int) {x : List Int} (hx : ∀ y ∈ x, (Lit.int .i32 y).wf = true) : ∀ y ∈ shiftX by_ x, (Lit.int .i32 y).wf = true := by
  intro y hy
  rw [shift_parts] at hy
  split at hy
  · exact hx y (List.mem_of_mem_drop hy)
  · rcases List.mem_append.1 hy with hy | hy
    · have : y = 32 := List.eq_of_mem_replicate hy
      subst this
      decide
    · exact hx y hy
/-- Shift's boxes: by how much, the area -/
structure ShS (w : World) (b : Nat) (by_ : Int) (A B : Nat) (W : World) : Prop where
  hb : Below b w W
  y : W.heap[b]? = some (.cells #[.int .i64 by_] 3 (0, 0))
  r : W.heap[b + 1]? = some (.cells #[.int .i64 1, .int .i64 (A : Nat), .int .i64 0, .int .i64 (B : Nat), .int .i64 0, .int .i64 0, .int .i64 0] 68 (0, 0))
theorem ShS.below {w W W' : World} {b A B : Nat} {by_ : Int} (h : ShS w b by_ A B W) (hw : w.heap.size = b) (hb : Below W.heap.size W W') : ShS w b by_ A B W' :=
  ⟨h.hb.trans (hb.mono (by have := h.hb.size; omega)), hbox h.y hb, hbox h.r hb⟩
def ShC (b b1 : Nat) (by_ : Int) (A B : Nat) (W : World) : Prop := W.cell? ⟨b, 0, none⟩ = some (.int .i64 by_) ∧ W.cell? ⟨b1, 0, none⟩ = some (.int .i64 1) ∧ W.cell? ⟨b1, 1, none⟩ = some (.int .i64 (A : Nat)) ∧ W.cell? ⟨b1, 2, none⟩ = some (.int .i64 0) ∧ W.cell? ⟨b1, 3, none⟩ = some (.int .i64 (B : Nat)) ∧ W.cell? ⟨b1, 4, none⟩ = some (.int .i64 0) ∧ W.cell? ⟨b1, 5, none⟩ = some (.int .i64 0) ∧ W.cell? ⟨b1, 6, none⟩ = some (.int .i64 0)
theorem ShS.cells {w W : World} {b b1 A B : Nat} {by_ : Int} (h : ShS w b by_ A B W) (h1 : b + 1 = b1) : ShC b b1 by_ A B W := by
  subst h1
  exact ⟨cell_row h.y 0, cell_row h.r 0, cell_row h.r 1, cell_row h.r 2, cell_row h.r 3, cell_row h.r 4, cell_row h.r 5, cell_row h.r 6⟩
set_option maxHeartbeats 2000000 in
theorem kshift_arg (v : Value) (x y by_ : Int) (w : World) (hz : i64b by_) (h : by_ < -64 ∨ 64 < by_) :
    Calls Try.prog 26 #[v, .int .i64 x, .int .i64 y, .int .i64 by_] w fun e w' => e = .returned (.tuple #[.slice none 0 0, .int .i64 1]) ∧ Below w.heap.size w w' := by
  obtain ⟨wb, hwb⟩ : ∃ wb, w.alloc (.cells #[.int .i64 by_] 3) = wb := ⟨_, rfl⟩
  have hB : Below w.heap.size w wb := by rw [← hwb]; exact bal _ _
  have hrow : wb.heap[w.heap.size]? = some (.cells #[.int .i64 by_] 3 (0, 0)) := by rw [← hwb]; exact heap_alloc_new w _
  obtain ⟨b, hbe⟩ : ∃ b, w.heap.size = b := ⟨_, rfl⟩
  rw [hbe] at hrow
  have c0 := cell_row hrow 0
  have cl := heap_lt hrow
  have HB := Lib.hid hB
  have HW := Lib.hid hwb
  have HBE := Lib.hid hbe
  obtain ⟨hz1, hz2⟩ := hz
  clear hwb hB hrow hbe
  go_enter Try.func26, Try.ntmps26
  go_upto_region 1 with fail
  rw [HBE.out, HW.out]
  by_cases c1 : by_ < -64
  · have d1 : decide (by_ < -64) = true := decide_eq_true c1
    clear h
    go_wp2
    exact bodyPost_ret (v := .tuple #[.slice none 0 0, .int .i64 1]) (by rw [results_tmp2 rfl]; rfl) rfl ⟨rfl, HB.out⟩
  · have c2 : 64 < by_ := by omega
    have d1 : decide (by_ < -64) = false := decide_eq_false c1
    have d2 : decide (64 < by_) = true := decide_eq_true c2
    clear h
    go_wp2
    exact bodyPost_ret (v := .tuple #[.slice none 0 0, .int .i64 1]) (by rw [results_tmp2 rfl]; rfl) rfl ⟨rfl, HB.out⟩
set_option maxHeartbeats 2000000 in
theorem kshift_range (a : Option Addr) (n c : Nat) (x y by_ : Int) (w : World) (hx : i64b x) (hy : i64b y) (hn : n ≤ 9223372036854775807) (hz1 : -64 ≤ by_) (hz2 : by_ ≤ 64) (h : x < 0 ∨ y < x ∨ (n : Int) ≤ y) :
    Calls Try.prog 26 #[.slice a n c, .int .i64 x, .int .i64 y, .int .i64 by_] w fun e w' => e = .returned (.tuple #[.slice none 0 0, .int .i64 2]) ∧ Below w.heap.size w w' := by
  obtain ⟨wb, hwb⟩ : ∃ wb, w.alloc (.cells #[.int .i64 by_] 3) = wb := ⟨_, rfl⟩
  have hB : Below w.heap.size w wb := by rw [← hwb]; exact bal _ _
  have hrow : wb.heap[w.heap.size]? = some (.cells #[.int .i64 by_] 3 (0, 0)) := by rw [← hwb]; exact heap_alloc_new w _
  obtain ⟨b, hbe⟩ : ∃ b, w.heap.size = b := ⟨_, rfl⟩
  rw [hbe] at hrow
  have c0 := cell_row hrow 0
  have cl := heap_lt hrow
  have HB := Lib.hid hB
  have HW := Lib.hid hwb
  have HBE := Lib.hid hbe
  obtain ⟨hx1, hx2⟩ := hx
  obtain ⟨hy1, hy2⟩ := hy
  have d1 : decide (by_ < -64) = false := decide_eq_false (by omega)
  have d2 : decide (64 < by_) = false := decide_eq_false (by omega)
  clear hwb hB hrow hbe
  go_enter Try.func26, Try.ntmps26
  go_upto_region 1 with fail
  rw [HBE.out, HW.out]
  by_cases c1 : x < 0
  · have e1 : decide (x < 0) = true := decide_eq_true c1
    clear h
    go_wp2
    exact bodyPost_ret (v := .tuple #[.slice none 0 0, .int .i64 2]) (by rw [results_tmp2 rfl]; rfl) rfl ⟨rfl, HB.out⟩
  · have e1 : decide (x < 0) = false := decide_eq_false c1
    by_cases c2 : y < x
    · have e2 : decide (y < x) = true := decide_eq_true c2
      clear h
      go_wp2
      exact bodyPost_ret (v := .tuple #[.slice none 0 0, .int .i64 2]) (by rw [results_tmp2 rfl]; rfl) rfl ⟨rfl, HB.out⟩
    · have e2 : decide (y < x) = false := decide_eq_false c2
      have c3 : (n : Int) ≤ y := by omega
      have e3 : decide ((n : Int) ≤ y) = true := decide_eq_true c3
      clear h
      go_wp2
      exact bodyPost_ret (v := .tuple #[.slice none 0 0, .int .i64 2]) (by rw [results_tmp2 rfl]; rfl) rfl ⟨rfl, HB.out⟩
set_option maxHeartbeats 8000000 in
theorem kshift_ok (F : Nat → Prop) (a : Option Addr) (n c : Nat) (L : List (List Int)) (A B : Nat) (by_ : Int) (w : World) (h : RdL F w a n c L) (hs : sizeN (lens L) ≤ 65536) (h1 : -64 ≤ by_) (h2 : by_ ≤ 64) (hAB : A ≤ B) (hBn : B < n) :
    Calls Try.prog 26 #[.slice a n c, .int .i64 (A : Nat), .int .i64 (B : Nat), .int .i64 by_] w fun e w' => ∃ ra k rc, e = .returned (.tuple #[.slice ra k rc, .int .i64 (shiftR13 L (A : Int) (B : Int) by_).2]) ∧ RdL (fun z => w.heap.size ≤ z) w' ra k rc (shiftR13 L (A : Int) (B : Int) by_).1 ∧ Below w.heap.size w w' := by
  have hl := h.len
  have hcnt := size_count L
  rw [shiftR_ok h1 h2 hAB (by omega)]
  obtain ⟨M, hM⟩ : ∃ M, B + 1 - A = M := ⟨_, rfl⟩
  have hMb : M ≤ 65536 ∧ 1 ≤ M := by omega
  obtain ⟨hM6, hM1⟩ := hMb
  have hlx : ∀ (i : Nat) (x : List Int), L[i]? = some x → x.length ≤ 1048576 := by
    intro i x hx
    have hm : x.length ∈ lens L := List.mem_map.2 ⟨_, List.mem_of_getElem? hx, rfl⟩
    have := sizeN_mem hm
    omega
  have hth1 := fun (hbx : Nat) W (hW : Below w.heap.size w W) (hcell : W.cell? ⟨hbx, 0, none⟩ = some (.int .i64 by_)) => kthroughI_box F a n c L 1 (A, 0) (B, 0) 0 0 hbx 67 (fun i => longI by_ (lnL L i)) W (h.below hW) (by omega) (by decide) (by decide) hAB hBn (by simp) (by simp) (fun xs W => rfl)
    (fun i x xa xc W2 hi1 hi2 hx hW2 hrd => by
      rw [lnL_of hx]
      exact kshift1_any xa x.length xc x by_ _ _ hbx W2 hrd (hlx i x hx) h1 h2 ((hW2.cell (p := ⟨hbx, 0, none⟩) (block_lt_of_cell hcell)).trans hcell))
  have hth2 := fun (hbx : Nat) W (hW : Below w.heap.size w W) (hcell : W.cell? ⟨hbx, 0, none⟩ = some (.int .i64 by_)) => kthrough_box F a n c L 1 (A, 0) (B, 0) 0 0 hbx 69 (fun i => shiftX by_ (lnL L i)) W (h.below hW) (by omega) (by decide) (by decide) hAB hBn (by simp) (by simp) (fun xs W => rfl)
    (fun i x xa xc W2 hi1 hi2 hx hW2 hrd => by
      rw [lnL_of hx]
      exact kshift2_any xa x.length xc x by_ _ _ hbx W2 hrd (hlx i x hx) h1 h2 ((hW2.cell (p := ⟨hbx, 0, none⟩) (block_lt_of_cell hcell)).trans hcell))
  simp only at hth1 hth2
  rw [hM] at hth1 hth2 ⊢
  unfold areaV at hth1 hth2
  have e00 : ((0 : Nat) : Int) = 0 := rfl
  simp only [e00] at hth1 hth2
  have hps := shiftL_parts L by_ A M (by omega)
  have hgb : ∀ m : Nat, m ≤ M → -4611686018427387904 ≤ gainI L by_ A m ∧ gainI L by_ A m ≤ 4611686018427387904 := by
    intro m hm
    have := gainI_bound L h1 h2 A m
    omega
  obtain ⟨Z, hZ⟩ : ∃ Z, (65537 - (sizeN (lens L) : Int)) = Z := ⟨_, rfl⟩
  rw [hZ]
  obtain ⟨Rl, hRl⟩ : ∃ Rl, shiftL L by_ A M = Rl := ⟨_, rfl⟩
  rw [hRl] at hps ⊢
  obtain ⟨Tl, hTl⟩ : ∃ Tl, thrL (fun i => shiftX by_ (lnL L i)) A M = Tl := ⟨_, rfl⟩
  rw [hTl] at hps hth2
  have hTw : ∀ x ∈ Tl, ∀ y ∈ x, (Lit.int .i32 y).wf = true := by
    intro x hx
    rw [← hTl] at hx
    obtain ⟨i, -, rfl⟩ := List.mem_map.1 hx
    exact shiftX_wf by_ (ln_wf h _)
  obtain ⟨wb, hwb⟩ : ∃ wb, w.alloc (.cells #[.int .i64 by_] 3) = wb := ⟨_, rfl⟩
  have hB : Below w.heap.size w wb := by rw [← hwb]; exact bal _ _
  have hrow : wb.heap[w.heap.size]? = some (.cells #[.int .i64 by_] 3 (0, 0)) := by rw [← hwb]; exact heap_alloc_new w _
  have hsz : wb.heap.size = w.heap.size + 1 := by rw [← hwb]; simp
  obtain ⟨b, hbe⟩ : ∃ b, w.heap.size = b := ⟨_, rfl⟩
  have HTH1 : Hid (∀ W, Hid (ShS w b by_ A B W) → Calls Try.prog 66 #[.slice a n c, .agg #[.int .i64 1, .int .i64 (A : Nat), .int .i64 0, .int .i64 (B : Nat), .int .i64 0, .int .i64 0, .int .i64 0], .func (.func 67) #[] #[.pointer (some ⟨b, 0, none⟩)]] W fun e w' => ∃ (g off rc : Nat), e = .returned (.slice (some ⟨g, off, none⟩) M rc) ∧ g < w'.heap.size ∧ Hid ((∀ j, j < M → w'.cell? ⟨g, off + j, none⟩ = some (.int .i64 (longI by_ (lnL L (A + j))))) ∧ ShS w b by_ A B w')) := by
    intro W hW
    refine (hth1 b W (by rw [hbe]; exact hW.out.hb) (cell_row hW.out.y 0)).mono ?_
    rintro e w' ⟨ra, rc, rfl, hF, hb⟩
    obtain ⟨g, off, rfl, hgl, hcs⟩ := (Rc.own hF).at_ (by omega)
    refine ⟨g, off, rc, rfl, hgl, ?_, hW.out.below hbe hb⟩
    intro j hj
    refine hcs j _ ?_
    unfold intsK thrI
    rw [List.getElem?_map, List.getElem?_map, List.getElem?_range hj]
    rfl
  have HTH2 : Hid (∀ W, Hid (ShS w b by_ A B W) → Calls Try.prog 39 #[.slice a n c, .agg #[.int .i64 1, .int .i64 (A : Nat), .int .i64 0, .int .i64 (B : Nat), .int .i64 0, .int .i64 0, .int .i64 0], .func (.func 69) #[] #[.pointer (some ⟨b, 0, none⟩)]] W fun e w' => ∃ ra rc, e = .returned (.slice ra M rc) ∧ Hid (RdL (fun x => b ≤ x) w' ra M rc Tl ∧ ShS w b by_ A B w')) := by
    intro W hW
    refine (hth2 b W (by rw [hbe]; exact hW.out.hb) (cell_row hW.out.y 0)).mono ?_
    rintro e w' ⟨ra, rc, rfl, hF, hb⟩
    have hT2 := hW.out.below hbe hb
    exact ⟨ra, rc, rfl, (hF.rdl hTw).mono (fun x hx => by have := heap_lt hW.out.y; omega), hT2⟩
  have HREP : Hid (∀ W la lc, Hid (RdL (fun x => b ≤ x) W la M lc Tl ∧ ShS w b by_ A B W) → Calls Try.prog 47 #[.slice a n c, .int .i64 (A : Nat), .int .i64 ((B + 1 : Nat) : Int), .slice la M lc] W fun e w' => ∃ (va : Option Addr) (vn vc : Nat), e = .returned (.slice va vn vc) ∧ Hid (RdL (fun x => b ≤ x) w' va vn vc Rl ∧ Below b w w')) := by
    intro W la lc hW
    have hbW := hW.out.2.hb
    rw [← hbe] at hbW
    refine (kreplaced_any F _ a n c L la M lc Tl A (B + 1) W (h.below hbW) hW.out.1 (by omega) (by omega) (by omega) (by omega) (by omega)).mono ?_
    rintro e w' ⟨va, vc, rfl, hr2, hb⟩
    have hAM : A + M = B + 1 := by omega
    rw [hAM] at hps
    rw [← hps] at hr2
    have hzW := heap_lt hW.out.2.y
    exact ⟨va, _, vc, rfl, hr2.mono (fun x hx => by rcases hx with hx | hx; exact hx; omega), (hW.out.2.below hbe hb).hb⟩
  have HROOM : Hid (∀ W, Hid (ShS w b by_ A B W) → Calls Try.prog 61 #[.slice a n c] W fun e w' => e = .returned (.int .i64 Z) ∧ W = w') := fun W hW => (kroom_any F a n c L W (h.below (by rw [hbe]; exact hW.out.hb)) (by omega)).mono fun _ _ h => ⟨by rw [← hZ]; exact h.1, h.2.symm⟩
  have hsh : Hid (ShS w b by_ A B (wb.alloc (.cells #[.int .i64 1, .int .i64 (A : Nat), .int .i64 0, .int .i64 (B : Nat), .int .i64 0, .int .i64 0, .int .i64 0] 68))) := by
    have hb2 := bal wb (.cells #[.int .i64 1, .int .i64 (A : Nat), .int .i64 0, .int .i64 (B : Nat), .int .i64 0, .int .i64 0, .int .i64 0] 68)
    rw [hbe] at hB hrow hsz
    refine ⟨hB.trans (hb2.mono (by omega)), (hb2.block b (by omega)).trans hrow, ?_⟩
    rw [← hsz]
    exact heap_alloc_new wb _
  obtain ⟨G, hG⟩ : ∃ G : Nat → Int, (fun m => gainI L by_ A m) = G := ⟨_, rfl⟩
  have hGe : ∀ m, gainI L by_ A m = G m := fun m => by rw [← hG]
  obtain ⟨LO, hLO⟩ : ∃ LO : Nat → Int, (fun j => longI by_ (lnL L (A + j))) = LO := ⟨_, rfl⟩
  have hLe : ∀ m, longI by_ (lnL L (A + m)) = LO m := fun m => by rw [← hLO]
  have HGS : Hid (∀ m, G (m + 1) = G m + LO m) := fun m => by rw [← hGe, ← hGe, ← hLe]; exact gainI_succ L by_ A m
  have HGB : Hid (∀ m : Nat, m ≤ M → -4611686018427387904 ≤ G m ∧ G m ≤ 4611686018427387904) := fun m hm => by rw [← hGe]; exact hgb m hm
  have HG0 : G 0 = 0 := by rw [← hGe]; simp [gainI, thrI]
  rw [hGe]
  simp only [hLe] at HTH1
  have hn1 : n ≤ 65536 := by omega
  have hAB2 : ¬ ((A : Nat) : Int) < 0 := by omega
  have d1 : decide (by_ < -64) = false := decide_eq_false (by omega)
  have d2 : decide (64 < by_) = false := decide_eq_false (by omega)
  have d3 : decide (((A : Nat) : Int) < 0) = false := decide_eq_false (by omega)
  have d4 : decide (((B : Nat) : Int) < ((A : Nat) : Int)) = false := decide_eq_false (by omega)
  have d5 : decide ((n : Int) ≤ ((B : Nat) : Int)) = false := decide_eq_false (by omega)
  have hb1i : (B : Int) + 1 = ((B + 1 : Nat) : Int) := by omega
  have hbi : IntKind.i64.wrap (((B + 1 : Nat) : Int)) = ((B + 1 : Nat) : Int) := by rw [IntKind.wrap_i64]; omega
  have hBB : B ≤ 65536 := by omega
  obtain ⟨B2, hB2⟩ : ∃ B2, B + 1 = B2 := ⟨_, rfl⟩
  rw [hB2] at HREP hb1i hbi
  rw [hbe] at hrow hB
  rw [hbe]
  have c0 := cell_row hrow 0
  have cl := heap_lt hrow
  have HW := Lib.hid hwb
  have HBE := Lib.hid hbe
  have HBZ := Lib.hid hB
  clear hth1 hth2 hps hgb hG hLO hGe hLe hTw hTl hRl hZ hlx h hs hl hcnt hwb hbe hB hrow hM hB2 hsz
  go_enter Try.func26, Try.ntmps26
  go_upto_region 1 with fail
  rw [HBE.out, HW.out]
  go_upto_region 6 with fail
  obtain ⟨w2, hw2⟩ : ∃ w2, wb.alloc (.cells #[.int .i64 1, .int .i64 (A : Nat), .int .i64 0, .int .i64 (B : Nat), .int .i64 0, .int .i64 0, .int .i64 0] 68) = w2 := ⟨_, rfl⟩
  obtain ⟨d, hd⟩ : ∃ d, wb.heap.size = d := ⟨_, rfl⟩
  rw [hw2] at hsh
  have hbd : b + 1 = d := by
    have := congrArg World.heap HW.out
    have hh := congrArg Array.size this
    have hx := HBE.out
    simp at hh
    omega
  rw [hw2, hd]
  clear hw2 hd c0 cl
  have HBD := Lib.hid hbd
  have hc := hsh.out.cells hbd
  unfold ShC at hc
  obtain ⟨c0, c1, c2, c3, c4, c5, c6, c7⟩ := hc
  clear hbd
  go_upto_region 8 with (go_at_call 66; (refine (HTH1.out _ hsh).mono ?_); rintro e w3 ⟨g, off, rc, rfl, hgl, HR3⟩)
  clear c0 c1 c2 c3 c4 c5 c6 c7
  go_wp2_with fail
  go_loopw [11, 44] (fun v11 v44 wr => ∃ j : Nat, v11 = .int .i64 (G j) ∧ v44 = .int .i64 (j : Nat) ∧ j ≤ M ∧ wr = w3) (fun _ v44 _ => M - (intOf v44).toNat)
  case atStart => exact ⟨0, by rw [HG0], rfl, Nat.zero_le _, rfl⟩
  case round =>
    obtain ⟨j, rfl, rfl, hjM, hwr⟩ := hrel
    subst hwr
    by_cases hlt : j < M
    · have hc := HR3.out.1 j hlt
      have hs1 := HGS.out j
      have hg1 := HGB.out (j + 1) hlt
      have hww : IntKind.i64.wrap (G j + LO j) = G j + LO j := by rw [IntKind.wrap_i64]; omega
      rw [hs1] at hg1
      have hji : (j : Int) < (M : Int) := by omega
      go_wp2_with fail
      go_roundw
      case rel => exact ⟨j + 1, by rw [hs1], by go_num, hlt, (by first | trivial | rfl)⟩
      case measure => simp [intOf]; omega
    · obtain rfl : j = M := by omega
      have hc := HR3.out.2.cells HBD.out
      unfold ShC at hc
      obtain ⟨c0, c1, c2, c3, c4, c5, c6, c7⟩ := hc
      have HS3 : Hid (ShS w b by_ A B wr) := HR3.out.2
      by_cases hroom : Z < G j
      · have dz : decide (Z < G j) = true := decide_eq_true hroom
        go_wp2_with (go_at_call 61; (refine (HROOM.out _ HS3).mono ?_); rintro e wq ⟨rfl, hwq⟩; subst hwq)
        go_ret2
        exact ⟨none, 0, 0, rfl, RdL.none0 _ _, HS3.out.hb⟩
      · have dz : decide (Z < G j) = false := decide_eq_false hroom
        go_wp2_with (first
          | (go_at_call 61; (refine (HROOM.out _ HS3).mono ?_); rintro e wq ⟨rfl, hwq⟩; subst hwq)
          | (go_at_call 39; (refine (HTH2.out _ HS3).mono ?_); rintro e w5 ⟨ra, rc5, rfl, HR5⟩)
          | (go_at_call 47; (refine (HREP.out _ _ _ HR5).mono ?_); rintro e w6 ⟨va, vn, vc, rfl, HR6⟩))
        go_ret2
        exact ⟨_, _, _, rfl, HR6.out.1, HR6.out.2⟩
theorem shiftR_small {L : List (List Int)} {x y by_ : Int} (h : by_ < -64 ∨ 64 < by_) : shiftR13 L x y by_ = ([], 1) := by
  unfold shiftR13
  rw [if_pos h]
theorem kshiftK : ShiftK 26 := by
  intro F a n c L x y by_ w h hs hx hy hz
  have hl := h.len
  have hcnt := size_count L
  by_cases h1 : by_ < -64 ∨ 64 < by_
  · rw [shiftR_small h1]
    refine (kshift_arg _ x y by_ w hz h1).mono ?_
    rintro e w' ⟨rfl, h2⟩
    exact ⟨none, 0, 0, rfl, RdL.none0 _ _, h2⟩
  by_cases h2 : x < 0 ∨ y < x ∨ (n : Int) ≤ y
  · have ht : shiftR13 L x y by_ = ([], 2) := by
      unfold shiftR13
      rw [if_neg h1, if_pos (by rw [hl]; omega)]
    rw [ht]
    refine (kshift_range a n c x y by_ w hx hy (by omega) (by omega) (by omega) h2).mono ?_
    rintro e w' ⟨rfl, h2⟩
    exact ⟨none, 0, 0, rfl, RdL.none0 _ _, h2⟩
  obtain ⟨A, rfl⟩ : ∃ A : Nat, x = (A : Int) := ⟨x.toNat, by omega⟩
  obtain ⟨B, rfl⟩ : ∃ B : Nat, y = (B : Int) := ⟨y.toNat, by omega⟩
  exact kshift_ok F a n c L A B by_ w h hs (by omega) (by omega) (by omega) (by omega)
end Go.Proofs.Ytfldjoiohejilaa.U
