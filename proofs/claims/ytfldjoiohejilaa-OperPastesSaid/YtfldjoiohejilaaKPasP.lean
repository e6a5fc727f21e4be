/-
  The document's whole: lines put in.
  The document's each: how many runes one copy adds.
  The program's isHeld, longest, filled, lacking.
  Paste, as plain mathematics: how large what it makes is; when there is room; a block as pieces.
  What Paste is to do, as a contract that the document's own and the program's have alike.
-/
import Derived.Test.YtfldjoiohejilaaJJoinC
import Derived.Test.YtfldjoiohejilaaJLeaf
import Derived.BigQuiet
import Derived.Test.YtfldjoiohejilaaKSet
import Derived.Test.YtfldjoiohejilaaKCutP
namespace Go.Proofs.Ytfldjoiohejilaa.U
open Go.RowKit
set_option linter.unusedVariables false
set_option linter.unusedSimpArgs false
set_option maxRecDepth 100000

theorem results_tc {fn : Func} {p q : Tmp} {ty : TypeId} (h : fn.results = #[.tmp p, .cell q ty]) (tmps : Array Value) (P : Program) (w : World) :
    (results fn tmps).run P w = ((asAddr (tmps.getD q undef)).run P w).andThen fun a w₁ => ((loadVar ty a).run P w₁).andThen fun v w₂ => .ok (.tuple #[tmps.getD p undef, v]) w₂ := by
  simp only [results, h]
  simp [Sem.run_bind, Result.andThen]
theorem repLL_succ (n : Nat) (G : List (List Int)) : repLL (n + 1) G = repLL n G ++ G := by
  unfold repLL
  rw [List.replicate_succ', List.flatten_append]
  simp
theorem repLL_len (n : Nat) (G : List (List Int)) : (repLL n G).length = n * G.length := by simp [repLL]
theorem repLL_mem {n : Nat} {G : List (List Int)} {x : List Int} (h : x ∈ repLL n G) : x ∈ G := by
  unfold repLL at h
  obtain ⟨l, hl, hx⟩ := List.mem_flatten.1 h
  rw [List.eq_of_mem_replicate hl] at hx
  exact hx
/-- one copy more -/
theorem JoE.twin {w : World} {b : Nat} {ra : Option Addr} {m rc : Nat} {O : List (List Int)} {W : World} (h : JoE w b ra m rc O W) (F : Nat → Prop) {da : Option Addr} {dn dc : Nat} {M : List (List Int)} (hr : RdL F W da dn dc M) (hs : sizeN (lens M) ≤ 1048576) (hm : m ≤ 549755813888) :
    Calls Try.prog 12 #[.slice da dn dc] W fun e w' => ∃ ta tc, e = .returned (.slice ta dn tc) ∧ ∃ a' c' W', Hid (∀ ty, (Builtin.append_ #[22, 22] ty #[.slice ra m rc, .slice ta dn tc]).run Try.prog w' = .ok (.slice a' (m + dn) c') W') ∧ Hid (JoE w b a' (m + dn) c' (O ++ M) W') := by
  refine (h.rest F hr hs hm).mono ?_
  rintro e w' ⟨ta, tc, rfl, a', c', W', h1, h2⟩
  exact ⟨ta, tc, rfl, a', c', W', h1, h2⟩
end Go.Proofs.Ytfldjoiohejilaa.U

namespace Go.Proofs.Ytfldjoiohejilaa.U
open Go.RowKit
set_option linter.unusedVariables false
set_option linter.unusedSimpArgs false
set_option maxRecDepth 100000

theorem ret_i64E {x y : Int} (h : x = y) : Ending.returned (.int .i64 x) = Ending.returned (.int .i64 y) := by rw [h]
theorem widest_le (L : List (List Int)) : ∀ m, (∀ x ∈ L, x.length ≤ m) → widestR L ≤ m := by
  intro m h
  unfold widestR
  have : ∀ (L : List (List Int)) (z : Nat), z ≤ m → (∀ x ∈ L, x.length ≤ m) → L.foldl (fun m x => max m x.length) z ≤ m := by
    intro L
    induction L with
    | nil => intro z hz _; exact hz
    | cons x L ih => intro z hz hx; exact ih _ (Nat.max_le.2 ⟨hz, hx x (by simp)⟩) (fun y hy => hx y (by simp [hy]))
  exact this L 0 (Nat.zero_le _) h
set_option maxHeartbeats 2000000 in
theorem reach_any (F : Nat → Prop) (a : Option Addr) (n c : Nat) (L : List (List Int)) (k : Int) (w : World) (h : RdL F w a n c L) (hs : sizeN (lens L) ≤ 1048576) (h0 : 0 ≤ k) (h2 : k ≤ 2) :
    Calls Try.prog 57 #[rgV k a n c] w fun e w' => e = .returned (.int .i64 (eachR k L : Nat)) ∧ Below w.heap.size w w' := by
  unfold rgV
  have hl := h.len
  have hn1 : n ≤ 1048576 := by have := size_count L; omega
  obtain ⟨wb, hwb⟩ : ∃ wb, w.alloc (.cells #[.int .i64 k, .slice a n c] 30) = wb := ⟨_, rfl⟩
  have hB : Below w.heap.size w wb := by rw [← hwb]; exact (Below.refl _ _).alloc (Nat.le_refl _) _
  have g1 : wb.heap[w.heap.size]? = some (.cells #[.int .i64 k, .slice a n c] 30 (0, 0)) := by rw [← hwb]; exact heap_alloc_new w _
  have x0 := cell_row g1 0
  have x1 := cell_row g1 1
  have xl := heap_lt g1
  have hjl := joinL_len_le L
  have HRU : Hid (∀ W, W = wb → Calls Try.prog 51 #[.slice a n c] W fun e w' => e = .returned (.int .i64 (runesR L : Nat)) ∧ w' = W) := by
    rintro W rfl
    refine (rrunes_any F a n c L W (h.below hB) (by omega)).mono ?_
    rintro e w' hh
    exact ⟨hh.1, by first | exact hh.2 | exact hh.2.symm⟩
  have hwle : widestR L ≤ 1048576 := widest_le L _ (fun x hx => by have := sizeN_mem (List.mem_map.2 ⟨x, hx, rfl⟩ : List.length x ∈ List.map List.length L); unfold lens at hs; omega)
  have hmul : widestR L * n ≤ 1048576 * 1048576 := Nat.mul_le_mul hwle hn1
  have HWI : Hid (∀ W, Below wb.heap.size wb W → Calls Try.prog 91 #[.slice a n c] W fun e w' => e = .returned (.int .i64 (widestR L : Nat)) ∧ w' = W) := fun W hW => rwidest_any F a n c L W (h.below (hB.trans (hW.mono hB.size)))
  obtain ⟨R, hR⟩ : ∃ R, eachR k L = R := ⟨_, rfl⟩
  rw [hR]
  have hrb : runesR L ≤ 1048576 := by unfold runesR; omega
  obtain ⟨ru, hru⟩ : ∃ ru, runesR L = ru := ⟨_, rfl⟩
  obtain ⟨wi, hwi⟩ : ∃ wi, widestR L = wi := ⟨_, rfl⟩
  rw [hru] at HRU hrb
  rw [hwi] at HWI hwle hmul
  unfold eachR at hR
  rw [hru, hwi, hl] at hR
  have HR := Lib.hid hR
  obtain ⟨b, hbe⟩ : ∃ b, w.heap.size = b := ⟨_, rfl⟩
  have HBE := Lib.hid hbe
  have HW := Lib.hid hwb
  have HB := Lib.hid hB
  have HR0 : Hid (Below wb.heap.size wb wb.drew) := (Below.refl _ _).drew
  rw [hbe] at x0 x1 xl HB
  rw [hbe]
  clear hwb hB g1 h hl hs hjl hR hru hwi hbe
  go_enter Try.func57, Try.ntmps57
  go_upto_region 1 with fail
  rw [HBE.out, HW.out]
  have hkk : k = 0 ∨ k = 1 ∨ k = 2 := by omega
  rcases hkk with rfl | rfl | rfl
  · go_wp2_with (go_at_call 51; (refine (HRU.out _ rfl).mono ?_); rintro e wq ⟨rfl, hwq⟩; subst hwq)
    go_ret
    exact ⟨ret_i64E (by have := HR.out; simp at this; omega), HB.out⟩
  · go_wp2_with (go_at_call 51; (refine (HRU.out _ rfl).mono ?_); rintro e wq ⟨rfl, hwq⟩; subst hwq)
    go_ret
    exact ⟨ret_i64E (by have := HR.out; simp at this; omega), HB.out⟩
  · go_upto_region 6 with fail
    have hR2 : wi * n = R := by have := HR.out; rw [if_neg (by decide), if_neg (by decide)] at this; exact this
    have hmi : ((wi : Int) * (n : Int)) = (R : Int) := by rw [← hR2]; push_cast; rfl
    have hRb : R ≤ 1099511627776 := by omega
    go_region_held3 (fun W => W.cell? ⟨b, 1, none⟩ = some (.slice a n c) ∧ Below wb.heap.size wb W)
      (first | exact ⟨x1, HR0.out⟩)
      (first | (go_at_call 91; (with_reducible refine (HWI.out _ HR0.out).mono ?_); rintro e wq ⟨rfl, hwq⟩; subst hwq))
    all_goals
      go_wp2
      go_ret
      exact ⟨ret_i64E (by first | exact hmi | (rw [IntKind.wrap_i64]; omega)), HB.out.drew⟩
end Go.Proofs.Ytfldjoiohejilaa.U

namespace Go.Proofs.Ytfldjoiohejilaa.U
open Go.RowKit
set_option linter.unusedVariables false
set_option linter.unusedSimpArgs false
set_option maxRecDepth 100000

def heldB (k : Int) (G : List (List Int)) : Bool := !(G.any has10) && (decide (0 ≤ k) && decide (k ≤ 2)) && decide (G ≠ [])
set_option maxHeartbeats 2000000 in
theorem kheld_any (F : Nat → Prop) (k : Int) (a : Option Addr) (n c : Nat) (G : List (List Int)) (w : World) (h : RdL F w a n c G) :
    Calls Try.prog 52 #[rgV k a n c] w fun e w' => e = .returned (.bool (heldB k G)) ∧ Below w.heap.size w w' := by
  unfold rgV
  have hl := h.len
  have hsm := h.small
  obtain ⟨wb, hwb⟩ : ∃ wb, w.alloc (.cells #[.int .i64 k, .slice a n c] 30) = wb := ⟨_, rfl⟩
  have hB := bal w (.cells #[.int .i64 k, .slice a n c] 30)
  have g1 := heap_alloc_new w (.cells #[.int .i64 k, .slice a n c] 30)
  rw [hwb] at hB g1
  have x0 := cell_row g1 0
  have x1 := cell_row g1 1
  have xl := heap_lt g1
  have HL := Lib.hid hl
  have H : Hid (RdL F wb a n c G) := h.below hB
  have HYES : Hid (∀ (i : Nat) (x : List Int), G[i]? = some x → has10 x = true → heldB k G = false) := by
    intro i x hx hm
    have : G.any has10 = true := List.any_eq_true.2 ⟨x, List.mem_of_getElem? hx, hm⟩
    simp [heldB, this]
  have HNO : Hid (plainL G → heldB k G = ((decide (0 ≤ k) && decide (k ≤ 2)) && decide (G ≠ []))) := by
    intro hp
    have := plain_iff.2 hp
    simp [heldB, this]
  have HGN : Hid (decide (G ≠ []) = decide (0 < n)) := by
    show _ = _
    rw [decide_eq_decide]
    constructor
    · intro h1; cases G with
      | nil => exact absurd rfl h1
      | cons x G => simp at hl; omega
    · intro h1 h2; rw [h2] at hl; simp at hl; omega
  have HK : Hid (∀ W, Calls Try.prog 76 #[.int .i64 k] W fun e w' => e = .returned (.bool (decide (0 ≤ k) && decide (k ≤ 2))) ∧ W = w') := fun W => (kkind_any k W).mono fun _ _ h => ⟨h.1, h.2.symm⟩
  have HW := Lib.hid hwb
  obtain ⟨b, hbe⟩ : ∃ b, w.heap.size = b := ⟨_, rfl⟩
  have HBE := Lib.hid hbe
  have HB := Lib.hid hB
  rw [hbe] at x0 x1 xl HB
  rw [hbe]
  obtain ⟨R, hR⟩ : ∃ R, heldB k G = R := ⟨_, rfl⟩
  rw [hR] at HYES HNO ⊢
  obtain ⟨D, hD⟩ : ∃ D, (decide (0 ≤ k) && decide (k ≤ 2)) = D := ⟨_, rfl⟩
  rw [hD] at HK HNO
  clear h hl hwb hB g1 hbe hR hD
  go_enter Try.func52, Try.ntmps52
  go_upto_region 1 with fail
  rw [HBE.out, HW.out]
  go_wp2_with fail
  go_loopw [8] (fun v8 wr => ∃ i : Nat, i ≤ n ∧ v8 = .int .i64 i ∧ Hid (plainL (G.take i) ∧ wr = wb)) (fun v8 _ => n - (intOf v8).toNat)
  case atStart => exact ⟨0, Nat.zero_le _, rfl, by intro z hz; simp at hz, rfl⟩
  case round =>
    obtain ⟨i, hi, rfl, hst⟩ := hrel
    have hwr := hst.out.2
    subst hwr
    by_cases hlt : i < n
    · obtain ⟨x, hx⟩ : ∃ x, G[i]? = some x := ⟨_, List.getElem?_eq_getElem (by have := HL.out; omega)⟩
      obtain ⟨lb, lo, ra, rc, rfl, hlb, _, hc, hrd, _⟩ := H.out.get (Below.refl _ _) hx
      have hCON := contains_any ra x.length rc x wr hrd
      obtain ⟨m, hm⟩ : ∃ m, x.length = m := ⟨_, rfl⟩
      rw [hm] at hc hCON
      cases hT : has10 x
      · rw [hT] at hCON
        have HC := Lib.hid hCON
        have HN : Hid (plainL (G.take (i + 1)) ∧ wr = wr) := by
          refine ⟨?_, rfl⟩
          intro z hz
          rw [take_snocI hx] at hz
          rcases List.mem_append.1 hz with hz | hz
          · exact hst.out.1 z hz
          · rw [List.mem_singleton] at hz
            subst hz
            intro h10
            rw [has10_iff.2 h10] at hT
            cases hT
        clear hst hx hrd hCON hm hT
        go_wp2_with (go_at_call 83; (refine HC.out.mono ?_); rintro e wq ⟨rfl, hwq⟩; subst hwq)
        go_roundw
        case rel => exact ⟨i + 1, by omega, by go_num, HN.out.1, (by first | trivial | rfl)⟩
        case measure => simp [intOf]; omega
      · rw [hT] at hCON
        have HC := Lib.hid hCON
        have HF := Lib.hid (HYES.out i x hx hT)
        clear hst hx hrd hCON hm hT
        go_wp2_with (go_at_call 83; (refine HC.out.mono ?_); rintro e wq ⟨rfl, hwq⟩; subst hwq)
        go_ret
        exact ⟨by rw [HF.out]; rfl, HB.out⟩
    · obtain rfl : i = n := by omega
      have HF : Hid (R = (D && decide (0 < i))) := by
        have := hst.out.1
        rw [List.take_of_length_le (by have := HL.out; omega)] at this
        rw [← HGN.out]
        exact HNO.out this
      clear hst
      cases D
      · go_wp2_with (go_at_call 76; (refine (HK.out _).mono ?_); rintro e wq ⟨rfl, hwq⟩; subst hwq)
        go_ret
        exact ⟨by rw [HF.out]; rfl, HB.out⟩
      · by_cases h0 : 0 < i
        · have d0 : decide ((0 : Int) < (i : Int)) = true := by simp; omega
          have HF2 : Hid (R = true) := by show _ = _; rw [HF.out]; simp; omega
          go_wp2_with (go_at_call 76; (refine (HK.out _).mono ?_); rintro e wq ⟨rfl, hwq⟩; subst hwq)
          go_ret
          exact ⟨by rw [HF2.out]; rfl, HB.out⟩
        · have d0 : decide ((0 : Int) < (i : Int)) = false := by simp; omega
          have HF2 : Hid (R = false) := by show _ = _; rw [HF.out]; simp; omega
          go_wp2_with (go_at_call 76; (refine (HK.out _).mono ?_); rintro e wq ⟨rfl, hwq⟩; subst hwq)
          go_ret
          exact ⟨by rw [HF2.out]; rfl, HB.out⟩
set_option maxHeartbeats 1000000 in
theorem klongest_any (F : Nat → Prop) (a : Option Addr) (n c : Nat) (L : List (List Int)) (w : World) (h : RdL F w a n c L) :
    Calls Try.prog 87 #[.slice a n c] w fun e w' => e = .returned (.int .i64 (widestR L : Nat)) ∧ w' = w := by
  have hl := h.len
  have hsm := h.small
  have H := Lib.hid (And.intro h hl)
  clear h hl
  go_enter Try.func87, Try.ntmps87
  go_wp2_with fail
  go_loopw [3, 8] (fun v3 v4 wr => ∃ (i m : Nat), v4 = .int .i64 i ∧ v3 = .int .i64 m ∧ i ≤ n ∧ Hid (m = widestR (L.take i) ∧ wr = w)) (fun _ v4 _ => n - (intOf v4).toNat)
  case atStart => exact ⟨0, 0, rfl, rfl, Nat.zero_le _, rfl, rfl⟩
  case round =>
    obtain ⟨i, m, rfl, rfl, hi, hst⟩ := hrel
    obtain ⟨hm, rfl⟩ := hst.out
    by_cases hlt : i < n
    · obtain ⟨x, hx⟩ : ∃ x, L[i]? = some x := ⟨_, List.getElem?_eq_getElem (by have := H.out.2; omega)⟩
      obtain ⟨b, off, xa, xc, rfl, hbl, _, hc, hrd, _⟩ := H.out.1.get (Below.refl _ _) hx
      have hws := widest_snoc (L.take i) x
      rw [← take_snocI hx, ← hm] at hws
      obtain ⟨y, hy⟩ : ∃ y, x.length = y := ⟨_, rfl⟩
      rw [hy] at hc hws
      obtain ⟨m2, hm2⟩ : ∃ m2, max m y = m2 := ⟨_, rfl⟩
      have hmx : max (m : Int) (y : Int) = (m2 : Int) := by omega
      have HN : Hid (m2 = widestR (L.take (i + 1)) ∧ wr = wr) := ⟨by rw [hws, hm2], rfl⟩
      clear hx hrd hws hy hm hst hm2
      go_wp2_with fail
      go_roundw
      case rel => exact ⟨i + 1, m2, by go_num, by first | rfl | (rw [hmx]) | go_num, by omega, ⟨HN.out.1, (by first | trivial | rfl)⟩⟩
      case measure => simp [intOf]; omega
    · obtain rfl : i = n := by omega
      rw [List.take_of_length_le (by have := H.out.2; omega)] at hm
      subst hm
      clear hst
      go_wp2_with fail
      go_ret
      exact ⟨rfl, rfl⟩
set_option maxHeartbeats 1000000 in
theorem kfilled_any (a : Option Addr) (m c : Nat) (x : List Int) (n : Nat) (w : World) (h : Rd .i32 w a m c x) (hm : m ≤ 1048576) (hn : n ≤ 1048576) :
    Calls Try.prog 89 #[.slice a m c, .int .i64 (n : Nat)] w fun e w' => ∃ a' c', e = .returned (.slice a' (filledR x n).length c') ∧ w'.ownsRow w.heap.size 21 1 (.slice a' (filledR x n).length c') (filledR x n).length (ints (filledR x n)) ∧ Below w.heap.size w w' := by
  have hx := h.1
  have hl := filled_len x n
  obtain ⟨K, hK⟩ : ∃ K, n - m = K := ⟨_, rfl⟩
  have hKi : max ((n : Int) - (m : Int)) 0 = (K : Int) := by omega
  have hf : filledR x n = x ++ blanksR K := by unfold filledR; rw [hx, hK]
  have HS : Hid (∀ W, W = w → Calls Try.prog 95 #[.int .i64 (K : Nat)] W fun e w' => ∃ a2 c2, e = .returned (.slice a2 K c2) ∧ Hid (∀ W2, (W2 = w'.alloc (.cells #[.slice a m c, .slice a2 K c2] 35) ∨ W2 = (w'.alloc (.cells #[.slice a m c, .slice a2 K c2] 35)).drew) → Calls Try.prog 46 #[.slice (some ⟨w'.heap.size, 0, none⟩) 2 2] W2 fun e w'' => ∃ a3 c3, e = .returned (.slice a3 (filledR x n).length c3) ∧ Hid (w''.ownsRow w.heap.size 21 1 (.slice a3 (filledR x n).length c3) (filledR x n).length (ints (filledR x n)) ∧ Below w.heap.size w w''))) := by
    rintro W rfl
    refine (kspaces_any K W (by omega)).mono ?_
    rintro e w' ⟨a2, c2, rfl, ho, hb⟩
    refine ⟨a2, c2, rfl, fun W2 hW2 => ?_⟩
    refine (kcat2 w' W2 a a2 m c K c2 x (blanksR K) (h.below hb) (own_rd ho (by intro z hz; unfold blanksR at hz; rw [List.eq_of_mem_replicate hz]; decide)) (by omega) hW2).mono ?_
    rintro e w'' ⟨a3, c3, rfl, ho3, hb3⟩
    have hlen : (filledR x n).length = m + K := by rw [hl, hx]; omega
    rw [hlen, hf]
    exact ⟨a3, c3, rfl, own_mono ho3 hb.size, hb.trans (hb3.mono hb.size)⟩
  clear h hx hl hK hf
  go_enter Try.func89, Try.ntmps89
  go_wp2_with (first
    | (go_at_call 46; (first | refine (HCT.out _ (Or.inl rfl)).mono ?_ | refine (HCT.out _ (Or.inr rfl)).mono ?_); rintro e w2 ⟨a3, c3, rfl, HF⟩)
    | (go_at_call 95; (refine (HS.out _ rfl).mono ?_); rintro e w1 ⟨a2, c2, rfl, HCT⟩))
  go_ret
  exact ⟨_, _, rfl, HF.out.1, HF.out.2⟩
end Go.Proofs.Ytfldjoiohejilaa.U

namespace Go.Proofs.Ytfldjoiohejilaa.U
open Go.RowKit
set_option linter.unusedVariables false
set_option linter.unusedSimpArgs false
set_option maxRecDepth 100000

theorem runesR_size {L : List (List Int)} (h : L ≠ []) : runesR L + 1 = sizeN (lens L) := joinL_len h
theorem repLL_size (G : List (List Int)) : ∀ m, sizeN (lens (repLL m G)) = m * sizeN (lens G)
  | 0 => by simp [repLL, lens, sizeN]
  | m + 1 => by rw [repLL_succ, lens_append, sizeN_append, repLL_size G m, Nat.add_mul, Nat.one_mul]
theorem size_two (L : List (List Int)) (a : Nat) : sizeN (lens L) = sizeN (lens (L.take a)) + sizeN (lens (L.drop a)) := by
  rw [← sizeN_append, ← lens_append, List.take_append_drop]
theorem wholeL_size (L : List (List Int)) (a : Nat) (G : List (List Int)) (m : Nat) : sizeN (lens (wholeL L a G m)) = sizeN (lens L) + m * sizeN (lens G) := by
  unfold wholeL
  rw [lens_append, lens_append, sizeN_append, sizeN_append, repLL_size, size_two L a]
  omega
theorem size_three (L : List (List Int)) {i : Nat} (h : i < L.length) : sizeN (lens L) = sizeN (lens (L.take i)) + ((lnL L i).length + 1) + sizeN (lens (L.drop (i + 1))) := by
  have hx : L[i]? = some (lnL L i) := by unfold lnL; rw [List.getD_eq_getElem?_getD, List.getElem?_eq_getElem h]; rfl
  rw [size_two L (i + 1), size_take hx]
theorem charsX_len (L : List (List Int)) (q : Pl) (G : List (List Int)) {col : Nat} (m : Nat) : (charsX L q G col m).length = (lnL L q.1).length + m * runesR G := by
  unfold charsX runesR
  simp only [List.length_append, List.length_take, List.length_drop, repL_len]
  omega
theorem charsL_size {L : List (List Int)} {q : Pl} (h : q.1 < L.length) (G : List (List Int)) (col m : Nat) : sizeN (lens (charsL L q G col m)) = sizeN (lens L) + m * runesR G := by
  unfold charsL
  rw [lens_append, lens_append, sizeN_append, sizeN_append, split_sum, charsX_len, size_three L h]
  omega
/-- the lines of a block, put in -/
def intoL (L : List (List Int)) (q1 : Nat) (G : List (List Int)) (col m i : Nat) : List (List Int) := (List.range i).map fun j => blockX (lnL L (q1 + j)) col m (widestR G) (lnL G j)
theorem intoL_succ (L : List (List Int)) (q1 : Nat) (G : List (List Int)) (col m i : Nat) : intoL L q1 G col m (i + 1) = intoL L q1 G col m i ++ [blockX (lnL L (q1 + i)) col m (widestR G) (lnL G i)] := by
  unfold intoL
  rw [List.range_succ, List.map_append]
  rfl
theorem intoL_len (L : List (List Int)) (q1 : Nat) (G : List (List Int)) (col m i : Nat) : (intoL L q1 G col m i).length = i := by simp [intoL]
theorem blockL_parts {L : List (List Int)} {q1 : Nat} (h : q1 ≤ L.length) (G : List (List Int)) (col m : Nat) : ∀ i, blockL L q1 G col m i = L.take q1 ++ intoL L q1 G col m i ++ L.drop (q1 + i)
  | 0 => by simp [blockL, intoL]
  | i + 1 => by
    have hs : blockL L q1 G col m (i + 1) = blockS q1 G col m (blockL L q1 G col m i) i := by
      unfold blockL
      rw [List.range_succ, List.foldl_append]
      rfl
    rw [hs, blockL_parts h G col m i, intoL_succ]
    have hl1 : (L.take q1 ++ intoL L q1 G col m i).length = q1 + i := by rw [List.length_append, List.length_take, intoL_len]; omega
    unfold blockS
    by_cases hlt : q1 + i < L.length
    · have hne : ¬ q1 + i = (L.take q1 ++ intoL L q1 G col m i ++ L.drop (q1 + i)).length := by rw [List.length_append, hl1, List.length_drop]; omega
      rw [if_neg hne]
      have hget : lnL (L.take q1 ++ intoL L q1 G col m i ++ L.drop (q1 + i)) (q1 + i) = lnL L (q1 + i) := by
        unfold lnL
        rw [List.getD_eq_getElem?_getD, List.getD_eq_getElem?_getD, List.getElem?_append_right (by omega), hl1, Nat.sub_self, List.getElem?_drop, Nat.add_zero]
      rw [hget, List.set_append_right _ _ (by omega), hl1, Nat.sub_self, List.drop_eq_getElem_cons hlt]
      simp [Nat.add_assoc]
    · have hd : L.drop (q1 + i) = [] := List.drop_of_length_le (by omega)
      have hd2 : L.drop (q1 + (i + 1)) = [] := List.drop_of_length_le (by omega)
      rw [hd, hd2, List.append_nil, List.append_nil, if_pos hl1.symm]
      have hget : lnL (L.take q1 ++ intoL L q1 G col m i ++ [[]]) (q1 + i) = lnL L (q1 + i) := by
        unfold lnL
        rw [List.getD_eq_getElem?_getD, List.getD_eq_getElem?_getD, List.getElem?_append_right (by omega), hl1, Nat.sub_self, List.getElem?_eq_none (by omega : L.length ≤ q1 + i)]
        rfl
      rw [hget, List.set_append_right _ _ (by omega), hl1, Nat.sub_self]
      simp
/-- how many blanks and line ends are lacking -/
def lackR (L : List (List Int)) (q1 col : Nat) : Nat → Nat
  | 0 => 0
  | i + 1 => lackR L q1 col i + (if q1 + i < L.length then col - (lnL L (q1 + i)).length else col + 1)
theorem widest_ge {G : List (List Int)} {x : List Int} (h : x ∈ G) : x.length ≤ widestR G := by
  unfold widestR
  have : ∀ (G : List (List Int)) (z : Nat), (z ≤ G.foldl (fun m x => max m x.length) z) ∧ ∀ x ∈ G, x.length ≤ G.foldl (fun m x => max m x.length) z := by
    intro G
    induction G with
    | nil => intro z; exact ⟨Nat.le_refl _, by simp⟩
    | cons y G ih =>
      intro z
      obtain ⟨h1, h2⟩ := ih (max z y.length)
      refine ⟨Nat.le_trans (Nat.le_max_left _ _) h1, fun x hx => ?_⟩
      rcases List.mem_cons.1 hx with rfl | hx
      · exact Nat.le_trans (Nat.le_max_right _ _) h1
      · exact h2 x hx
  exact (this G 0).2 x h
theorem lnG_le (G : List (List Int)) (i : Nat) : (lnL G i).length ≤ widestR G := by
  unfold lnL
  rw [List.getD_eq_getElem?_getD]
  cases h : G[i]? with
  | none => simp
  | some x => exact widest_ge (List.mem_of_getElem? h)
theorem blockX_len (x : List Int) (col m w : Nat) {g : List Int} (hg : g.length ≤ w) : (blockX x col m w g).length = max x.length col + m * w := by
  unfold blockX
  have h1 := filled_len x col
  have h2 := filled_len g w
  simp only [List.length_append, List.length_take, List.length_drop, repL_len]
  rw [h2, show max g.length w = w by omega]
  omega
theorem intoL_size {L : List (List Int)} {q1 : Nat} (h : q1 ≤ L.length) (G : List (List Int)) (col m : Nat) : ∀ i, sizeN (lens (intoL L q1 G col m i)) + sizeN (lens (L.drop (q1 + i))) = sizeN (lens (L.drop q1)) + lackR L q1 col i + m * (widestR G * i)
  | 0 => by simp [intoL, lackR, lens, sizeN]
  | i + 1 => by
    have ih := intoL_size h G col m i
    have hb := blockX_len (lnL L (q1 + i)) col m (widestR G) (lnG_le G i)
    rw [intoL_succ, lens_append, sizeN_append]
    simp only [lens, List.map_cons, List.map_nil, sizeN_cons, sizeN_nil] at ih ⊢
    rw [hb]
    have he : m * (widestR G * (i + 1)) = m * (widestR G * i) + m * widestR G := by rw [Nat.mul_add, Nat.mul_add, Nat.mul_one]
    rw [he]
    unfold lackR
    by_cases hlt : q1 + i < L.length
    · rw [if_pos hlt]
      have hd : L.drop (q1 + i) = lnL L (q1 + i) :: L.drop (q1 + (i + 1)) := by
        rw [List.drop_eq_getElem_cons hlt, ← Nat.add_assoc]
        congr 1
        unfold lnL
        rw [List.getD_eq_getElem?_getD, List.getElem?_eq_getElem hlt]
        rfl
      rw [hd] at ih
      simp only [List.map_cons, sizeN_cons] at ih
      omega
    · rw [if_neg hlt]
      have hd : L.drop (q1 + i) = [] := List.drop_of_length_le (by omega)
      have hd2 : L.drop (q1 + (i + 1)) = [] := List.drop_of_length_le (by omega)
      have hx : lnL L (q1 + i) = [] := by unfold lnL; rw [List.getD_eq_getElem?_getD, List.getElem?_eq_none (by omega)]; rfl
      rw [hd] at ih
      rw [hd2, hx]
      simp only [List.map_nil, sizeN_nil, List.length_nil] at ih ⊢
      omega
theorem blockL_size {L : List (List Int)} {q1 : Nat} (h : q1 ≤ L.length) (G : List (List Int)) (col m i : Nat) : sizeN (lens (blockL L q1 G col m i)) = sizeN (lens L) + lackR L q1 col i + m * (widestR G * i) := by
  rw [blockL_parts h, lens_append, lens_append, sizeN_append, sizeN_append, size_two L q1]
  have := intoL_size h G col m i
  omega
/-- what is lacking where a register is put in -/
def lackK (L : List (List Int)) (q : Pl) (k : Int) (G : List (List Int)) (bh : Bool) : Nat := if k = 2 then lackR L q.1 (colR L q bh) G.length else 0
theorem pasteM_size {L : List (List Int)} {q : Pl} (h : q.1 < L.length) {G : List (List Int)} (hG : G ≠ []) {k : Int} (h0 : 0 ≤ k) (h2 : k ≤ 2) (bh : Bool) (m : Nat) :
    sizeN (lens (pasteM L q k G bh m)) = sizeN (lens L) + lackK L q k G bh + m * eachR k G := by
  unfold pasteM lackK eachR
  by_cases e2 : k = 2
  · subst e2
    rw [if_pos rfl, if_pos rfl, if_neg (by decide), if_neg (by decide), blockL_size (by omega)]
  · rw [if_neg e2, if_neg e2]
    by_cases e1 : k = 1
    · subst e1
      rw [if_pos rfl, if_neg (show ¬ (1 : Int) = 0 by decide), if_pos rfl, wholeL_size, ← runesR_size hG]
      omega
    · have e0 : k = 0 := by omega
      subst e0
      rw [if_neg (by decide), if_pos rfl, charsL_size h]
      omega
theorem pasteM_ne {L : List (List Int)} {q : Pl} (h : q.1 < L.length) {G : List (List Int)} (hG : G ≠ []) {k : Int} (h0 : 0 ≤ k) (h2 : k ≤ 2) (bh : Bool) (m : Nat) : pasteM L q k G bh m ≠ [] := by
  intro e
  have h1 := pasteM_size h hG h0 h2 bh m
  rw [e] at h1
  have h3 := size_count L
  have h4 : sizeN (lens ([] : List (List Int))) = 0 := rfl
  omega
/-- Paste, where there is room -/
theorem pasteR_ok {L : List (List Int)} {p : Po} {k : Int} {G : List (List Int)} {bh : Bool} {n : Int} (hL : L ≠ []) (hG : G ≠ []) (hp : plainL G) (h0 : 0 ≤ k) (h2 : k ≤ 2)
    (h : sizeN (lens L) + lackK L (clipZ L p) k G bh + timesN k G n * eachR k G ≤ 65537) :
    pasteR L p k G bh n = (pasteM L (clipZ L p) k G bh (timesN k G n), pasteQ L (clipZ L p) k G bh (timesN k G n), 0) := by
  have hq := (clipP_ok hL p.l p.c).1
  have hsz := pasteM_size (q := clipZ L p) hq hG h0 h2 bh (timesN k G n)
  have hne := pasteM_ne (q := clipZ L p) hq hG h0 h2 bh (timesN k G n)
  have hr := runesR_size hne
  have hc := size_count L
  have hLl : 0 < L.length := List.length_pos_iff.2 hL
  unfold pasteR
  rw [if_neg (by rw [plain_iff.2 hp]; simp [hG]; omega), if_neg hL, if_neg, if_neg (by omega)]
  rintro ⟨h3, h4⟩
  unfold timesN at h
  rw [if_neg (by omega)] at h
  have h5 : (max 1 n).toNat * eachR k G ≤ 65536 := by omega
  have h6 : (max 1 n).toNat ≤ 65536 / eachR k G := (Nat.le_div_iff_mul_le h3).2 h5
  omega
/-- and where not -/
theorem pasteR_full {L : List (List Int)} {p : Po} {k : Int} {G : List (List Int)} {bh : Bool} {n : Int} (hL : L ≠ []) (hG : G ≠ []) (hp : plainL G) (h0 : 0 ≤ k) (h2 : k ≤ 2)
    (h : 65537 < sizeN (lens L) + lackK L (clipZ L p) k G bh + timesN k G n * eachR k G) :
    pasteR L p k G bh n = ([], (0, 0), 3) := by
  have hq := (clipP_ok hL p.l p.c).1
  have hsz := pasteM_size (q := clipZ L p) hq hG h0 h2 bh (timesN k G n)
  have hne := pasteM_ne (q := clipZ L p) hq hG h0 h2 bh (timesN k G n)
  have hr := runesR_size hne
  unfold pasteR
  rw [if_neg (by rw [plain_iff.2 hp]; simp [hG]; omega), if_neg hL]
  split
  · rfl
  · rw [if_pos (by omega)]
theorem pasteR_arg {L : List (List Int)} {p : Po} {k : Int} {G : List (List Int)} {bh : Bool} {n : Int} (h : ¬ (0 ≤ k ∧ k ≤ 2) ∨ G = [] ∨ ¬ plainL G) : pasteR L p k G bh n = ([], (0, 0), 1) := by
  unfold pasteR
  rw [if_pos]
  rcases h with h | h | h
  · omega
  · exact Or.inr (Or.inr (Or.inl h))
  · refine Or.inr (Or.inr (Or.inr ?_))
    rw [← plain_iff] at h
    simpa using h
theorem pasteR_range {p : Po} {k : Int} {G : List (List Int)} {bh : Bool} {n : Int} (hG : G ≠ []) (hp : plainL G) (h0 : 0 ≤ k) (h2 : k ≤ 2) : pasteR [] p k G bh n = ([], (0, 0), 2) := by
  unfold pasteR
  rw [if_neg (by rw [plain_iff.2 hp]; simp [hG]; omega), if_pos rfl]
end Go.Proofs.Ytfldjoiohejilaa.U

namespace Go.Proofs.Ytfldjoiohejilaa.U
open Go.RowKit
set_option linter.unusedVariables false
set_option linter.unusedSimpArgs false
set_option maxRecDepth 100000

/-- what a call of Paste tells -/
def PasA (w : World) (R : List (List Int) × Pl × Int) (e : Ending) (w' : World) : Prop :=
  ∃ ra rm rc, e = .returned (.tuple #[.slice ra rm rc, plV R.2.1, .int .i64 R.2.2]) ∧ RdL (fun x => w.heap.size ≤ x) w' ra rm rc R.1 ∧ Below w.heap.size w w'
/-- Paste, of lines that are not too many -/
def PasteK (f : FuncId) : Prop := ∀ (F G : Nat → Prop) (a : Option Addr) (n c : Nat) (L : List (List Int)) (ga : Option Addr) (gn gc : Nat) (GL : List (List Int)) (p : Po) (k : Int) (bh : Bool) (m : Int) (w : World), RdL F w a n c L → sizeN (lens L) ≤ 65536 → plainL L → RdL G w ga gn gc GL → sizeN (lens GL) ≤ 65536 → i64p p → i64b k → i64b m →
  Calls Try.prog f #[.slice a n c, p.v, rgV k ga gn gc, .bool bh, .int .i64 m] w (PasA w (pasteR L p k GL bh m))
end Go.Proofs.Ytfldjoiohejilaa.U
