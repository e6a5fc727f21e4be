/-
  The document's Places, Last.
-/
import Derived.Test.YtnegijbdgefaoaaNIs
namespace Go.Proofs.Ytnegijbdgefaoaa.U
open Go.RowKit
set_option linter.unusedVariables false
set_option linter.unusedSimpArgs false
set_option maxRecDepth 100000

theorem plFrom_append : ∀ (A B : List (List Int)) (s : Nat), plFrom s (A ++ B) = plFrom s A ++ plFrom (s + A.length) B
  | [], B, s => by simp [plFrom]
  | x :: A, B, s => by
    rw [List.cons_append, plFrom, plFrom, plFrom_append A B (s + 1), List.append_assoc, List.length_cons, show s + (A.length + 1) = s + 1 + A.length by omega]
theorem rowPl_len (i : Nat) (x : List Int) : (rowPl i x).length ≤ x.length + 1 := by
  unfold rowPl
  split <;> simp
theorem plFrom_len : ∀ (L : List (List Int)) (s : Nat), (plFrom s L).length ≤ sizeN (lens L)
  | [], s => by simp [plFrom]
  | x :: L, s => by
    have h1 := rowPl_len s x
    have h2 := plFrom_len L (s + 1)
    rw [plFrom, List.length_append, lens, List.map_cons, sizeN_cons]
    show _ ≤ x.length + 1 + sizeN (lens L)
    omega
theorem places_len (L : List (List Int)) : (places L).length ≤ sizeN (lens L) := plFrom_len L 0
theorem pl_take {L : List (List Int)} {i : Nat} {x : List Int} (h : L[i]? = some x) : plFrom 0 (L.take (i + 1)) = plFrom 0 (L.take i) ++ rowPl i x := by
  have hi := (List.getElem?_eq_some_iff.1 h).1
  rw [List.take_succ_eq_append_getElem hi, plFrom_append, List.length_take, Nat.min_eq_left (by omega), (List.getElem?_eq_some_iff.1 h).2, Nat.zero_add]
  simp [plFrom]
theorem rowPl_range (i : Nat) {x : List Int} (h : 0 < x.length) : rowPl i x = (List.range x.length).map fun k => (i, k) := by
  unfold rowPl
  rw [if_neg (by rintro rfl; simp at h)]
theorem range_snoc (i k : Nat) : ((List.range (k + 1)).map fun k => ((i, k) : Pl)) = ((List.range k).map fun k => ((i, k) : Pl)) ++ [(i, k)] := by
  rw [List.range_succ, List.map_append]; rfl

set_option maxHeartbeats 1000000 in
theorem rplaces_any (F : Nat → Prop) (a : Option Addr) (n c : Nat) (L : List (List Int)) (w : World) (h : RdL F w a n c L) (hs : sizeN (lens L) ≤ 262144) :
    Calls Try.prog 25 #[.slice a n c] w fun e w' => ∃ a' n' c', e = .returned (.slice a' n' c') ∧ Hid (RdP w' a' n' c' (places L) ∧ Below w.heap.size w w') := by
  have hsm := h.small
  have hl := h.len
  have HR := Lib.hid h
  have HS := Lib.hid hs
  have HL := Lib.hid hl
  clear h hs hl
  go_enter Try.func25, Try.ntmps25
  go_wp2_with fail
  go_loopw [3, 4] (fun v iv wr => ∃ (a' : Option Addr) (N c' i : Nat), v = .slice a' N c' ∧ iv = .int .i64 (i : Nat) ∧ i ≤ n ∧ Hid (Below w.heap.size w wr ∧ wr.ownsRow w.heap.size 24 2 (.slice a' N c') N (plcs (plFrom 0 (L.take i))))) (fun _ iv _ => n - (intOf iv).toNat)
  case atStart => exact ⟨none, 0, 0, 0, rfl, rfl, Nat.zero_le _, Below.refl _ _, World.ownsRow_nil _ _ _ _⟩
  case round =>
    obtain ⟨a', N, c', i, rfl, rfl, hin, HI⟩ := hrel
    by_cases hlt : i < n
    · obtain ⟨x, hx⟩ : ∃ x, L[i]? = some x := ⟨L[i]'(by have := HL.out; omega), List.getElem?_eq_getElem _⟩
      obtain ⟨b, off, ra, rc, rfl, hbl, hF, e0, hrd, -, -⟩ := HR.out.get HI.out.1 hx
      have hms := hrd.small
      have hNl : N = (plFrom 0 (L.take i)).length := by
        have := HI.out.2.1
        rw [plcs_len] at this
        omega
      have hsz : N + x.length + 1 ≤ 262144 := by
        have h1 := plFrom_len (L.take i) 0
        have h2 := size_take hx
        have h3 := size_take_le L (i + 1)
        have h4 := HS.out
        omega
      have htk := pl_take hx
      obtain ⟨P, hP⟩ : ∃ P, plFrom 0 (L.take i) = P := ⟨_, rfl⟩
      rw [hP] at htk HI
      have HTK := Lib.hid htk
      have HX := Lib.hid hx
      have HNL : Hid (P.length = N) := by show _ = _; rw [hNl, hP]
      clear htk hrd hP hNl hx
      obtain ⟨m, hm⟩ : ∃ m, x.length = m := ⟨_, rfl⟩
      rw [hm] at e0 hms hsz
      have HM := Lib.hid hm
      clear hm
      obtain ⟨wq, hwq⟩ : ∃ y, y = wr := ⟨_, rfl⟩
      subst hwq
      by_cases h0 : m = 0
      · have q1 : ((m : Int) == 0) = true := by simp [h0]
        obtain ⟨a2, c2, w2, hrun, hown, hb2⟩ := app_pl wq w.heap.size (.slice a' N c') N P (i, 0) HI.out.2 HI.out.1.size (by omega)
        have HRUN : Hid (∀ ty, (Builtin.append_ #[35, 35] ty #[.slice a' N c', .slice (some ⟨wq.heap.size, 0, none⟩) 1 1]).run Try.prog (wq.alloc (.cells #[.int .i64 (i : Nat), .int .i64 0] 24)) = .ok (.slice a2 (N + 1) c2) w2) := hrun
        have HN : Hid (Below w.heap.size w w2 ∧ w2.ownsRow w.heap.size 24 2 (.slice a2 (N + 1) c2) (N + 1) (plcs (plFrom 0 (L.take (i + 1))))) := by
          refine ⟨HI.out.1.trans hb2, ?_⟩
          rw [HTK.out, show rowPl i x = [(i, 0)] by unfold rowPl; rw [if_pos (List.eq_nil_of_length_eq_zero (by rw [HM.out]; exact h0))]]
          exact hown
        have hcl := (hb2.cell (p := ⟨b, off + i, none⟩) hbl)
        have hcl2 := (HI.out.1.cell (p := ⟨b, off + i, none⟩) hbl)
        have e2 : w2.cell? ⟨b, off + i, none⟩ = some (.slice ra m rc) := by
          have h1 := (HI.out.1.trans hb2).cell (p := ⟨b, off + i, none⟩) hbl
          rw [h1, ← hcl2]; exact e0
        have g4 : ¬ (0 : Int) < (m : Int) := by omega
        clear hrun hown hb2 hcl hcl2 h0
        go_wp2_with (at_builtin; go_must (with_reducible refine Lib.wpList_append_run _ rfl _ _ _ _ rfl _ _ rfl rfl _ _ (HRUN.out _) ?_))
        go_loopw [3, 5] (fun v kv wr => v = .slice a2 (N + 1) c2 ∧ kv = .int .i64 0 ∧ wr = w2) (fun _ _ _ => 0)
        case atStart => exact ⟨rfl, rfl, rfl⟩
        case round =>
          obtain ⟨rfl, rfl, rfl⟩ := hrel
          go_wp2
          go_roundw
          case rel => exact ⟨a2, N + 1, c2, i + 1, by first | rfl | go_num, by first | rfl | go_num, by omega, HN⟩
          case measure => simp [intOf]; omega
      · have q1 : ((m : Int) == 0) = false := by simp; omega
        have q2 : ¬ m = 0 := h0
        go_wp2_with fail
        go_loopw [3, 5] (fun v kv wr => ∃ (a2 : Option Addr) (N2 c2 k : Nat), v = .slice a2 N2 c2 ∧ kv = .int .i64 (k : Nat) ∧ k ≤ m ∧ N2 = N + k ∧ Hid (Below w.heap.size w wr ∧ wr.cell? ⟨b, off + i, none⟩ = some (.slice ra m rc) ∧ wr.ownsRow w.heap.size 24 2 (.slice a2 N2 c2) N2 (plcs (P ++ (List.range k).map fun k => (i, k))))) (fun _ kv _ => m - (intOf kv).toNat)
        case atStart => exact ⟨a', N, c', 0, rfl, rfl, Nat.zero_le _, rfl, HI.out.1, e0, by rw [show (List.range 0).map (fun k => ((i, k) : Pl)) = [] from rfl, List.append_nil]; exact HI.out.2⟩
        case round =>
          obtain ⟨a2, N2, c2, k, rfl, rfl, hkm, hN2, HK⟩ := hrel
          have e2 := HK.out.2.1
          by_cases hk : k < m
          · obtain ⟨a3, c3, w3, hrun, hown, hb3⟩ := app_pl wr w.heap.size (.slice a2 N2 c2) N2 _ (i, k) HK.out.2.2 HK.out.1.size (by omega)
            have HRUN := Lib.hid hrun
            have HN : Hid (Below w.heap.size w w3 ∧ w3.cell? ⟨b, off + i, none⟩ = some (.slice ra m rc) ∧ w3.ownsRow w.heap.size 24 2 (.slice a3 (N2 + 1) c3) (N2 + 1) (plcs (P ++ (List.range (k + 1)).map fun k => (i, k)))) := by
              refine ⟨HK.out.1.trans hb3, ?_, ?_⟩
              · rw [(HK.out.1.trans hb3).cell (p := ⟨b, off + i, none⟩) hbl, ← HK.out.1.cell (p := ⟨b, off + i, none⟩) hbl]; exact e2
              · rw [range_snoc, ← List.append_assoc]; exact hown
            have HN2 := Lib.hid hN2
            clear hrun hown hb3 hN2
            go_wp2_with (at_builtin; go_must (with_reducible refine Lib.wpList_append_run _ rfl _ _ _ _ rfl _ _ rfl rfl _ _ (HRUN.out _) ?_))
            go_roundw
            case rel => exact ⟨a3, N2 + 1, c3, k + 1, by first | rfl | go_num, by first | rfl | go_num, by omega, by have := HN2.out; omega, HN⟩
            case measure => simp [intOf]; omega
          · obtain rfl : k = m := by omega
            have HN : Hid (Below w.heap.size w wr ∧ wr.ownsRow w.heap.size 24 2 (.slice a2 N2 c2) N2 (plcs (plFrom 0 (L.take (i + 1))))) := by
              refine ⟨HK.out.1, ?_⟩
              rw [HTK.out, rowPl_range i (by rw [HM.out]; omega), HM.out]
              exact HK.out.2.2
            clear hN2
            go_wp2
            go_roundw
            case rel => exact ⟨a2, N2, c2, i + 1, by first | rfl | go_num, by first | rfl | go_num, by omega, HN⟩
            case measure => simp [intOf]; omega
    · obtain rfl : i = n := by omega
      go_wp2
      go_ret
      refine ⟨a', N, c', rfl, ?_, HI.out.1⟩
      have := HI.out.2
      rw [List.take_of_length_le (by rw [HL.out]; omega)] at this
      exact Rc.own this
theorem rlast_any (F : Nat → Prop) (a : Option Addr) (n c : Nat) (L : List (List Int)) (w : World) (h : RdL F w a n c L) (hs : sizeN (lens L) ≤ 262144) :
    Calls Try.prog 12 #[.slice a n c] w fun e w' => e = .returned (plV (lastP L)) ∧ Below w.heap.size w w' := by
  have hsm := h.small
  obtain ⟨w1, hw1⟩ : ∃ w1, w.alloc (.cells #[.int .i64 0, .int .i64 0] 24) = w1 := ⟨_, rfl⟩
  have hb1 : Below w.heap.size w w1 := by rw [← hw1]; exact bal _ _
  have g1 : w1.heap[w.heap.size]? = some (.cells #[.int .i64 0, .int .i64 0] 24 (0, 0)) := by rw [← hw1]; exact heap_alloc_new w _
  have HPC := Lib.hid (rplaces_any F a n c L w1 (h.below hb1) hs)
  have HW1 := Lib.hid hw1
  have HB1 := Lib.hid hb1
  have HG1 := Lib.hid g1
  have hpl := places_len L
  obtain ⟨P, hP⟩ : ∃ P, places L = P := ⟨_, rfl⟩
  have hlp : lastP L = P.getLast?.getD (0, 0) := by unfold lastP; rw [hP]
  rw [hP] at HPC hpl
  rw [hlp]
  obtain ⟨N, hN⟩ : ∃ N, P.length = N := ⟨_, rfl⟩
  rw [hN] at hpl
  have HOPEN : Hid (∀ (e : Ending) (w2 : World), (∃ a' n' c', e = .returned (.slice a' n' c') ∧ Hid (RdP w2 a' n' c' P ∧ Below w1.heap.size w1 w2)) → ∃ a' c', e = .returned (.slice a' N c') ∧ w2.heap[w.heap.size]? = some (.cells #[.int .i64 0, .int .i64 0] 24 (0, 0)) ∧ Hid (RdP w2 a' N c' P ∧ Below w.heap.size w w2)) := by
    rintro e w2 ⟨a', n', c', rfl, H⟩
    have hn := H.out.1.len
    rw [hN] at hn
    subst hn
    exact ⟨a', c', rfl, (H.out.2.block _ (heap_lt HG1.out)).trans HG1.out, H.out.1, HB1.out.trans (H.out.2.mono HB1.out.size)⟩
  have hNs : N ≤ 262144 := by omega
  clear h hw1 hb1 g1 hP hlp hs hpl
  by_cases h0 : N = 0
  · have hPn : P = [] := List.eq_nil_of_length_eq_zero (by omega)
    have q1 : ((N : Int) == 0) = true := by simp [h0]
    rw [hPn]
    have hr : (([] : List Pl).getLast?.getD (0, 0)) = (0, 0) := rfl
    rw [hr]
    clear hPn hN hr h0
    go_enter Try.func12, Try.ntmps12
    go_upto_region 1 with fail
    rw [HW1.out]
    go_wp2_with (go_at_call 25; refine HPC.out.mono ?_; intro e w2 hh; obtain ⟨a2, c2, he, hg2, H2⟩ := HOPEN.out e w2 hh; subst he; obtain ⟨b0, b1, y0, y1⟩ := row2 hg2; clear hh hg2)
    refine bodyPost_ret (v := plV (0, 0)) ?_ rfl ⟨rfl, ?_⟩
    · rw [results_cell1 rfl]
      go_simp
      rfl
    · have h2 := H2.out.2
      (repeat' (first | exact h2 | omega | refine setCell_below ?_ _ _ _ ?_ | refine Below.drew ?_ | refine bdrewN ?_ _))
  · have q1 : ((N : Int) == 0) = false := by simp; omega
    obtain ⟨p, hp⟩ : ∃ p, P[N - 1]? = some p := ⟨P[N - 1]'(by omega), List.getElem?_eq_getElem _⟩
    have hr : P.getLast?.getD (0, 0) = p := by rw [List.getLast?_eq_getElem?, hN, hp]; rfl
    rw [hr]
    obtain ⟨k, hk⟩ : ∃ k, N - 1 = k := ⟨_, rfl⟩
    rw [hk] at hp
    have s1 : (N : Int) - 1 = (k : Int) := by omega
    have hkN : k < N := by omega
    have HP := Lib.hid hp
    clear hr hN hp hk h0
    obtain ⟨pi, pj⟩ := p
    show Calls Try.prog 12 _ _ fun e w' => e = .returned (.agg #[.int .i64 (pi : Nat), .int .i64 (pj : Nat)]) ∧ _
    go_enter Try.func12, Try.ntmps12
    go_upto_region 1 with fail
    rw [HW1.out]
    go_wp2_with (go_at_call 25; refine HPC.out.mono ?_; intro e w2 hh; obtain ⟨a2, c2, he, hg2, H2⟩ := HOPEN.out e w2 hh; subst he; obtain ⟨b0, b1, y0, y1⟩ := row2 hg2; obtain ⟨b, off, ha, hbl, c0, c1⟩ := H2.out.1.get (Below.refl _ w2) HP.out; subst ha; clear hh hg2)
    refine bodyPost_ret (v := .agg #[.int .i64 (pi : Nat), .int .i64 (pj : Nat)]) ?_ rfl ⟨rfl, ?_⟩
    · rw [results_cell1 rfl]
      go_simp
    · have h2 := H2.out.2
      (repeat' (first | exact h2 | omega | refine setCell_below ?_ _ _ _ ?_ | refine Below.drew ?_ | refine bdrewN ?_ _))
end Go.Proofs.Ytnegijbdgefaoaa.U
