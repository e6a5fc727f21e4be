/-
  The walk of MotionThere. (MADE by wip/tools/gen_there.py.)
-/
import Derived.Test.YtikdojebnbmpoaaOLaws1
import Derived.Test.YtikdojebnbmpoaaRHand
import Derived.Deep.QuietTactic
import Derived.BigQuiet
namespace Go.Proofs.Ytikdojebnbmpoaa.U
open Go.RowKit
set_option linter.unusedVariables false
set_option linter.unusedSimpArgs false
set_option maxRecDepth 100000
theorem clip_end {L : List (List Int)} {q : Pl} (h1 : q.1 < L.length) (h2 : q.2 = (lnL L q.1).length) : clipP L (q.1 : Int) (q.2 : Int) = (q.1, (lnL L q.1).length - 1) := by
  have hL : L ≠ [] := by rintro rfl; simp at h1
  unfold clipP
  rw [if_neg hL, clipN_id (show q.1 ≤ L.length - 1 by omega)]
  congr 1
  rw [h2]
  unfold clipN
  omega
set_option maxHeartbeats 4000000 in
theorem motionThere_wideM (HM : MoveC) (a : Option Addr) (n c : Nat) (L : List (List Int)) (q : Po) (m : Mo) (W : World) (h : RdL (fun k => k < W.heap.size) W a n c L) (hq : i64p q) (hm : i64m m) (hw : WideL L) :
    Calls Try.prog 3 #[.slice a n c, q.v, m.v] W fun e w' => e = .returned (.bool true) ∧ Below W.heap.size W w' := by
  obtain ⟨u, v⟩ := q
  obtain ⟨mk, mc, ma, mt⟩ := m
  have hl := h.len
  have hsm0 := h.small
  obtain ⟨w1, hw1⟩ : ∃ w1, (W.alloc (.cells #[.int .i64 u, .int .i64 v] 24)).alloc (.cells #[.int .i32 mk, .int .i64 mc, .int .i32 ma, .int .i64 mt] 26) = w1 := ⟨_, rfl⟩
  have hb1 : Below W.heap.size W w1 := by rw [← hw1]; exact ((Below.refl _ W).alloc (Nat.le_refl _) _).alloc (by simp) _
  have g1 : w1.heap[W.heap.size]? = some (.cells #[.int .i64 u, .int .i64 v] 24 (0, 0)) := by
    rw [← hw1, ((Below.refl _ (W.alloc _)).alloc (Nat.le_refl _) _).block _ (by simp)]
    exact heap_alloc_new W _
  have g2 : w1.heap[W.heap.size + 1]? = some (.cells #[.int .i32 mk, .int .i64 mc, .int .i32 ma, .int .i64 mt] 26 (0, 0)) := by
    rw [← hw1]
    have := heap_alloc_new (W.alloc (.cells #[.int .i64 u, .int .i64 v] 24)) (.cells #[.int .i32 mk, .int .i64 mc, .int .i32 ma, .int .i64 mt] 26)
    simpa using this
  have h1 := h.below hb1
  have HSMQ : Hid (Calls Try.prog 7 #[.slice a n c] w1 fun e w2 => e = .returned (.bool (smallL L)) ∧ w1 = w2) := small_wide _ a n c L w1 h1 hw
  have HAW : Hid (∀ w' : World, Calls Try.prog 8 #[] w' fun e w2 => e = .returned (.bool true) ∧ Below w'.heap.size w' w2) := fun w' => awake_any HM w'
  have HW1 := Lib.hid hw1
  have HB1 := Lib.hid hb1
  have G1 := Lib.hid g1
  have G2 := Lib.hid g2
  obtain ⟨sm, hsm⟩ : ∃ sm, smallL L = sm := ⟨_, rfl⟩
  rw [hsm] at HSMQ
  show Calls Try.prog _ #[.slice a n c, .agg #[.int .i64 u, .int .i64 v], .agg #[.int .i32 mk, .int .i64 mc, .int .i32 ma, .int .i64 mt]] W _
  cases sm with
  | false =>
    clear h h1 hw1 hb1 g1 g2 hsm hl
    go_enter Try.func3, Try.ntmps3
    go_upto_region 1 with fail
    rw [HW1.out]
    go_wp2_with (first
      | (go_at_call 7; refine (HSMQ.out).mono ?_; rintro e w2 ⟨rfl, hw2⟩; subst hw2)
      | (go_at_call 8; refine (HAW.out _).mono ?_; rintro e w3 ⟨rfl, hb3⟩))
    go_ret
    exact ⟨rfl, btr HB1.out hb3⟩
  | true =>
    by_cases hn0 : n = 0
    · have e0 : ((n : Int) == 0) = true := by simp; omega
      clear h h1 hw1 hb1 g1 g2 hsm hl hn0
      go_enter Try.func3, Try.ntmps3
      go_upto_region 1 with fail
      rw [HW1.out]
      go_wp2_with (first
        | (go_at_call 7; refine (HSMQ.out).mono ?_; rintro e w2 ⟨rfl, hw2⟩; subst hw2)
        | (go_at_call 8; refine (HAW.out _).mono ?_; rintro e w3 ⟨rfl, hb3⟩))
      go_ret
      exact ⟨rfl, btr HB1.out hb3⟩
    have e0 : ((n : Int) == 0) = false := by simp; omega
    have hL : L ≠ [] := by rintro rfl; simp at hl; omega
    have hsz := smallL_wide hsm
    have hcp := clipP_ok hL u v
    obtain ⟨⟨c1, c2⟩, hcv⟩ : ∃ cp, clipP L u v = cp := ⟨_, rfl⟩
    rw [hcv] at hcp
    have HCL : Hid (Calls Try.prog 9 #[.slice a n c, .agg #[.int .i64 u, .int .i64 v]] w1 fun e w2 => e = .returned (.agg #[.int .i64 (c1 : Nat), .int .i64 (c2 : Nat)]) ∧ Below w1.heap.size w1 w2) := by
      have := rclip_any _ a n c L ⟨u, v⟩ w1 h1 hq
      simp only at this
      rw [hcv] at this
      exact this
    have HCQ : Hid (∀ (x y : Nat) (w' : World), (x : Int) ≤ 9223372036854775807 → (y : Int) ≤ 9223372036854775807 → Below w1.heap.size w1 w' → Calls Try.prog 9 #[.slice a n c, .agg #[.int .i64 (x : Nat), .int .i64 (y : Nat)]] w' fun e w2 => e = .returned (plV (clipP L (x : Int) (y : Int))) ∧ Below w'.heap.size w' w2) := by
      intro x y w' hx hy hb
      exact rclip_any _ a n c L ⟨(x : Nat), (y : Nat)⟩ w' (h1.below hb) ⟨⟨by show _ ≤ (x : Int); omega, hx⟩, by show _ ≤ (y : Int); omega, hy⟩
    have HMV : Hid (∀ (op : Bool) (w' : World), Below w1.heap.size w1 w' → Calls Try.prog 10 #[.slice a n c, .agg #[.int .i64 u, .int .i64 v], .agg #[.int .i32 mk, .int .i64 mc, .int .i32 ma, .int .i64 mt], .bool op] w' fun e w2 => e = .returned (mvV (mvR L (c1, c2) ⟨mk, mc, ma, mt⟩ op)) ∧ Below w'.heap.size w' w2) := by
      intro op w' hb
      have := HM _ a n c L ⟨u, v⟩ ⟨mk, mc, ma, mt⟩ op w' (h1.below hb) hq hm hsz hL
      simp only at this
      rw [hcv] at this
      exact this
    have HLN : Hid (∀ (W' : World) (i : Nat), Below w1.heap.size w1 W' → i < n → ∃ b off ra rc, a = some ⟨b, off, none⟩ ∧ b < w1.heap.size ∧ W'.cell? ⟨b, off + i, none⟩ = some (.slice ra (lnL L i).length rc) ∧ (lnL L i).length ≤ 9223372036854775807) := by
      intro W' i hW' hi
      obtain ⟨b, off, ra, rc, e1, _, e3, e4, e5⟩ := okP.line (p := (i, 0)) h1 ⟨by simp only; omega, by simp⟩ hW'
      exact ⟨b, off, ra, rc, e1, e3, e4, e5.small⟩
    have HOK := Lib.hid hcp
    have HL := Lib.hid hl
    obtain ⟨a0, a1, -, -⟩ := row2 g1
    clear h h1 hw1 hb1 g1 g2 hsm hl hL hsz hcp hcv hq hm
    go_enter Try.func3, Try.ntmps3
    go_upto_region 1 with fail
    rw [HW1.out]
    go_upto_region 4 with (first
      | (go_at_call 7; refine (HSMQ.out).mono ?_; rintro e w2 ⟨rfl, hw2⟩; subst hw2)
      | (go_at_call 9; refine HCL.out.mono ?_; rintro e w5 ⟨rfl, hb5⟩))
    obtain ⟨X5, hX5⟩ : ∃ X, w5.alloc (.cells #[.int .i64 (c1 : Nat), .int .i64 (c2 : Nat)] 24) = X := ⟨_, rfl⟩
    have D5 : Hid (Below w1.heap.size w1 X5) := by show Below _ _ _; rw [← hX5]; exact btr hb5 (bal _ _)
    have hh5 : At X5 w5.heap.size (c1, c2) := by rw [← hX5]; exact heap_alloc_new w5 _
    obtain ⟨Bh, hBh⟩ : ∃ S, w5.heap.size = S := ⟨_, rfl⟩
    rw [hBh] at hh5
    have HX5 := Lib.hid hX5
    have HBH := Lib.hid hBh
    clear hX5 hBh hb5 a0 a1
    rw [HX5.out, HBH.out]
    have HH5 := Lib.hid hh5
    clear hh5
    go_wp2_with fail
    go_loopw [8] (fun v8 wr => ∃ i : Nat, v8 = .int .i64 (i : Nat) ∧ i ≤ 2 ∧ Hid (Below X5.heap.size X5 wr)) (fun v8 _ => 2 - (intOf v8).toNat)
    case atStart => exact ⟨0, rfl, by omega, Below.refl _ _⟩
    case round =>
      obtain ⟨i, rfl, hi2, HBW⟩ := hrel
      have HWR : Hid (Below w1.heap.size w1 wr) := btr D5.out HBW.out
      obtain ⟨p0, p1, -, -⟩ := row2 (keep2 G1.out HWR.out)
      have gm := keep2 G2.out HWR.out
      have m0 : wr.cell? ⟨W.heap.size + 1, 0, none⟩ = some (.int .i32 mk) := by rw [cell_row gm]; rfl
      have m1 : wr.cell? ⟨W.heap.size + 1, 1, none⟩ = some (.int .i64 mc) := by rw [cell_row gm]; rfl
      have m2 : wr.cell? ⟨W.heap.size + 1, 2, none⟩ = some (.int .i32 ma) := by rw [cell_row gm]; rfl
      have m3 : wr.cell? ⟨W.heap.size + 1, 3, none⟩ = some (.int .i64 mt) := by rw [cell_row gm]; rfl
      clear gm
      by_cases hlt : i < 2
      · obtain ⟨op, hop⟩ : ∃ op, ((i : Int) == 1) = op := ⟨_, rfl⟩
        have HOP := Lib.hid hop
        obtain ⟨⟨qi, qj⟩, qh, qk, hr, hcs⟩ := mvR_ok ⟨mk, mc, ma, mt⟩ op HOK.out
        have hmv := HMV.out op wr HWR.out
        rw [hr] at hmv
        unfold mvV plV at hmv
        simp only at hmv
        have HMO := Lib.hid hmv
        have hltI : ((i : Nat) : Int) < 2 := by omega
        clear hmv hr
        go_upto_region 8 with (go_at_call 10; refine HMO.out.mono ?_; rintro e w6 ⟨rfl, hb6⟩)
        obtain ⟨X, hX⟩ : ∃ X, w6.alloc (.cells #[.int .i64 (qi : Nat), .int .i64 (qj : Nat)] 24) = X := ⟨_, rfl⟩
        have D6 : Hid (Below wr.heap.size wr X) := by show Below _ _ _; rw [← hX]; exact btr hb6 (bal _ _)
        have hq6 : At X w6.heap.size (qi, qj) := by rw [← hX]; exact heap_alloc_new w6 _
        obtain ⟨Bq, hBq⟩ : ∃ S, w6.heap.size = S := ⟨_, rfl⟩
        rw [hBq] at hq6
        have HX := Lib.hid hX
        have HBQ := Lib.hid hBq
        clear hX hBq hb6 p0 p1 m0 m1 m2 m3
        rw [HX.out, HBQ.out]
        obtain ⟨q0, q1, y0, y1⟩ := row2 hq6
        obtain ⟨e2, e3, -, -⟩ := row2 (keep2 HH5.out (btr HBW.out D6.out))
        simp only at q0 q1 e2 e3
        have HQ6 := Lib.hid hq6
        clear hq6
        have hqn : qi < n ∧ (qj : Int) ≤ 9223372036854775807 := by
          have key : ∀ k, k < n → (lnL L k).length ≤ 9223372036854775807 := fun k hk => (HLN.out w1 k (Below.refl _ _) hk).choose_spec.choose_spec.choose_spec.choose_spec.2.2.2
          rcases hcs with ⟨-, e, -⟩ | ⟨-, e | ⟨-, e1, e2⟩⟩
          · have e1 : qi = c1 := congrArg Prod.fst e
            have e2 : qj = c2 := congrArg Prod.snd e
            have h1 := HOK.out.1; have h2 := HOK.out.2; have h3 := HL.out
            simp only at h1 h2
            rw [← e1] at h1 h2
            rw [← e2] at h2
            have := key qi (by omega)
            exact ⟨by omega, by omega⟩
          · have h1 := e.1; have h2 := e.2; have h3 := HL.out
            simp only at h1 h2
            have := key qi (by omega)
            exact ⟨by omega, by omega⟩
          · have h3 := HL.out
            simp only at e1 e2
            have := key qi (by omega)
            exact ⟨by omega, by omega⟩
        obtain ⟨hqn1, hqj⟩ := hqn
        obtain ⟨b, off, ra, rc, hab, hbl, e0', hms⟩ := HLN.out X qi (btr HWR.out D6.out) hqn1
        subst hab
        obtain ⟨ml, hml⟩ : ∃ ml, (lnL L qi).length = ml := ⟨_, rfl⟩
        rw [hml] at e0' hms
        have hqiI : (qi : Int) < (n : Int) := by omega
        have hqi0 : (0 : Int) ≤ (qi : Int) := by omega
        have hgeI : decide ((0 : Int) ≤ (qi : Int)) = true := by simp
        have hltN : decide ((qi : Int) < (n : Int)) = true := by simp; omega
        have hltN2 : decide (qi < n) = true := by simp; omega
        have HD : Hid (Below w1.heap.size w1 X) := btr HWR.out D6.out
        have HBX : Hid (Below X5.heap.size X5 X) := btr HBW.out D6.out
        rcases hcs with ⟨rfl, hE, rfl⟩ | ⟨rfl, hE⟩
        · have e1 : qi = c1 := congrArg Prod.fst hE
          have e2' : qj = c2 := congrArg Prod.snd hE
          subst e1 e2'
          clear hE
          cases op with
          | false =>
            go_quiet (fail)
            go_wp2_with fail
            go_quiet (fail)
            go_wp2_with fail
            go_roundw
            case rel => exact ⟨i + 1, by go_num, by omega, (bdrewN HBX.out _)⟩
            case measure => simp [intOf]; omega
          | true =>
            by_cases hj : qj = ml
            · have j1 : ((qj : Int) == (ml : Int)) = true := by simp; omega
              go_quiet (fail)
              go_wp2_with fail
              go_quiet (fail)
              go_wp2_with fail
              go_roundw
              case rel => exact ⟨i + 1, by go_num, by omega, (bdrewN HBX.out _)⟩
              case measure => simp [intOf]; omega
            · have j1 : ((qj : Int) == (ml : Int)) = false := by simp; omega
              go_quiet (fail)
              go_wp2_with fail
              go_quiet (fail)
              go_wp2_with fail
              go_roundw
              case rel => exact ⟨i + 1, by go_num, by omega, (bdrewN HBX.out _)⟩
              case measure => simp [intOf]; omega
        · cases op with
          | false =>
            have hE : okP L (qi, qj) := by
              rcases hE with hE | ⟨hE, _⟩
              · exact hE
              · cases hE
            have HCR : Hid (clipP L (qi : Int) (qj : Int) = (qi, qj)) := clipP_id hE
            clear hE
            go_quiet (fail)
            go_wp2_with fail
            obtain ⟨X8, hX8⟩ : ∃ x, x = X.drewN nq := ⟨_, rfl⟩
            rw [← hX8]
            have HB8 : Hid (Below X.heap.size X X8) := by show Below _ _ _; rw [hX8]; exact bdrewN (Below.refl _ _) _
            have HS : Hid (∀ w' : World, Below X8.heap.size X8 w' → (fun w' => w'.cell? ⟨Bq, 0, none⟩ = some (.int .i64 (qi : Nat)) ∧ w'.cell? ⟨Bq, 1, none⟩ = some (.int .i64 (qj : Nat))) w') := fun w' hb => by
              obtain ⟨z0, z1, -, -⟩ := row2 (keep2 HQ6.out (btr HB8.out hb))
              exact ⟨z0, z1⟩
            have HCX : Hid (∀ w' : World, Below X8.heap.size X8 w' → Calls Try.prog 9 #[.slice (some ⟨b, off, none⟩) n c, .agg #[.int .i64 (qi : Nat), .int .i64 (qj : Nat)]] w' fun e w2 => e = .returned (.agg #[.int .i64 (qi : Nat), .int .i64 (qj : Nat)]) ∧ Below X8.heap.size X8 w2) := by
              intro w' hb
              have := HCQ.out qi qj w' (by omega) hqj (btr HD.out (btr HB8.out hb))
              rw [HCR.out] at this
              exact this.mono (fun e w2 h => ⟨h.1, hb.trans (h.2.mono hb.size)⟩)
            obtain ⟨z0, z1⟩ := HS.out X8 (Below.refl _ _)
            clear hX8 q0 q1 y0 y1 e2 e3
            refine wp_region_held (S := fun w' => w'.cell? ⟨Bq, 0, none⟩ = some (.int .i64 (qi : Nat)) ∧ w'.cell? ⟨Bq, 1, none⟩ = some (.int .i64 (qj : Nat))) (by kernel_rfl) ?_
            change wpAnyH _ _ _ _ _ _ _ _ (World.drew _)
            have hHeld : (fun w' => w'.cell? ⟨Bq, 0, none⟩ = some (.int .i64 (qi : Nat)) ∧ w'.cell? ⟨Bq, 1, none⟩ = some (.int .i64 (qj : Nat))) (World.drew X8) := ⟨z0, z1⟩
            refine takeH 0 (some 64) (v := ?_) rfl rfl (by kernel_rfl) (by kernel_rfl) (by kernel_rfl) (fun _ _ _ h => h) (Or.inl ⟨by kernel_rfl, ?_⟩) hHeld ?_
            rotate_left
            · intro w' hSw
              (try dsimp only at hSw)
              go_simp
              try with_reducible rfl
            (try simp only [Act.put, List.setIfInBounds_toArray, List.set_cons_zero, List.set_cons_succ])
            refine takeH 1 (some 65) (v := ?_) rfl rfl (by kernel_rfl) (by kernel_rfl) (by kernel_rfl) (fun _ _ _ h => h) (Or.inl ⟨by kernel_rfl, ?_⟩) hHeld ?_
            rotate_left
            · intro w' hSw
              (try dsimp only at hSw)
              go_simp
              try with_reducible rfl
            (try simp only [Act.put, List.setIfInBounds_toArray, List.set_cons_zero, List.set_cons_succ])
            refine takeH 2 (some 66) (v := ?_) rfl rfl (by kernel_rfl) (by kernel_rfl) (by kernel_rfl) (fun _ _ _ h => h) (Or.inl ⟨by kernel_rfl, ?_⟩) hHeld ?_
            rotate_left
            · intro w' hSw
              (try dsimp only at hSw)
              go_simp
              try with_reducible rfl
            (try simp only [Act.put, List.setIfInBounds_toArray, List.set_cons_zero, List.set_cons_succ])
            refine takeH 3 (some 67) (v := undef) rfl rfl (by kernel_rfl) (by kernel_rfl) (by kernel_rfl) (fun _ _ _ h => h) (Or.inr ⟨by kernel_rfl, rfl⟩) hHeld ?_
            (try simp only [Act.put, List.setIfInBounds_toArray, List.set_cons_zero, List.set_cons_succ])
            refine takeH 4 (some 68) (v := undef) rfl rfl (by kernel_rfl) (by kernel_rfl) (by kernel_rfl) (fun _ _ _ h => h) (Or.inr ⟨by kernel_rfl, rfl⟩) hHeld ?_
            (try simp only [Act.put, List.setIfInBounds_toArray, List.set_cons_zero, List.set_cons_succ])
            refine takeH 5 (some 69) (v := undef) rfl rfl (by kernel_rfl) (by kernel_rfl) (by kernel_rfl) (fun _ _ _ h => h) (Or.inr ⟨by kernel_rfl, rfl⟩) hHeld ?_
            (try simp only [Act.put, List.setIfInBounds_toArray, List.set_cons_zero, List.set_cons_succ])
            refine takeH 6 (some 70) (v := undef) rfl rfl (by kernel_rfl) (by kernel_rfl) (by kernel_rfl) (fun _ _ _ h => h) (Or.inr ⟨by kernel_rfl, rfl⟩) hHeld ?_
            (try simp only [Act.put, List.setIfInBounds_toArray, List.set_cons_zero, List.set_cons_succ])
            refine takeH 7 (some 71) (v := undef) rfl rfl (by kernel_rfl) (by kernel_rfl) (by kernel_rfl) (fun _ _ _ h => h) (Or.inr ⟨by kernel_rfl, rfl⟩) hHeld ?_
            (try simp only [Act.put, List.setIfInBounds_toArray, List.set_cons_zero, List.set_cons_succ])
            refine takeH 8 (some 72) (v := undef) rfl rfl (by kernel_rfl) (by kernel_rfl) (by kernel_rfl) (fun _ _ _ h => h) (Or.inr ⟨by kernel_rfl, rfl⟩) hHeld ?_
            (try simp only [Act.put, List.setIfInBounds_toArray, List.set_cons_zero, List.set_cons_succ])
            refine takeH 9 (some 73) (v := undef) rfl rfl (by kernel_rfl) (by kernel_rfl) (by kernel_rfl) (fun _ _ _ h => h) (Or.inr ⟨by kernel_rfl, rfl⟩) hHeld ?_
            (try simp only [Act.put, List.setIfInBounds_toArray, List.set_cons_zero, List.set_cons_succ])
            refine takeH 10 (some 74) (v := ?_) rfl rfl (by kernel_rfl) (by kernel_rfl) (by kernel_rfl) (fun _ _ _ h => h) (Or.inl ⟨by kernel_rfl, ?_⟩) hHeld ?_
            rotate_left
            · intro w' hSw
              (try dsimp only at hSw)
              go_simp
              try with_reducible rfl
            (try simp only [Act.put, List.setIfInBounds_toArray, List.set_cons_zero, List.set_cons_succ])
            refine takeH 11 (some 75) (v := ?_) rfl rfl (by kernel_rfl) (by kernel_rfl) (by kernel_rfl) (fun _ _ _ h => h) (Or.inl ⟨by kernel_rfl, ?_⟩) hHeld ?_
            rotate_left
            · intro w' hSw
              (try dsimp only at hSw)
              go_simp
              try with_reducible rfl
            (try simp only [Act.put, List.setIfInBounds_toArray, List.set_cons_zero, List.set_cons_succ])
            refine takeH 12 (some 76) (v := ?_) rfl rfl (by kernel_rfl) (by kernel_rfl) (by kernel_rfl) (fun _ _ _ h => h) (Or.inl ⟨by kernel_rfl, ?_⟩) hHeld ?_
            rotate_left
            · intro w' hSw
              (try dsimp only at hSw)
              go_simp
              try with_reducible rfl
            (try simp only [Act.put, List.setIfInBounds_toArray, List.set_cons_zero, List.set_cons_succ])
            refine takeH 13 (some 77) (v := ?_) rfl rfl (by kernel_rfl) (by kernel_rfl) (by kernel_rfl) (fun _ _ _ h => h) (Or.inl ⟨by kernel_rfl, ?_⟩) hHeld ?_
            rotate_left
            · intro w' hSw
              (try dsimp only at hSw)
              go_simp
              try with_reducible rfl
            (try simp only [Act.put, List.setIfInBounds_toArray, List.set_cons_zero, List.set_cons_succ])
            refine takeH 14 (some 78) (v := ?_) rfl rfl (by kernel_rfl) (by kernel_rfl) (by kernel_rfl) (fun _ _ _ h => h) (Or.inl ⟨by kernel_rfl, ?_⟩) hHeld ?_
            rotate_left
            · intro w' hSw
              (try dsimp only at hSw)
              go_simp
              try with_reducible rfl
            (try simp only [Act.put, List.setIfInBounds_toArray, List.set_cons_zero, List.set_cons_succ])
            refine takeH 15 (some 79) (v := ?_) rfl rfl (by kernel_rfl) (by kernel_rfl) (by kernel_rfl) (fun _ _ _ h => h) (Or.inl ⟨by kernel_rfl, ?_⟩) hHeld ?_
            rotate_left
            · intro w' hSw
              (try dsimp only at hSw)
              go_simp
              try with_reducible rfl
            (try simp only [Act.put, List.setIfInBounds_toArray, List.set_cons_zero, List.set_cons_succ])
            refine takeH 17 (some 81) (v := ?_) rfl rfl (by kernel_rfl) (by kernel_rfl) (by kernel_rfl) (fun _ _ _ h => h) (Or.inl ⟨by kernel_rfl, ?_⟩) hHeld ?_
            rotate_left
            · intro w' hSw
              (try dsimp only at hSw)
              go_simp
              try with_reducible rfl
            (try simp only [Act.put, List.setIfInBounds_toArray, List.set_cons_zero, List.set_cons_succ])
            refine callH 16 (some 80) (f := 9) (args := #[.slice (some ⟨b, off, none⟩) n c, .agg #[.int .i64 (qi : Nat), .int .i64 (qj : Nat)]]) rfl rfl (by kernel_rfl) (by kernel_rfl) (by kernel_rfl) ?_
            refine (HCX.out _ (Below.refl _ _).drew).mono ?_; rintro e x1 ⟨rfl, hb9⟩
            have hHeld1 := HS.out _ hb9
            refine ⟨_, rfl, hHeld1, ?_⟩
            (try simp only [Act.put, List.setIfInBounds_toArray, List.set_cons_zero, List.set_cons_succ])
            refine takeH 18 (some 82) (v := ?_) rfl rfl (by kernel_rfl) (by kernel_rfl) (by kernel_rfl) (fun _ _ _ h => h) (Or.inl ⟨by kernel_rfl, ?_⟩) hHeld1 ?_
            rotate_left
            · intro w' hSw
              (try dsimp only at hSw)
              go_simp
              try with_reducible rfl
            (try simp only [Act.put, List.setIfInBounds_toArray, List.set_cons_zero, List.set_cons_succ])
            refine takeH 19 (some 83) (v := ?_) rfl rfl (by kernel_rfl) (by kernel_rfl) (by kernel_rfl) (fun _ _ _ h => h) (Or.inl ⟨by kernel_rfl, ?_⟩) hHeld1 ?_
            rotate_left
            · intro w' hSw
              (try dsimp only at hSw)
              go_simp
              try with_reducible rfl
            (try simp only [Act.put, List.setIfInBounds_toArray, List.set_cons_zero, List.set_cons_succ])
            refine takeH 20 (some 84) (v := ?_) rfl rfl (by kernel_rfl) (by kernel_rfl) (by kernel_rfl) (fun _ _ _ h => h) (Or.inl ⟨by kernel_rfl, ?_⟩) hHeld1 ?_
            rotate_left
            · intro w' hSw
              (try dsimp only at hSw)
              go_simp
              try with_reducible rfl
            (try simp only [Act.put, List.setIfInBounds_toArray, List.set_cons_zero, List.set_cons_succ])
            refine takeH 21 (some 85) (v := undef) rfl rfl (by kernel_rfl) (by kernel_rfl) (by kernel_rfl) (fun _ _ _ h => h) (Or.inr ⟨by kernel_rfl, rfl⟩) hHeld1 ?_
            (try simp only [Act.put, List.setIfInBounds_toArray, List.set_cons_zero, List.set_cons_succ])
            refine takeH 22 (some 86) (v := undef) rfl rfl (by kernel_rfl) (by kernel_rfl) (by kernel_rfl) (fun _ _ _ h => h) (Or.inr ⟨by kernel_rfl, rfl⟩) hHeld1 ?_
            (try simp only [Act.put, List.setIfInBounds_toArray, List.set_cons_zero, List.set_cons_succ])
            refine takeH 23 (some 87) (v := ?_) rfl rfl (by kernel_rfl) (by kernel_rfl) (by kernel_rfl) (fun _ _ _ h => h) (Or.inl ⟨by kernel_rfl, ?_⟩) hHeld1 ?_
            rotate_left
            · intro w' hSw
              (try dsimp only at hSw)
              go_simp
              try with_reducible rfl
            (try simp only [Act.put, List.setIfInBounds_toArray, List.set_cons_zero, List.set_cons_succ])
            refine takeH 24 (some 88) (v := ?_) rfl rfl (by kernel_rfl) (by kernel_rfl) (by kernel_rfl) (fun _ _ _ h => h) (Or.inl ⟨by kernel_rfl, ?_⟩) hHeld1 ?_
            rotate_left
            · intro w' hSw
              (try dsimp only at hSw)
              go_simp
              try with_reducible rfl
            (try simp only [Act.put, List.setIfInBounds_toArray, List.set_cons_zero, List.set_cons_succ])
            refine wpAnyH_done (by kernel_rfl) ?_ _
            have HBZ : Hid (Below X5.heap.size X5 x1) := btr HBX.out (btr HB8.out hb9)
            go_wp2_with fail
            go_roundw
            case rel => exact ⟨i + 1, by go_num, by omega, HBZ.out⟩
            case measure => simp [intOf]; omega
          | true =>
            by_cases hE0 : okP L (qi, qj)
            · have hE := hE0
              clear hE0
              have HCR : Hid (clipP L (qi : Int) (qj : Int) = (qi, qj)) := clipP_id hE
              clear hE
              by_cases hj : qj = ml
              · subst hj
                go_quiet (fail)
                go_wp2_with fail
                obtain ⟨X8, hX8⟩ : ∃ x, x = X.drewN nq := ⟨_, rfl⟩
                rw [← hX8]
                have HB8 : Hid (Below X.heap.size X X8) := by show Below _ _ _; rw [hX8]; exact bdrewN (Below.refl _ _) _
                have HS : Hid (∀ w' : World, Below X8.heap.size X8 w' → (fun w' => w'.cell? ⟨Bq, 0, none⟩ = some (.int .i64 (qi : Nat)) ∧ w'.cell? ⟨Bq, 1, none⟩ = some (.int .i64 (qj : Nat))) w') := fun w' hb => by
                  obtain ⟨z0, z1, -, -⟩ := row2 (keep2 HQ6.out (btr HB8.out hb))
                  exact ⟨z0, z1⟩
                have HCX : Hid (∀ w' : World, Below X8.heap.size X8 w' → Calls Try.prog 9 #[.slice (some ⟨b, off, none⟩) n c, .agg #[.int .i64 (qi : Nat), .int .i64 (qj : Nat)]] w' fun e w2 => e = .returned (.agg #[.int .i64 (qi : Nat), .int .i64 (qj : Nat)]) ∧ Below X8.heap.size X8 w2) := by
                  intro w' hb
                  have := HCQ.out qi qj w' (by omega) hqj (btr HD.out (btr HB8.out hb))
                  rw [HCR.out] at this
                  exact this.mono (fun e w2 h => ⟨h.1, hb.trans (h.2.mono hb.size)⟩)
                obtain ⟨z0, z1⟩ := HS.out X8 (Below.refl _ _)
                clear hX8 q0 q1 y0 y1 e2 e3
                refine wp_region_held (S := fun w' => w'.cell? ⟨Bq, 0, none⟩ = some (.int .i64 (qi : Nat)) ∧ w'.cell? ⟨Bq, 1, none⟩ = some (.int .i64 (qj : Nat))) (by kernel_rfl) ?_
                change wpAnyH _ _ _ _ _ _ _ _ (World.drew _)
                have hHeld : (fun w' => w'.cell? ⟨Bq, 0, none⟩ = some (.int .i64 (qi : Nat)) ∧ w'.cell? ⟨Bq, 1, none⟩ = some (.int .i64 (qj : Nat))) (World.drew X8) := ⟨z0, z1⟩
                refine takeH 0 (some 64) (v := ?_) rfl rfl (by kernel_rfl) (by kernel_rfl) (by kernel_rfl) (fun _ _ _ h => h) (Or.inl ⟨by kernel_rfl, ?_⟩) hHeld ?_
                rotate_left
                · intro w' hSw
                  (try dsimp only at hSw)
                  go_simp
                  try with_reducible rfl
                (try simp only [Act.put, List.setIfInBounds_toArray, List.set_cons_zero, List.set_cons_succ])
                refine takeH 1 (some 65) (v := ?_) rfl rfl (by kernel_rfl) (by kernel_rfl) (by kernel_rfl) (fun _ _ _ h => h) (Or.inl ⟨by kernel_rfl, ?_⟩) hHeld ?_
                rotate_left
                · intro w' hSw
                  (try dsimp only at hSw)
                  go_simp
                  try with_reducible rfl
                (try simp only [Act.put, List.setIfInBounds_toArray, List.set_cons_zero, List.set_cons_succ])
                refine takeH 2 (some 66) (v := ?_) rfl rfl (by kernel_rfl) (by kernel_rfl) (by kernel_rfl) (fun _ _ _ h => h) (Or.inl ⟨by kernel_rfl, ?_⟩) hHeld ?_
                rotate_left
                · intro w' hSw
                  (try dsimp only at hSw)
                  go_simp
                  try with_reducible rfl
                (try simp only [Act.put, List.setIfInBounds_toArray, List.set_cons_zero, List.set_cons_succ])
                refine takeH 3 (some 67) (v := undef) rfl rfl (by kernel_rfl) (by kernel_rfl) (by kernel_rfl) (fun _ _ _ h => h) (Or.inr ⟨by kernel_rfl, rfl⟩) hHeld ?_
                (try simp only [Act.put, List.setIfInBounds_toArray, List.set_cons_zero, List.set_cons_succ])
                refine takeH 4 (some 68) (v := undef) rfl rfl (by kernel_rfl) (by kernel_rfl) (by kernel_rfl) (fun _ _ _ h => h) (Or.inr ⟨by kernel_rfl, rfl⟩) hHeld ?_
                (try simp only [Act.put, List.setIfInBounds_toArray, List.set_cons_zero, List.set_cons_succ])
                refine takeH 5 (some 69) (v := undef) rfl rfl (by kernel_rfl) (by kernel_rfl) (by kernel_rfl) (fun _ _ _ h => h) (Or.inr ⟨by kernel_rfl, rfl⟩) hHeld ?_
                (try simp only [Act.put, List.setIfInBounds_toArray, List.set_cons_zero, List.set_cons_succ])
                refine takeH 6 (some 70) (v := undef) rfl rfl (by kernel_rfl) (by kernel_rfl) (by kernel_rfl) (fun _ _ _ h => h) (Or.inr ⟨by kernel_rfl, rfl⟩) hHeld ?_
                (try simp only [Act.put, List.setIfInBounds_toArray, List.set_cons_zero, List.set_cons_succ])
                refine takeH 7 (some 71) (v := undef) rfl rfl (by kernel_rfl) (by kernel_rfl) (by kernel_rfl) (fun _ _ _ h => h) (Or.inr ⟨by kernel_rfl, rfl⟩) hHeld ?_
                (try simp only [Act.put, List.setIfInBounds_toArray, List.set_cons_zero, List.set_cons_succ])
                refine takeH 8 (some 72) (v := undef) rfl rfl (by kernel_rfl) (by kernel_rfl) (by kernel_rfl) (fun _ _ _ h => h) (Or.inr ⟨by kernel_rfl, rfl⟩) hHeld ?_
                (try simp only [Act.put, List.setIfInBounds_toArray, List.set_cons_zero, List.set_cons_succ])
                refine takeH 9 (some 73) (v := undef) rfl rfl (by kernel_rfl) (by kernel_rfl) (by kernel_rfl) (fun _ _ _ h => h) (Or.inr ⟨by kernel_rfl, rfl⟩) hHeld ?_
                (try simp only [Act.put, List.setIfInBounds_toArray, List.set_cons_zero, List.set_cons_succ])
                refine takeH 10 (some 74) (v := ?_) rfl rfl (by kernel_rfl) (by kernel_rfl) (by kernel_rfl) (fun _ _ _ h => h) (Or.inl ⟨by kernel_rfl, ?_⟩) hHeld ?_
                rotate_left
                · intro w' hSw
                  (try dsimp only at hSw)
                  go_simp
                  try with_reducible rfl
                (try simp only [Act.put, List.setIfInBounds_toArray, List.set_cons_zero, List.set_cons_succ])
                refine takeH 11 (some 75) (v := ?_) rfl rfl (by kernel_rfl) (by kernel_rfl) (by kernel_rfl) (fun _ _ _ h => h) (Or.inl ⟨by kernel_rfl, ?_⟩) hHeld ?_
                rotate_left
                · intro w' hSw
                  (try dsimp only at hSw)
                  go_simp
                  try with_reducible rfl
                (try simp only [Act.put, List.setIfInBounds_toArray, List.set_cons_zero, List.set_cons_succ])
                refine takeH 12 (some 76) (v := ?_) rfl rfl (by kernel_rfl) (by kernel_rfl) (by kernel_rfl) (fun _ _ _ h => h) (Or.inl ⟨by kernel_rfl, ?_⟩) hHeld ?_
                rotate_left
                · intro w' hSw
                  (try dsimp only at hSw)
                  go_simp
                  try with_reducible rfl
                (try simp only [Act.put, List.setIfInBounds_toArray, List.set_cons_zero, List.set_cons_succ])
                refine takeH 13 (some 77) (v := ?_) rfl rfl (by kernel_rfl) (by kernel_rfl) (by kernel_rfl) (fun _ _ _ h => h) (Or.inl ⟨by kernel_rfl, ?_⟩) hHeld ?_
                rotate_left
                · intro w' hSw
                  (try dsimp only at hSw)
                  go_simp
                  try with_reducible rfl
                (try simp only [Act.put, List.setIfInBounds_toArray, List.set_cons_zero, List.set_cons_succ])
                refine takeH 14 (some 78) (v := ?_) rfl rfl (by kernel_rfl) (by kernel_rfl) (by kernel_rfl) (fun _ _ _ h => h) (Or.inl ⟨by kernel_rfl, ?_⟩) hHeld ?_
                rotate_left
                · intro w' hSw
                  (try dsimp only at hSw)
                  go_simp
                  try with_reducible rfl
                (try simp only [Act.put, List.setIfInBounds_toArray, List.set_cons_zero, List.set_cons_succ])
                refine takeH 15 (some 79) (v := ?_) rfl rfl (by kernel_rfl) (by kernel_rfl) (by kernel_rfl) (fun _ _ _ h => h) (Or.inl ⟨by kernel_rfl, ?_⟩) hHeld ?_
                rotate_left
                · intro w' hSw
                  (try dsimp only at hSw)
                  go_simp
                  try with_reducible rfl
                (try simp only [Act.put, List.setIfInBounds_toArray, List.set_cons_zero, List.set_cons_succ])
                refine takeH 17 (some 81) (v := ?_) rfl rfl (by kernel_rfl) (by kernel_rfl) (by kernel_rfl) (fun _ _ _ h => h) (Or.inl ⟨by kernel_rfl, ?_⟩) hHeld ?_
                rotate_left
                · intro w' hSw
                  (try dsimp only at hSw)
                  go_simp
                  try with_reducible rfl
                (try simp only [Act.put, List.setIfInBounds_toArray, List.set_cons_zero, List.set_cons_succ])
                refine callH 16 (some 80) (f := 9) (args := #[.slice (some ⟨b, off, none⟩) n c, .agg #[.int .i64 (qi : Nat), .int .i64 (qj : Nat)]]) rfl rfl (by kernel_rfl) (by kernel_rfl) (by kernel_rfl) ?_
                refine (HCX.out _ (Below.refl _ _).drew).mono ?_; rintro e x1 ⟨rfl, hb9⟩
                have hHeld1 := HS.out _ hb9
                refine ⟨_, rfl, hHeld1, ?_⟩
                (try simp only [Act.put, List.setIfInBounds_toArray, List.set_cons_zero, List.set_cons_succ])
                refine takeH 18 (some 82) (v := ?_) rfl rfl (by kernel_rfl) (by kernel_rfl) (by kernel_rfl) (fun _ _ _ h => h) (Or.inl ⟨by kernel_rfl, ?_⟩) hHeld1 ?_
                rotate_left
                · intro w' hSw
                  (try dsimp only at hSw)
                  go_simp
                  try with_reducible rfl
                (try simp only [Act.put, List.setIfInBounds_toArray, List.set_cons_zero, List.set_cons_succ])
                refine takeH 19 (some 83) (v := ?_) rfl rfl (by kernel_rfl) (by kernel_rfl) (by kernel_rfl) (fun _ _ _ h => h) (Or.inl ⟨by kernel_rfl, ?_⟩) hHeld1 ?_
                rotate_left
                · intro w' hSw
                  (try dsimp only at hSw)
                  go_simp
                  try with_reducible rfl
                (try simp only [Act.put, List.setIfInBounds_toArray, List.set_cons_zero, List.set_cons_succ])
                refine takeH 20 (some 84) (v := ?_) rfl rfl (by kernel_rfl) (by kernel_rfl) (by kernel_rfl) (fun _ _ _ h => h) (Or.inl ⟨by kernel_rfl, ?_⟩) hHeld1 ?_
                rotate_left
                · intro w' hSw
                  (try dsimp only at hSw)
                  go_simp
                  try with_reducible rfl
                (try simp only [Act.put, List.setIfInBounds_toArray, List.set_cons_zero, List.set_cons_succ])
                refine takeH 21 (some 85) (v := undef) rfl rfl (by kernel_rfl) (by kernel_rfl) (by kernel_rfl) (fun _ _ _ h => h) (Or.inr ⟨by kernel_rfl, rfl⟩) hHeld1 ?_
                (try simp only [Act.put, List.setIfInBounds_toArray, List.set_cons_zero, List.set_cons_succ])
                refine takeH 22 (some 86) (v := undef) rfl rfl (by kernel_rfl) (by kernel_rfl) (by kernel_rfl) (fun _ _ _ h => h) (Or.inr ⟨by kernel_rfl, rfl⟩) hHeld1 ?_
                (try simp only [Act.put, List.setIfInBounds_toArray, List.set_cons_zero, List.set_cons_succ])
                refine takeH 23 (some 87) (v := ?_) rfl rfl (by kernel_rfl) (by kernel_rfl) (by kernel_rfl) (fun _ _ _ h => h) (Or.inl ⟨by kernel_rfl, ?_⟩) hHeld1 ?_
                rotate_left
                · intro w' hSw
                  (try dsimp only at hSw)
                  go_simp
                  try with_reducible rfl
                (try simp only [Act.put, List.setIfInBounds_toArray, List.set_cons_zero, List.set_cons_succ])
                refine takeH 24 (some 88) (v := ?_) rfl rfl (by kernel_rfl) (by kernel_rfl) (by kernel_rfl) (fun _ _ _ h => h) (Or.inl ⟨by kernel_rfl, ?_⟩) hHeld1 ?_
                rotate_left
                · intro w' hSw
                  (try dsimp only at hSw)
                  go_simp
                  try with_reducible rfl
                (try simp only [Act.put, List.setIfInBounds_toArray, List.set_cons_zero, List.set_cons_succ])
                refine wpAnyH_done (by kernel_rfl) ?_ _
                have HBZ : Hid (Below X5.heap.size X5 x1) := btr HBX.out (btr HB8.out hb9)
                go_wp2_with fail
                go_roundw
                case rel => exact ⟨i + 1, by go_num, by omega, HBZ.out⟩
                case measure => simp [intOf]; omega
              · have j1 : ((qj : Int) == (ml : Int)) = false := by simp; omega
                go_quiet (fail)
                go_wp2_with fail
                obtain ⟨X8, hX8⟩ : ∃ x, x = X.drewN nq := ⟨_, rfl⟩
                rw [← hX8]
                have HB8 : Hid (Below X.heap.size X X8) := by show Below _ _ _; rw [hX8]; exact bdrewN (Below.refl _ _) _
                have HS : Hid (∀ w' : World, Below X8.heap.size X8 w' → (fun w' => w'.cell? ⟨Bq, 0, none⟩ = some (.int .i64 (qi : Nat)) ∧ w'.cell? ⟨Bq, 1, none⟩ = some (.int .i64 (qj : Nat))) w') := fun w' hb => by
                  obtain ⟨z0, z1, -, -⟩ := row2 (keep2 HQ6.out (btr HB8.out hb))
                  exact ⟨z0, z1⟩
                have HCX : Hid (∀ w' : World, Below X8.heap.size X8 w' → Calls Try.prog 9 #[.slice (some ⟨b, off, none⟩) n c, .agg #[.int .i64 (qi : Nat), .int .i64 (qj : Nat)]] w' fun e w2 => e = .returned (.agg #[.int .i64 (qi : Nat), .int .i64 (qj : Nat)]) ∧ Below X8.heap.size X8 w2) := by
                  intro w' hb
                  have := HCQ.out qi qj w' (by omega) hqj (btr HD.out (btr HB8.out hb))
                  rw [HCR.out] at this
                  exact this.mono (fun e w2 h => ⟨h.1, hb.trans (h.2.mono hb.size)⟩)
                obtain ⟨z0, z1⟩ := HS.out X8 (Below.refl _ _)
                clear hX8 q0 q1 y0 y1 e2 e3
                refine wp_region_held (S := fun w' => w'.cell? ⟨Bq, 0, none⟩ = some (.int .i64 (qi : Nat)) ∧ w'.cell? ⟨Bq, 1, none⟩ = some (.int .i64 (qj : Nat))) (by kernel_rfl) ?_
                change wpAnyH _ _ _ _ _ _ _ _ (World.drew _)
                have hHeld : (fun w' => w'.cell? ⟨Bq, 0, none⟩ = some (.int .i64 (qi : Nat)) ∧ w'.cell? ⟨Bq, 1, none⟩ = some (.int .i64 (qj : Nat))) (World.drew X8) := ⟨z0, z1⟩
                refine takeH 0 (some 64) (v := ?_) rfl rfl (by kernel_rfl) (by kernel_rfl) (by kernel_rfl) (fun _ _ _ h => h) (Or.inl ⟨by kernel_rfl, ?_⟩) hHeld ?_
                rotate_left
                · intro w' hSw
                  (try dsimp only at hSw)
                  go_simp
                  try with_reducible rfl
                (try simp only [Act.put, List.setIfInBounds_toArray, List.set_cons_zero, List.set_cons_succ])
                refine takeH 1 (some 65) (v := ?_) rfl rfl (by kernel_rfl) (by kernel_rfl) (by kernel_rfl) (fun _ _ _ h => h) (Or.inl ⟨by kernel_rfl, ?_⟩) hHeld ?_
                rotate_left
                · intro w' hSw
                  (try dsimp only at hSw)
                  go_simp
                  try with_reducible rfl
                (try simp only [Act.put, List.setIfInBounds_toArray, List.set_cons_zero, List.set_cons_succ])
                refine takeH 2 (some 66) (v := ?_) rfl rfl (by kernel_rfl) (by kernel_rfl) (by kernel_rfl) (fun _ _ _ h => h) (Or.inl ⟨by kernel_rfl, ?_⟩) hHeld ?_
                rotate_left
                · intro w' hSw
                  (try dsimp only at hSw)
                  go_simp
                  try with_reducible rfl
                (try simp only [Act.put, List.setIfInBounds_toArray, List.set_cons_zero, List.set_cons_succ])
                refine takeH 3 (some 67) (v := undef) rfl rfl (by kernel_rfl) (by kernel_rfl) (by kernel_rfl) (fun _ _ _ h => h) (Or.inr ⟨by kernel_rfl, rfl⟩) hHeld ?_
                (try simp only [Act.put, List.setIfInBounds_toArray, List.set_cons_zero, List.set_cons_succ])
                refine takeH 4 (some 68) (v := undef) rfl rfl (by kernel_rfl) (by kernel_rfl) (by kernel_rfl) (fun _ _ _ h => h) (Or.inr ⟨by kernel_rfl, rfl⟩) hHeld ?_
                (try simp only [Act.put, List.setIfInBounds_toArray, List.set_cons_zero, List.set_cons_succ])
                refine takeH 5 (some 69) (v := undef) rfl rfl (by kernel_rfl) (by kernel_rfl) (by kernel_rfl) (fun _ _ _ h => h) (Or.inr ⟨by kernel_rfl, rfl⟩) hHeld ?_
                (try simp only [Act.put, List.setIfInBounds_toArray, List.set_cons_zero, List.set_cons_succ])
                refine takeH 6 (some 70) (v := undef) rfl rfl (by kernel_rfl) (by kernel_rfl) (by kernel_rfl) (fun _ _ _ h => h) (Or.inr ⟨by kernel_rfl, rfl⟩) hHeld ?_
                (try simp only [Act.put, List.setIfInBounds_toArray, List.set_cons_zero, List.set_cons_succ])
                refine takeH 7 (some 71) (v := undef) rfl rfl (by kernel_rfl) (by kernel_rfl) (by kernel_rfl) (fun _ _ _ h => h) (Or.inr ⟨by kernel_rfl, rfl⟩) hHeld ?_
                (try simp only [Act.put, List.setIfInBounds_toArray, List.set_cons_zero, List.set_cons_succ])
                refine takeH 8 (some 72) (v := undef) rfl rfl (by kernel_rfl) (by kernel_rfl) (by kernel_rfl) (fun _ _ _ h => h) (Or.inr ⟨by kernel_rfl, rfl⟩) hHeld ?_
                (try simp only [Act.put, List.setIfInBounds_toArray, List.set_cons_zero, List.set_cons_succ])
                refine takeH 9 (some 73) (v := undef) rfl rfl (by kernel_rfl) (by kernel_rfl) (by kernel_rfl) (fun _ _ _ h => h) (Or.inr ⟨by kernel_rfl, rfl⟩) hHeld ?_
                (try simp only [Act.put, List.setIfInBounds_toArray, List.set_cons_zero, List.set_cons_succ])
                refine takeH 10 (some 74) (v := ?_) rfl rfl (by kernel_rfl) (by kernel_rfl) (by kernel_rfl) (fun _ _ _ h => h) (Or.inl ⟨by kernel_rfl, ?_⟩) hHeld ?_
                rotate_left
                · intro w' hSw
                  (try dsimp only at hSw)
                  go_simp
                  try with_reducible rfl
                (try simp only [Act.put, List.setIfInBounds_toArray, List.set_cons_zero, List.set_cons_succ])
                refine takeH 11 (some 75) (v := ?_) rfl rfl (by kernel_rfl) (by kernel_rfl) (by kernel_rfl) (fun _ _ _ h => h) (Or.inl ⟨by kernel_rfl, ?_⟩) hHeld ?_
                rotate_left
                · intro w' hSw
                  (try dsimp only at hSw)
                  go_simp
                  try with_reducible rfl
                (try simp only [Act.put, List.setIfInBounds_toArray, List.set_cons_zero, List.set_cons_succ])
                refine takeH 12 (some 76) (v := ?_) rfl rfl (by kernel_rfl) (by kernel_rfl) (by kernel_rfl) (fun _ _ _ h => h) (Or.inl ⟨by kernel_rfl, ?_⟩) hHeld ?_
                rotate_left
                · intro w' hSw
                  (try dsimp only at hSw)
                  go_simp
                  try with_reducible rfl
                (try simp only [Act.put, List.setIfInBounds_toArray, List.set_cons_zero, List.set_cons_succ])
                refine takeH 13 (some 77) (v := ?_) rfl rfl (by kernel_rfl) (by kernel_rfl) (by kernel_rfl) (fun _ _ _ h => h) (Or.inl ⟨by kernel_rfl, ?_⟩) hHeld ?_
                rotate_left
                · intro w' hSw
                  (try dsimp only at hSw)
                  go_simp
                  try with_reducible rfl
                (try simp only [Act.put, List.setIfInBounds_toArray, List.set_cons_zero, List.set_cons_succ])
                refine takeH 14 (some 78) (v := ?_) rfl rfl (by kernel_rfl) (by kernel_rfl) (by kernel_rfl) (fun _ _ _ h => h) (Or.inl ⟨by kernel_rfl, ?_⟩) hHeld ?_
                rotate_left
                · intro w' hSw
                  (try dsimp only at hSw)
                  go_simp
                  try with_reducible rfl
                (try simp only [Act.put, List.setIfInBounds_toArray, List.set_cons_zero, List.set_cons_succ])
                refine takeH 15 (some 79) (v := ?_) rfl rfl (by kernel_rfl) (by kernel_rfl) (by kernel_rfl) (fun _ _ _ h => h) (Or.inl ⟨by kernel_rfl, ?_⟩) hHeld ?_
                rotate_left
                · intro w' hSw
                  (try dsimp only at hSw)
                  go_simp
                  try with_reducible rfl
                (try simp only [Act.put, List.setIfInBounds_toArray, List.set_cons_zero, List.set_cons_succ])
                refine takeH 17 (some 81) (v := ?_) rfl rfl (by kernel_rfl) (by kernel_rfl) (by kernel_rfl) (fun _ _ _ h => h) (Or.inl ⟨by kernel_rfl, ?_⟩) hHeld ?_
                rotate_left
                · intro w' hSw
                  (try dsimp only at hSw)
                  go_simp
                  try with_reducible rfl
                (try simp only [Act.put, List.setIfInBounds_toArray, List.set_cons_zero, List.set_cons_succ])
                refine callH 16 (some 80) (f := 9) (args := #[.slice (some ⟨b, off, none⟩) n c, .agg #[.int .i64 (qi : Nat), .int .i64 (qj : Nat)]]) rfl rfl (by kernel_rfl) (by kernel_rfl) (by kernel_rfl) ?_
                refine (HCX.out _ (Below.refl _ _).drew).mono ?_; rintro e x1 ⟨rfl, hb9⟩
                have hHeld1 := HS.out _ hb9
                refine ⟨_, rfl, hHeld1, ?_⟩
                (try simp only [Act.put, List.setIfInBounds_toArray, List.set_cons_zero, List.set_cons_succ])
                refine takeH 18 (some 82) (v := ?_) rfl rfl (by kernel_rfl) (by kernel_rfl) (by kernel_rfl) (fun _ _ _ h => h) (Or.inl ⟨by kernel_rfl, ?_⟩) hHeld1 ?_
                rotate_left
                · intro w' hSw
                  (try dsimp only at hSw)
                  go_simp
                  try with_reducible rfl
                (try simp only [Act.put, List.setIfInBounds_toArray, List.set_cons_zero, List.set_cons_succ])
                refine takeH 19 (some 83) (v := ?_) rfl rfl (by kernel_rfl) (by kernel_rfl) (by kernel_rfl) (fun _ _ _ h => h) (Or.inl ⟨by kernel_rfl, ?_⟩) hHeld1 ?_
                rotate_left
                · intro w' hSw
                  (try dsimp only at hSw)
                  go_simp
                  try with_reducible rfl
                (try simp only [Act.put, List.setIfInBounds_toArray, List.set_cons_zero, List.set_cons_succ])
                refine takeH 20 (some 84) (v := ?_) rfl rfl (by kernel_rfl) (by kernel_rfl) (by kernel_rfl) (fun _ _ _ h => h) (Or.inl ⟨by kernel_rfl, ?_⟩) hHeld1 ?_
                rotate_left
                · intro w' hSw
                  (try dsimp only at hSw)
                  go_simp
                  try with_reducible rfl
                (try simp only [Act.put, List.setIfInBounds_toArray, List.set_cons_zero, List.set_cons_succ])
                refine takeH 21 (some 85) (v := undef) rfl rfl (by kernel_rfl) (by kernel_rfl) (by kernel_rfl) (fun _ _ _ h => h) (Or.inr ⟨by kernel_rfl, rfl⟩) hHeld1 ?_
                (try simp only [Act.put, List.setIfInBounds_toArray, List.set_cons_zero, List.set_cons_succ])
                refine takeH 22 (some 86) (v := undef) rfl rfl (by kernel_rfl) (by kernel_rfl) (by kernel_rfl) (fun _ _ _ h => h) (Or.inr ⟨by kernel_rfl, rfl⟩) hHeld1 ?_
                (try simp only [Act.put, List.setIfInBounds_toArray, List.set_cons_zero, List.set_cons_succ])
                refine takeH 23 (some 87) (v := ?_) rfl rfl (by kernel_rfl) (by kernel_rfl) (by kernel_rfl) (fun _ _ _ h => h) (Or.inl ⟨by kernel_rfl, ?_⟩) hHeld1 ?_
                rotate_left
                · intro w' hSw
                  (try dsimp only at hSw)
                  go_simp
                  try with_reducible rfl
                (try simp only [Act.put, List.setIfInBounds_toArray, List.set_cons_zero, List.set_cons_succ])
                refine takeH 24 (some 88) (v := ?_) rfl rfl (by kernel_rfl) (by kernel_rfl) (by kernel_rfl) (fun _ _ _ h => h) (Or.inl ⟨by kernel_rfl, ?_⟩) hHeld1 ?_
                rotate_left
                · intro w' hSw
                  (try dsimp only at hSw)
                  go_simp
                  try with_reducible rfl
                (try simp only [Act.put, List.setIfInBounds_toArray, List.set_cons_zero, List.set_cons_succ])
                refine wpAnyH_done (by kernel_rfl) ?_ _
                have HBZ : Hid (Below X5.heap.size X5 x1) := btr HBX.out (btr HB8.out hb9)
                go_wp2_with fail
                go_roundw
                case rel => exact ⟨i + 1, by go_num, by omega, HBZ.out⟩
                case measure => simp [intOf]; omega
            · obtain ⟨-, f1, f2⟩ := hE.resolve_left hE0
              simp only at f1 f2
              rw [hml] at f2
              subst f2
              have hml0 : 0 < qj := by
                rcases Nat.eq_zero_or_pos qj with e | e
                · exact absurd ⟨f1, by show qj ≤ (lnL L qi).length - 1; rw [hml]; omega⟩ hE0
                · exact e
              have HCR0 : Hid (clipP L (qi : Int) (qj : Int) = (qi, qj - 1)) := by
                show _ = _
                have := clip_end (q := (qi, qj)) f1 (by show qj = (lnL L qi).length; exact hml.symm)
                simp only at this
                rw [hml] at this
                exact this
              obtain ⟨r2, hr2⟩ : ∃ r2, qj - 1 = r2 := ⟨_, rfl⟩
              rw [hr2] at HCR0
              have HCR := HCR0
              have hne : ¬ (r2 : Int) = (qj : Int) := by omega
              clear HCR0 hr2 hE hE0 f1
              go_quiet (fail)
              go_wp2_with fail
              obtain ⟨X8, hX8⟩ : ∃ x, x = X.drewN nq := ⟨_, rfl⟩
              rw [← hX8]
              have HB8 : Hid (Below X.heap.size X X8) := by show Below _ _ _; rw [hX8]; exact bdrewN (Below.refl _ _) _
              have HS : Hid (∀ w' : World, Below X8.heap.size X8 w' → (fun w' => w'.cell? ⟨Bq, 0, none⟩ = some (.int .i64 (qi : Nat)) ∧ w'.cell? ⟨Bq, 1, none⟩ = some (.int .i64 (qj : Nat))) w') := fun w' hb => by
                obtain ⟨z0, z1, -, -⟩ := row2 (keep2 HQ6.out (btr HB8.out hb))
                exact ⟨z0, z1⟩
              have HCX : Hid (∀ w' : World, Below X8.heap.size X8 w' → Calls Try.prog 9 #[.slice (some ⟨b, off, none⟩) n c, .agg #[.int .i64 (qi : Nat), .int .i64 (qj : Nat)]] w' fun e w2 => e = .returned (.agg #[.int .i64 (qi : Nat), .int .i64 (r2 : Nat)]) ∧ Below X8.heap.size X8 w2) := by
                intro w' hb
                have := HCQ.out qi qj w' (by omega) hqj (btr HD.out (btr HB8.out hb))
                rw [HCR.out] at this
                exact this.mono (fun e w2 h => ⟨h.1, hb.trans (h.2.mono hb.size)⟩)
              obtain ⟨z0, z1⟩ := HS.out X8 (Below.refl _ _)
              clear hX8 q0 q1 y0 y1 e2 e3
              refine wp_region_held (S := fun w' => w'.cell? ⟨Bq, 0, none⟩ = some (.int .i64 (qi : Nat)) ∧ w'.cell? ⟨Bq, 1, none⟩ = some (.int .i64 (qj : Nat))) (by kernel_rfl) ?_
              change wpAnyH _ _ _ _ _ _ _ _ (World.drew _)
              have hHeld : (fun w' => w'.cell? ⟨Bq, 0, none⟩ = some (.int .i64 (qi : Nat)) ∧ w'.cell? ⟨Bq, 1, none⟩ = some (.int .i64 (qj : Nat))) (World.drew X8) := ⟨z0, z1⟩
              refine takeH 0 (some 64) (v := ?_) rfl rfl (by kernel_rfl) (by kernel_rfl) (by kernel_rfl) (fun _ _ _ h => h) (Or.inl ⟨by kernel_rfl, ?_⟩) hHeld ?_
              rotate_left
              · intro w' hSw
                (try dsimp only at hSw)
                go_simp
                try with_reducible rfl
              (try simp only [Act.put, List.setIfInBounds_toArray, List.set_cons_zero, List.set_cons_succ])
              refine takeH 1 (some 65) (v := ?_) rfl rfl (by kernel_rfl) (by kernel_rfl) (by kernel_rfl) (fun _ _ _ h => h) (Or.inl ⟨by kernel_rfl, ?_⟩) hHeld ?_
              rotate_left
              · intro w' hSw
                (try dsimp only at hSw)
                go_simp
                try with_reducible rfl
              (try simp only [Act.put, List.setIfInBounds_toArray, List.set_cons_zero, List.set_cons_succ])
              refine takeH 2 (some 66) (v := ?_) rfl rfl (by kernel_rfl) (by kernel_rfl) (by kernel_rfl) (fun _ _ _ h => h) (Or.inl ⟨by kernel_rfl, ?_⟩) hHeld ?_
              rotate_left
              · intro w' hSw
                (try dsimp only at hSw)
                go_simp
                try with_reducible rfl
              (try simp only [Act.put, List.setIfInBounds_toArray, List.set_cons_zero, List.set_cons_succ])
              refine takeH 3 (some 67) (v := undef) rfl rfl (by kernel_rfl) (by kernel_rfl) (by kernel_rfl) (fun _ _ _ h => h) (Or.inr ⟨by kernel_rfl, rfl⟩) hHeld ?_
              (try simp only [Act.put, List.setIfInBounds_toArray, List.set_cons_zero, List.set_cons_succ])
              refine takeH 4 (some 68) (v := undef) rfl rfl (by kernel_rfl) (by kernel_rfl) (by kernel_rfl) (fun _ _ _ h => h) (Or.inr ⟨by kernel_rfl, rfl⟩) hHeld ?_
              (try simp only [Act.put, List.setIfInBounds_toArray, List.set_cons_zero, List.set_cons_succ])
              refine takeH 5 (some 69) (v := undef) rfl rfl (by kernel_rfl) (by kernel_rfl) (by kernel_rfl) (fun _ _ _ h => h) (Or.inr ⟨by kernel_rfl, rfl⟩) hHeld ?_
              (try simp only [Act.put, List.setIfInBounds_toArray, List.set_cons_zero, List.set_cons_succ])
              refine takeH 6 (some 70) (v := undef) rfl rfl (by kernel_rfl) (by kernel_rfl) (by kernel_rfl) (fun _ _ _ h => h) (Or.inr ⟨by kernel_rfl, rfl⟩) hHeld ?_
              (try simp only [Act.put, List.setIfInBounds_toArray, List.set_cons_zero, List.set_cons_succ])
              refine takeH 7 (some 71) (v := undef) rfl rfl (by kernel_rfl) (by kernel_rfl) (by kernel_rfl) (fun _ _ _ h => h) (Or.inr ⟨by kernel_rfl, rfl⟩) hHeld ?_
              (try simp only [Act.put, List.setIfInBounds_toArray, List.set_cons_zero, List.set_cons_succ])
              refine takeH 8 (some 72) (v := undef) rfl rfl (by kernel_rfl) (by kernel_rfl) (by kernel_rfl) (fun _ _ _ h => h) (Or.inr ⟨by kernel_rfl, rfl⟩) hHeld ?_
              (try simp only [Act.put, List.setIfInBounds_toArray, List.set_cons_zero, List.set_cons_succ])
              refine takeH 9 (some 73) (v := undef) rfl rfl (by kernel_rfl) (by kernel_rfl) (by kernel_rfl) (fun _ _ _ h => h) (Or.inr ⟨by kernel_rfl, rfl⟩) hHeld ?_
              (try simp only [Act.put, List.setIfInBounds_toArray, List.set_cons_zero, List.set_cons_succ])
              refine takeH 10 (some 74) (v := ?_) rfl rfl (by kernel_rfl) (by kernel_rfl) (by kernel_rfl) (fun _ _ _ h => h) (Or.inl ⟨by kernel_rfl, ?_⟩) hHeld ?_
              rotate_left
              · intro w' hSw
                (try dsimp only at hSw)
                go_simp
                try with_reducible rfl
              (try simp only [Act.put, List.setIfInBounds_toArray, List.set_cons_zero, List.set_cons_succ])
              refine takeH 11 (some 75) (v := ?_) rfl rfl (by kernel_rfl) (by kernel_rfl) (by kernel_rfl) (fun _ _ _ h => h) (Or.inl ⟨by kernel_rfl, ?_⟩) hHeld ?_
              rotate_left
              · intro w' hSw
                (try dsimp only at hSw)
                go_simp
                try with_reducible rfl
              (try simp only [Act.put, List.setIfInBounds_toArray, List.set_cons_zero, List.set_cons_succ])
              refine takeH 12 (some 76) (v := ?_) rfl rfl (by kernel_rfl) (by kernel_rfl) (by kernel_rfl) (fun _ _ _ h => h) (Or.inl ⟨by kernel_rfl, ?_⟩) hHeld ?_
              rotate_left
              · intro w' hSw
                (try dsimp only at hSw)
                go_simp
                try with_reducible rfl
              (try simp only [Act.put, List.setIfInBounds_toArray, List.set_cons_zero, List.set_cons_succ])
              refine takeH 13 (some 77) (v := ?_) rfl rfl (by kernel_rfl) (by kernel_rfl) (by kernel_rfl) (fun _ _ _ h => h) (Or.inl ⟨by kernel_rfl, ?_⟩) hHeld ?_
              rotate_left
              · intro w' hSw
                (try dsimp only at hSw)
                go_simp
                try with_reducible rfl
              (try simp only [Act.put, List.setIfInBounds_toArray, List.set_cons_zero, List.set_cons_succ])
              refine takeH 14 (some 78) (v := ?_) rfl rfl (by kernel_rfl) (by kernel_rfl) (by kernel_rfl) (fun _ _ _ h => h) (Or.inl ⟨by kernel_rfl, ?_⟩) hHeld ?_
              rotate_left
              · intro w' hSw
                (try dsimp only at hSw)
                go_simp
                try with_reducible rfl
              (try simp only [Act.put, List.setIfInBounds_toArray, List.set_cons_zero, List.set_cons_succ])
              refine takeH 15 (some 79) (v := ?_) rfl rfl (by kernel_rfl) (by kernel_rfl) (by kernel_rfl) (fun _ _ _ h => h) (Or.inl ⟨by kernel_rfl, ?_⟩) hHeld ?_
              rotate_left
              · intro w' hSw
                (try dsimp only at hSw)
                go_simp
                try with_reducible rfl
              (try simp only [Act.put, List.setIfInBounds_toArray, List.set_cons_zero, List.set_cons_succ])
              refine takeH 17 (some 81) (v := ?_) rfl rfl (by kernel_rfl) (by kernel_rfl) (by kernel_rfl) (fun _ _ _ h => h) (Or.inl ⟨by kernel_rfl, ?_⟩) hHeld ?_
              rotate_left
              · intro w' hSw
                (try dsimp only at hSw)
                go_simp
                try with_reducible rfl
              (try simp only [Act.put, List.setIfInBounds_toArray, List.set_cons_zero, List.set_cons_succ])
              refine callH 16 (some 80) (f := 9) (args := #[.slice (some ⟨b, off, none⟩) n c, .agg #[.int .i64 (qi : Nat), .int .i64 (qj : Nat)]]) rfl rfl (by kernel_rfl) (by kernel_rfl) (by kernel_rfl) ?_
              refine (HCX.out _ (Below.refl _ _).drew).mono ?_; rintro e x1 ⟨rfl, hb9⟩
              have hHeld1 := HS.out _ hb9
              refine ⟨_, rfl, hHeld1, ?_⟩
              (try simp only [Act.put, List.setIfInBounds_toArray, List.set_cons_zero, List.set_cons_succ])
              refine takeH 18 (some 82) (v := ?_) rfl rfl (by kernel_rfl) (by kernel_rfl) (by kernel_rfl) (fun _ _ _ h => h) (Or.inl ⟨by kernel_rfl, ?_⟩) hHeld1 ?_
              rotate_left
              · intro w' hSw
                (try dsimp only at hSw)
                go_simp
                try with_reducible rfl
              (try simp only [Act.put, List.setIfInBounds_toArray, List.set_cons_zero, List.set_cons_succ])
              refine takeH 19 (some 83) (v := ?_) rfl rfl (by kernel_rfl) (by kernel_rfl) (by kernel_rfl) (fun _ _ _ h => h) (Or.inl ⟨by kernel_rfl, ?_⟩) hHeld1 ?_
              rotate_left
              · intro w' hSw
                (try dsimp only at hSw)
                go_simp
                try with_reducible rfl
              (try simp only [Act.put, List.setIfInBounds_toArray, List.set_cons_zero, List.set_cons_succ])
              refine takeH 20 (some 84) (v := ?_) rfl rfl (by kernel_rfl) (by kernel_rfl) (by kernel_rfl) (fun _ _ _ h => h) (Or.inl ⟨by kernel_rfl, ?_⟩) hHeld1 ?_
              rotate_left
              · intro w' hSw
                (try dsimp only at hSw)
                go_simp
                try with_reducible rfl
              (try simp only [Act.put, List.setIfInBounds_toArray, List.set_cons_zero, List.set_cons_succ])
              refine takeH 21 (some 85) (v := ?_) rfl rfl (by kernel_rfl) (by kernel_rfl) (by kernel_rfl) (fun _ _ _ h => h) (Or.inl ⟨by kernel_rfl, ?_⟩) hHeld1 ?_
              rotate_left
              · intro w' hSw
                (try dsimp only at hSw)
                go_simp
                try with_reducible rfl
              (try simp only [Act.put, List.setIfInBounds_toArray, List.set_cons_zero, List.set_cons_succ])
              refine takeH 22 (some 86) (v := ?_) rfl rfl (by kernel_rfl) (by kernel_rfl) (by kernel_rfl) (fun _ _ _ h => h) (Or.inl ⟨by kernel_rfl, ?_⟩) hHeld1 ?_
              rotate_left
              · intro w' hSw
                (try dsimp only at hSw)
                go_simp
                try with_reducible rfl
              (try simp only [Act.put, List.setIfInBounds_toArray, List.set_cons_zero, List.set_cons_succ])
              refine takeH 23 (some 87) (v := ?_) rfl rfl (by kernel_rfl) (by kernel_rfl) (by kernel_rfl) (fun _ _ _ h => h) (Or.inl ⟨by kernel_rfl, ?_⟩) hHeld1 ?_
              rotate_left
              · intro w' hSw
                (try dsimp only at hSw)
                go_simp
                try with_reducible rfl
              (try simp only [Act.put, List.setIfInBounds_toArray, List.set_cons_zero, List.set_cons_succ])
              refine takeH 24 (some 88) (v := ?_) rfl rfl (by kernel_rfl) (by kernel_rfl) (by kernel_rfl) (fun _ _ _ h => h) (Or.inl ⟨by kernel_rfl, ?_⟩) hHeld1 ?_
              rotate_left
              · intro w' hSw
                (try dsimp only at hSw)
                go_simp
                try with_reducible rfl
              (try simp only [Act.put, List.setIfInBounds_toArray, List.set_cons_zero, List.set_cons_succ])
              refine wpAnyH_done (by kernel_rfl) ?_ _
              have HBZ : Hid (Below X5.heap.size X5 x1) := btr HBX.out (btr HB8.out hb9)
              go_wp2_with fail
              go_roundw
              case rel => exact ⟨i + 1, by go_num, by omega, HBZ.out⟩
              case measure => simp [intOf]; omega
      · obtain rfl : i = 2 := by omega
        go_wp2_with (go_at_call 8; refine (HAW.out _).mono ?_; rintro e w3 ⟨rfl, hb3⟩)
        go_ret
        exact ⟨rfl, btr HB1.out (btr HWR.out hb3)⟩
end Go.Proofs.Ytikdojebnbmpoaa.U
