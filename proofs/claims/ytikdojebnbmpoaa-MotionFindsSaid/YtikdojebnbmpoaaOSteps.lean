/-
  Steps that are done n times: over a function, and over a function that bears two boxes. (MADE by wip/tools/gen_steps.py.)
-/
import Derived.Test.YtikdojebnbmpoaaOLeadA
namespace Go.Proofs.Ytikdojebnbmpoaa.U
open Go.RowKit
set_option linter.unusedVariables false
set_option linter.unusedSimpArgs false
set_option maxRecDepth 100000

theorem results_cct {fn : Func} {p q r : Tmp} {ty tq : TypeId} (h : fn.results = #[.cell p ty, .cell q tq, .tmp r]) (tmps : Array Value) (P : Program) (w : World) :
    (results fn tmps).run P w = ((asAddr (tmps.getD p undef)).run P w).andThen fun a w₁ => ((loadVar ty a).run P w₁).andThen fun v w₂ =>
      ((asAddr (tmps.getD q undef)).run P w₂).andThen fun b w₃ => ((loadVar tq b).run P w₃).andThen fun u w₄ => .ok (.tuple #[v, u, tmps.getD r undef]) w₄ := by
  simp only [results, h]
  simp [Sem.run_bind, Result.andThen]
/-- what lies in the boxes of steps: what it is asked with, where the last step began, where it led -/
def StS (w : World) (A : Obj) (p q : Pl) (W : World) : Prop := Below w.heap.size w W ∧ W.heap[w.heap.size]? = some A ∧ At W (w.heap.size + 1) q ∧ At W (w.heap.size + 1 + 1) p
theorem StS.below {w W W2 : World} {A : Obj} {p q : Pl} (h : StS w A p q W) (hb : Below W.heap.size W W2) : StS w A p q W2 := by
  obtain ⟨h1, h2, h3, h4⟩ := h
  exact ⟨h1.trans (hb.mono h1.size), (hb.block _ (Array.getElem?_eq_some_iff.1 h2).1).trans h2, h3.keep (hb.block _ h3.lt), h4.keep (hb.block _ h4.lt)⟩
theorem StS.drew {w W : World} {A : Obj} {p q : Pl} (h : StS w A p q W) : StS w A p q W.drew := h.below ((Below.refl _ W).drew)
theorem StS.blw {w W : World} {A : Obj} {p q : Pl} (h : StS w A p q W) : Below w.heap.size w W := h.1
theorem StS.set1 {w W : World} {A : Obj} {p q : Pl} (h : StS w A p q W) (r : Pl) : StS w A p r ((W.setCell ⟨w.heap.size + 1, 0, none⟩ (.int .i64 (r.1 : Nat))).setCell ⟨w.heap.size + 1, 1, none⟩ (.int .i64 (r.2 : Nat))) := by
  obtain ⟨h1, h2, h3, h4⟩ := h
  refine ⟨setCell_below (setCell_below h1 _ _ _ (by omega)) _ _ _ (by omega), ?_, heap_set (heap_set h3 0 _) 1 _, ?_⟩
  · exact (Below.heap_setCell _ _ _ _ (by show ¬ _ = _; first | (simp; done) | (simp; omega) | omega)).trans ((Below.heap_setCell _ _ _ _ (by show ¬ _ = _; first | (simp; done) | (simp; omega) | omega)).trans h2)
  · exact h4.keep ((Below.heap_setCell _ _ _ _ (by show ¬ _ = _; first | (simp; done) | (simp; omega) | omega)).trans (Below.heap_setCell _ _ _ _ (by show ¬ _ = _; first | (simp; done) | (simp; omega) | omega)))
theorem StS.set2 {w W : World} {A : Obj} {p q : Pl} (h : StS w A p q W) (r : Pl) : StS w A r q ((W.setCell ⟨w.heap.size + 1 + 1, 0, none⟩ (.int .i64 (r.1 : Nat))).setCell ⟨w.heap.size + 1 + 1, 1, none⟩ (.int .i64 (r.2 : Nat))) := by
  obtain ⟨h1, h2, h3, h4⟩ := h
  refine ⟨setCell_below (setCell_below h1 _ _ _ (by omega)) _ _ _ (by omega), ?_, ?_, heap_set (heap_set h4 0 _) 1 _⟩
  · exact (Below.heap_setCell _ _ _ _ (by show ¬ _ = _; first | (simp; done) | (simp; omega) | omega)).trans ((Below.heap_setCell _ _ _ _ (by show ¬ _ = _; first | (simp; done) | (simp; omega) | omega)).trans h2)
  · exact h3.keep ((Below.heap_setCell _ _ _ _ (by show ¬ _ = _; first | (simp; done) | (simp; omega) | omega)).trans (Below.heap_setCell _ _ _ _ (by show ¬ _ = _; first | (simp; done) | (simp; omega) | omega)))
theorem StS.cells {w W : World} {a : Option Addr} {n c l q : Nat} {k key cnt arg want : Int} {op : Bool} {x y : Pl} (h : StS w (askO a n c l q k key cnt arg want op) x y W) :
    W.cell? ⟨w.heap.size, 0, none⟩ = some (.slice a n c) ∧ W.cell? ⟨w.heap.size, 1, none⟩ = some (.int .i64 (l : Nat)) ∧ W.cell? ⟨w.heap.size, 2, none⟩ = some (.int .i64 (q : Nat)) ∧ W.cell? ⟨w.heap.size, 3, none⟩ = some (.int .i64 k) := by
  obtain ⟨x0, x1, x2, x3, -⟩ := row9 h.2.1
  exact ⟨x0, x1, x2, x3⟩
theorem StS.began {w W : World} {A : Obj} {x1 x2 y1 y2 : Nat} (h : StS w A (x1, x2) (y1, y2) W) : W.cell? ⟨w.heap.size + 1, 0, none⟩ = some (.int .i64 (y1 : Nat)) ∧ W.cell? ⟨w.heap.size + 1, 1, none⟩ = some (.int .i64 (y2 : Nat)) ∧ W.frozen? ⟨w.heap.size + 1, 0, none⟩ = false ∧ W.frozen? ⟨w.heap.size + 1, 1, none⟩ = false := row2 h.2.2.1
theorem StS.led {w W : World} {A : Obj} {x1 x2 y1 y2 : Nat} (h : StS w A (x1, x2) (y1, y2) W) : W.cell? ⟨w.heap.size + 1 + 1, 0, none⟩ = some (.int .i64 (x1 : Nat)) ∧ W.cell? ⟨w.heap.size + 1 + 1, 1, none⟩ = some (.int .i64 (x2 : Nat)) ∧ W.frozen? ⟨w.heap.size + 1 + 1, 0, none⟩ = false ∧ W.frozen? ⟨w.heap.size + 1 + 1, 1, none⟩ = false := row2 h.2.2.2
theorem steps_start (w : World) (A : Obj) : ∃ w1, ((w.alloc A).alloc (.cells #[.int .i64 0, .int .i64 0] 24)).alloc (.cells #[.int .i64 0, .int .i64 0] 24) = w1 ∧ StS w A (0, 0) (0, 0) w1 := by
  obtain ⟨w1, hw1, hsz, g1, g2, hb1⟩ := two2 w A (.cells #[.int .i64 0, .int .i64 0] 24)
  have hb2 := bal w1 (.cells #[.int .i64 0, .int .i64 0] 24)
  refine ⟨w1.alloc (.cells #[.int .i64 0, .int .i64 0] 24), by rw [← hw1], btr hb1 hb2, ?_, ?_, ?_⟩
  · exact (hb2.block _ (Array.getElem?_eq_some_iff.1 g1).1).trans g1
  · exact (hb2.block _ (Array.getElem?_eq_some_iff.1 g2).1).trans g2
  · have := heap_alloc_new w1 (.cells #[.int .i64 0, .int .i64 0] 24)
    rw [hsz] at this
    exact this
/-- where steps lead, how they are told -/
def movedP (g : Pl → Pl) (p : Pl) : Bool := decide (g p ≠ p)
set_option maxHeartbeats 4000000 in
theorem stepsP_any (a : Option Addr) (n c l q : Nat) (t : Nat) (key cnt arg want : Int) (op : Bool) (L : List (List Int)) (f : FuncId) (g : Pl → Pl) (w : World) (hp : okP L (l, q)) (ht : (t : Int) ≤ 9223372036854775807) (ht1 : 1 ≤ t) (hg : ∀ p, okP L p → okP L (g p))
    (hcf : ∀ (xs : Array Value) (W : World), Sem.run Try.prog (callFunc f xs) W = .ok (.enter f xs) W)
    (hf : ∀ (p1 p2 : Nat) (W : World), okP L (p1, p2) → Below w.heap.size w W → Calls Try.prog f #[.slice a n c, .agg #[.int .i64 (p1 : Nat), .int .i64 (p2 : Nat)]] W fun e w' => e = .returned (plV (g (p1, p2))) ∧ Below W.heap.size W w') :
    Calls Try.prog 48 #[askL a n c l q (t : Nat) key cnt arg want op, .func (.func f) #[] #[]] w fun e w' => e = .returned (.tuple #[plV (stepsP g t (l, q) (l, q)).2, plV (stepsP g t (l, q) (l, q)).1, .bool (movedP g (l, q))]) ∧ Below w.heap.size w w' := by
  obtain ⟨w1, hw1, ha1⟩ := steps_start w (askO a n c l q (t : Nat) key cnt arg want op)
  obtain ⟨x0, x1, x2, x3⟩ := ha1.cells
  obtain ⟨y0, y1, z0, z1⟩ := ha1.began
  obtain ⟨v0, v1, u0, u1⟩ := ha1.led
  have HW1 := Lib.hid hw1
  have HA1 := Lib.hid ha1
  have HF := Lib.hid hf
  have HG := Lib.hid hg
  have HP := Lib.hid hp
  obtain ⟨⟨⟨r1, r2⟩, ⟨s1, s2⟩⟩, hr⟩ : ∃ y, stepsP g t (l, q) (l, q) = y := ⟨_, rfl⟩
  rw [hr]
  obtain ⟨mv, hmv⟩ : ∃ b, movedP g (l, q) = b := ⟨_, rfl⟩
  rw [hmv]
  have HR := Lib.hid hr
  have HMV := Lib.hid hmv
  clear hw1 ha1 hf hg hp hr hmv
  go_enter Try.func48, Try.ntmps48
  go_upto_region 1 with fail
  rw [HW1.out]
  go_cut [6] from 8 (fun v6 wx => v6 = .bool false ∧ Hid (StS w (askO a n c l q (t : Nat) key cnt arg want op) (l, q) (l, q) wx))
  case first =>
    go_region
    all_goals
      go_wp2_with fail
      go_meet
      first
        | exact ⟨rfl, (HA1.out.set1 (l, q)).set2 (l, q)⟩
        | exact ⟨rfl, (HA1.out.set2 (l, q)).set1 (l, q)⟩
        | exact ⟨rfl, (HA1.out.drew.set1 (l, q)).set2 (l, q)⟩
        | exact ⟨rfl, (HA1.out.drew.set2 (l, q)).set1 (l, q)⟩
  case rest =>
    obtain ⟨rfl, hst⟩ := hcut
    clear x0 x1 x2 x3 y0 y1 z0 z1 v0 v1 u0 u1
    obtain ⟨x0, x1, x2, x3⟩ := hst.out.cells
    go_wp2_with fail
    go_loopw [6, 14] (fun v6 v14 wr => ∃ (i : Nat) (b : Bool), v14 = .int .i64 (i : Nat) ∧ v6 = .bool b ∧ i ≤ t ∧ Hid (b = decide (0 < i)) ∧ ∃ p1 p2 q1 q2 : Nat, Hid (StS w (askO a n c l q (t : Nat) key cnt arg want op) (p1, p2) (q1, q2) wr) ∧ Hid (okP L (p1, p2)) ∧ Hid (stepsP g (t - i) (p1, p2) (q1, q2) = ((r1, r2), (s1, s2))) ∧ Hid (0 < i → mv = true) ∧ Hid (i = 0 → (p1, p2) = (l, q))) (fun _ v14 _ => t - (intOf v14).toNat)
    case atStart => exact ⟨0, false, rfl, rfl, Nat.zero_le _, rfl, l, q, l, q, hst.out, HP.out, HR.out, fun h => absurd h (by omega), fun _ => rfl⟩
    case round =>
      obtain ⟨i, b, rfl, rfl, hit, HBI, p1, p2, q1, q2, HST, HOK, HRS, HM1, HM0⟩ := hrel
      clear hst x0 x1 x2 x3
      obtain ⟨x0, x1, x2, x3⟩ := HST.out.cells
      obtain ⟨y0, y1, z0, z1⟩ := HST.out.began
      obtain ⟨v0, v1, u0, u1⟩ := HST.out.led
      by_cases hlt : i < t
      · have g1 : (i : Int) < (t : Int) := by omega
        have g2 : decide ((i : Int) < (t : Int)) = true := by simp; omega
        have hcl := HF.out p1 p2 wr HOK.out HST.out.1
        obtain ⟨⟨n1, n2⟩, hn⟩ : ∃ y, g (p1, p2) = y := ⟨_, rfl⟩
        rw [hn] at hcl
        unfold plV at hcl
        have HN := Lib.hid hn
        have HCL := Lib.hid hcl
        have HLT := Lib.hid hlt
        clear hcl hn hlt
        by_cases he : (n1, n2) = (p1, p2)
        · obtain ⟨rfl, rfl⟩ := Prod.mk.inj he
          have HE : Hid ((r1, r2) = (n1, n2) ∧ (s1, s2) = (q1, q2) ∧ mv = b) := by
            have h1 := HRS.out
            rw [stepsP_still HN.out] at h1
            obtain ⟨h2, h3⟩ := Prod.mk.inj h1
            refine ⟨h2.symm, h3.symm, ?_⟩
            by_cases h0 : i = 0
            · rw [HBI.out, ← HMV.out]
              have h4 := HM0.out h0
              have h5 : g (l, q) = (l, q) := by rw [← h4]; exact HN.out
              unfold movedP
              simp [h0, h5]
            · rw [HM1.out (by omega), HBI.out]; simp; omega
          clear he
          go_wp2_with ((with_reducible (refine HCL.out.mono ?_)); rintro e w2 ⟨rfl, hb2⟩; obtain ⟨w3, hw3⟩ : ∃ w3, w2.alloc (.cells #[.int .i64 (n1 : Nat), .int .i64 (n2 : Nat)] 24) = w3 := ⟨_, rfl⟩; have hn3 : At w3 w2.heap.size (n1, n2) := (by rw [← hw3]; exact heap_alloc_new w2 _); have HS3 := Lib.hid ((HST.out.below hb2).below (by rw [← hw3]; exact bal _ _ : Below w2.heap.size w2 w3)); obtain ⟨x0, x1, x2, x3⟩ := HS3.out.cells; obtain ⟨y0, y1, z0, z1⟩ := HS3.out.began; obtain ⟨v0, v1, u0, u1⟩ := HS3.out.led; obtain ⟨c0, c1, -, -⟩ := row2 hn3; simp only at c0 c1; have HN3 := Lib.hid hn3; have hsz := (HST.out.below hb2).2.2.2.lt; have k1 : ¬ w2.heap.size = w.heap.size + 1 := (by omega); have k2 : ¬ w2.heap.size = w.heap.size + 1 + 1 := (by omega); have k3 : ¬ w.heap.size + 1 = w2.heap.size := (by omega); have k4 : ¬ w.heap.size + 1 + 1 = w2.heap.size := (by omega); clear hn3 hsz)
          go_region
          all_goals
            go_wp2_with fail
            refine bodyPost_ret (v := .tuple #[.agg #[.int .i64 (q1 : Nat), .int .i64 (q2 : Nat)], .agg #[.int .i64 (n1 : Nat), .int .i64 (n2 : Nat)], .bool b]) ?_ rfl ⟨by rw [HE.out.1, HE.out.2.1, HE.out.2.2]; rfl, ?_⟩
            · rw [results_cct rfl]
              go_simp
            · first
                | with_reducible exact ((HS3.out.set1 (q1, q2)).set2 (n1, n2)).blw
                | with_reducible exact ((HS3.out.set1 (q1, q2)).set2 (n1, n2)).drew.blw
                | with_reducible exact ((HS3.out.set2 (n1, n2)).set1 (q1, q2)).blw
                | with_reducible exact ((HS3.out.set2 (n1, n2)).set1 (q1, q2)).drew.blw
                | with_reducible exact ((HS3.out.drew.set1 (q1, q2)).set2 (n1, n2)).blw
                | with_reducible exact ((HS3.out.drew.set1 (q1, q2)).set2 (n1, n2)).drew.blw
                | with_reducible exact ((HS3.out.drew.set2 (n1, n2)).set1 (q1, q2)).blw
                | with_reducible exact ((HS3.out.drew.set2 (n1, n2)).set1 (q1, q2)).drew.blw
        · have e1 : ((n1 : Int) == (p1 : Int) && (n2 : Int) == (p2 : Int)) = false := by
            by_cases h1 : n1 = p1
            · have h2 : ¬ n2 = p2 := fun h => he (by rw [h1, h])
              simp [h1]; omega
            · simp; omega
          have HNX : Hid (stepsP g (t - (i + 1)) (n1, n2) (p1, p2) = ((r1, r2), (s1, s2))) := by
            have h1 := HRS.out
            rw [show t - i = (t - (i + 1)) + 1 by have := HLT.out; omega, stepsP, if_neg (by rw [HN.out]; exact he), HN.out] at h1
            exact h1
          have HOK2 : Hid (okP L (n1, n2)) := by
            have := HG.out (p1, p2) HOK.out
            rwa [HN.out] at this
          have HMT : Hid (mv = true) := by
            show _ = _
            by_cases h0 : i = 0
            · have h4 := HM0.out h0
              rw [← HMV.out]
              unfold movedP
              rw [← h4, HN.out]
              exact decide_eq_true he
            · exact HM1.out (by omega)
          by_cases h1 : n1 = p1
          · have f2 : ¬ (n2 : Int) = (p2 : Int) := by
              intro h; exact he (by rw [h1, Int.ofNat.inj h])
            have f3 : ¬ n2 = p2 := by omega
            clear he
            subst h1
            go_wp2_with ((with_reducible (refine HCL.out.mono ?_)); rintro e w2 ⟨rfl, hb2⟩; obtain ⟨w3, hw3⟩ : ∃ w3, w2.alloc (.cells #[.int .i64 (n1 : Nat), .int .i64 (n2 : Nat)] 24) = w3 := ⟨_, rfl⟩; have hn3 : At w3 w2.heap.size (n1, n2) := (by rw [← hw3]; exact heap_alloc_new w2 _); have HS3 := Lib.hid ((HST.out.below hb2).below (by rw [← hw3]; exact bal _ _ : Below w2.heap.size w2 w3)); obtain ⟨x0, x1, x2, x3⟩ := HS3.out.cells; obtain ⟨y0, y1, z0, z1⟩ := HS3.out.began; obtain ⟨v0, v1, u0, u1⟩ := HS3.out.led; obtain ⟨c0, c1, -, -⟩ := row2 hn3; simp only at c0 c1; have HN3 := Lib.hid hn3; have hsz := (HST.out.below hb2).2.2.2.lt; have k1 : ¬ w2.heap.size = w.heap.size + 1 := (by omega); have k2 : ¬ w2.heap.size = w.heap.size + 1 + 1 := (by omega); have k3 : ¬ w.heap.size + 1 = w2.heap.size := (by omega); have k4 : ¬ w.heap.size + 1 + 1 = w2.heap.size := (by omega); clear hn3 hsz)
            go_region
            all_goals
              go_wp2_with fail
              go_roundw
              case rel =>
                refine ⟨i + 1, true, by go_num, rfl, by have := HLT.out; omega, by show true = decide (0 < i + 1); simp, n1, n2, n1, p2, ?_, HOK2.out, HNX.out, fun _ => HMT.out, fun h => absurd h (by omega)⟩
                refine Lib.hid ?_
                first
                  | with_reducible exact ((HS3.out.set1 (n1, p2)).set2 (n1, n2)).drew
                  | with_reducible exact ((HS3.out.set2 (n1, n2)).set1 (n1, p2)).drew
                  | with_reducible exact (HS3.out.set1 (n1, p2)).set2 (n1, n2)
                  | with_reducible exact (HS3.out.set2 (n1, n2)).set1 (n1, p2)
                  | with_reducible exact (HS3.out.drew.set1 (n1, p2)).set2 (n1, n2)
                  | with_reducible exact (HS3.out.drew.set2 (n1, n2)).set1 (n1, p2)
              case measure => have := HLT.out; simp [intOf]; omega
          · have f2 : ¬ (n1 : Int) = (p1 : Int) := by omega
            clear he
            go_wp2_with ((with_reducible (refine HCL.out.mono ?_)); rintro e w2 ⟨rfl, hb2⟩; obtain ⟨w3, hw3⟩ : ∃ w3, w2.alloc (.cells #[.int .i64 (n1 : Nat), .int .i64 (n2 : Nat)] 24) = w3 := ⟨_, rfl⟩; have hn3 : At w3 w2.heap.size (n1, n2) := (by rw [← hw3]; exact heap_alloc_new w2 _); have HS3 := Lib.hid ((HST.out.below hb2).below (by rw [← hw3]; exact bal _ _ : Below w2.heap.size w2 w3)); obtain ⟨x0, x1, x2, x3⟩ := HS3.out.cells; obtain ⟨y0, y1, z0, z1⟩ := HS3.out.began; obtain ⟨v0, v1, u0, u1⟩ := HS3.out.led; obtain ⟨c0, c1, -, -⟩ := row2 hn3; simp only at c0 c1; have HN3 := Lib.hid hn3; have hsz := (HST.out.below hb2).2.2.2.lt; have k1 : ¬ w2.heap.size = w.heap.size + 1 := (by omega); have k2 : ¬ w2.heap.size = w.heap.size + 1 + 1 := (by omega); have k3 : ¬ w.heap.size + 1 = w2.heap.size := (by omega); have k4 : ¬ w.heap.size + 1 + 1 = w2.heap.size := (by omega); clear hn3 hsz)
            go_region
            all_goals
              go_wp2_with fail
              go_roundw
              case rel =>
                refine ⟨i + 1, true, by go_num, rfl, by have := HLT.out; omega, by show true = decide (0 < i + 1); simp, n1, n2, p1, p2, ?_, HOK2.out, HNX.out, fun _ => HMT.out, fun h => absurd h (by omega)⟩
                refine Lib.hid ?_
                first
                  | with_reducible exact ((HS3.out.set1 (p1, p2)).set2 (n1, n2)).drew
                  | with_reducible exact ((HS3.out.set2 (n1, n2)).set1 (p1, p2)).drew
                  | with_reducible exact (HS3.out.set1 (p1, p2)).set2 (n1, n2)
                  | with_reducible exact (HS3.out.set2 (n1, n2)).set1 (p1, p2)
                  | with_reducible exact (HS3.out.drew.set1 (p1, p2)).set2 (n1, n2)
                  | with_reducible exact (HS3.out.drew.set2 (n1, n2)).set1 (p1, p2)
              case measure => have := HLT.out; simp [intOf]; omega
      · have hti : i = t := by omega
        have HE : Hid ((r1, r2) = (p1, p2) ∧ (s1, s2) = (q1, q2) ∧ mv = b) := by
          have h1 := HRS.out
          rw [hti, Nat.sub_self, stepsP] at h1
          obtain ⟨h2, h3⟩ := Prod.mk.inj h1
          exact ⟨h2.symm, h3.symm, by rw [HM1.out (by omega), HBI.out]; simp; omega⟩
        have g1 : ¬ (i : Int) < (t : Int) := by omega
        have g2 : decide ((i : Int) < (t : Int)) = false := by simp; omega
        have HS3 := HST
        clear hti
        go_wp2_with fail
        go_region
        all_goals
          go_wp2_with fail
          refine bodyPost_ret (v := .tuple #[.agg #[.int .i64 (q1 : Nat), .int .i64 (q2 : Nat)], .agg #[.int .i64 (p1 : Nat), .int .i64 (p2 : Nat)], .bool b]) ?_ rfl ⟨by rw [HE.out.1, HE.out.2.1, HE.out.2.2]; rfl, ?_⟩
          · rw [results_cct rfl]
            go_simp
          · first
              | exact ((HS3.out.set1 (q1, q2)).set2 (p1, p2)).1
              | exact ((HS3.out.set2 (p1, p2)).set1 (q1, q2)).1
              | exact ((HS3.out.drew.set1 (q1, q2)).set2 (p1, p2)).1
              | exact ((HS3.out.drew.set2 (p1, p2)).set1 (q1, q2)).1
set_option maxHeartbeats 4000000 in
theorem stepsB_any (a : Option Addr) (n c l q : Nat) (t : Nat) (key cnt arg want : Int) (op : Bool) (L : List (List Int)) (f : FuncId) (b1 b2 : Nat) (g : Pl → Pl) (w : World) (hp : okP L (l, q)) (ht : (t : Int) ≤ 9223372036854775807) (ht1 : 1 ≤ t) (hg : ∀ p, okP L p → okP L (g p))
    (hcf : ∀ (xs : Array Value) (W : World), Sem.run Try.prog (callFunc f xs) W = .ok (.enter f xs) W)
    (hf : ∀ (p1 p2 : Nat) (W : World), okP L (p1, p2) → Below w.heap.size w W → Calls Try.prog f #[.slice a n c, .agg #[.int .i64 (p1 : Nat), .int .i64 (p2 : Nat)], .pointer (some ⟨b1, 0, none⟩), .pointer (some ⟨b2, 0, none⟩)] W fun e w' => e = .returned (plV (g (p1, p2))) ∧ Below W.heap.size W w') :
    Calls Try.prog 48 #[askL a n c l q (t : Nat) key cnt arg want op, .func (.func f) #[] #[.pointer (some ⟨b1, 0, none⟩), .pointer (some ⟨b2, 0, none⟩)]] w fun e w' => e = .returned (.tuple #[plV (stepsP g t (l, q) (l, q)).2, plV (stepsP g t (l, q) (l, q)).1, .bool (movedP g (l, q))]) ∧ Below w.heap.size w w' := by
  obtain ⟨w1, hw1, ha1⟩ := steps_start w (askO a n c l q (t : Nat) key cnt arg want op)
  obtain ⟨x0, x1, x2, x3⟩ := ha1.cells
  obtain ⟨y0, y1, z0, z1⟩ := ha1.began
  obtain ⟨v0, v1, u0, u1⟩ := ha1.led
  have HW1 := Lib.hid hw1
  have HA1 := Lib.hid ha1
  have HF := Lib.hid hf
  have HG := Lib.hid hg
  have HP := Lib.hid hp
  obtain ⟨⟨⟨r1, r2⟩, ⟨s1, s2⟩⟩, hr⟩ : ∃ y, stepsP g t (l, q) (l, q) = y := ⟨_, rfl⟩
  rw [hr]
  obtain ⟨mv, hmv⟩ : ∃ b, movedP g (l, q) = b := ⟨_, rfl⟩
  rw [hmv]
  have HR := Lib.hid hr
  have HMV := Lib.hid hmv
  clear hw1 ha1 hf hg hp hr hmv
  go_enter Try.func48, Try.ntmps48
  go_upto_region 1 with fail
  rw [HW1.out]
  go_cut [6] from 8 (fun v6 wx => v6 = .bool false ∧ Hid (StS w (askO a n c l q (t : Nat) key cnt arg want op) (l, q) (l, q) wx))
  case first =>
    go_region
    all_goals
      go_wp2_with fail
      go_meet
      first
        | exact ⟨rfl, (HA1.out.set1 (l, q)).set2 (l, q)⟩
        | exact ⟨rfl, (HA1.out.set2 (l, q)).set1 (l, q)⟩
        | exact ⟨rfl, (HA1.out.drew.set1 (l, q)).set2 (l, q)⟩
        | exact ⟨rfl, (HA1.out.drew.set2 (l, q)).set1 (l, q)⟩
  case rest =>
    obtain ⟨rfl, hst⟩ := hcut
    clear x0 x1 x2 x3 y0 y1 z0 z1 v0 v1 u0 u1
    obtain ⟨x0, x1, x2, x3⟩ := hst.out.cells
    go_wp2_with fail
    go_loopw [6, 14] (fun v6 v14 wr => ∃ (i : Nat) (b : Bool), v14 = .int .i64 (i : Nat) ∧ v6 = .bool b ∧ i ≤ t ∧ Hid (b = decide (0 < i)) ∧ ∃ p1 p2 q1 q2 : Nat, Hid (StS w (askO a n c l q (t : Nat) key cnt arg want op) (p1, p2) (q1, q2) wr) ∧ Hid (okP L (p1, p2)) ∧ Hid (stepsP g (t - i) (p1, p2) (q1, q2) = ((r1, r2), (s1, s2))) ∧ Hid (0 < i → mv = true) ∧ Hid (i = 0 → (p1, p2) = (l, q))) (fun _ v14 _ => t - (intOf v14).toNat)
    case atStart => exact ⟨0, false, rfl, rfl, Nat.zero_le _, rfl, l, q, l, q, hst.out, HP.out, HR.out, fun h => absurd h (by omega), fun _ => rfl⟩
    case round =>
      obtain ⟨i, b, rfl, rfl, hit, HBI, p1, p2, q1, q2, HST, HOK, HRS, HM1, HM0⟩ := hrel
      clear hst x0 x1 x2 x3
      obtain ⟨x0, x1, x2, x3⟩ := HST.out.cells
      obtain ⟨y0, y1, z0, z1⟩ := HST.out.began
      obtain ⟨v0, v1, u0, u1⟩ := HST.out.led
      by_cases hlt : i < t
      · have g1 : (i : Int) < (t : Int) := by omega
        have g2 : decide ((i : Int) < (t : Int)) = true := by simp; omega
        have hcl := HF.out p1 p2 wr HOK.out HST.out.1
        obtain ⟨⟨n1, n2⟩, hn⟩ : ∃ y, g (p1, p2) = y := ⟨_, rfl⟩
        rw [hn] at hcl
        unfold plV at hcl
        have HN := Lib.hid hn
        have HCL := Lib.hid hcl
        have HLT := Lib.hid hlt
        clear hcl hn hlt
        by_cases he : (n1, n2) = (p1, p2)
        · obtain ⟨rfl, rfl⟩ := Prod.mk.inj he
          have HE : Hid ((r1, r2) = (n1, n2) ∧ (s1, s2) = (q1, q2) ∧ mv = b) := by
            have h1 := HRS.out
            rw [stepsP_still HN.out] at h1
            obtain ⟨h2, h3⟩ := Prod.mk.inj h1
            refine ⟨h2.symm, h3.symm, ?_⟩
            by_cases h0 : i = 0
            · rw [HBI.out, ← HMV.out]
              have h4 := HM0.out h0
              have h5 : g (l, q) = (l, q) := by rw [← h4]; exact HN.out
              unfold movedP
              simp [h0, h5]
            · rw [HM1.out (by omega), HBI.out]; simp; omega
          clear he
          go_wp2_with ((with_reducible (refine HCL.out.mono ?_)); rintro e w2 ⟨rfl, hb2⟩; obtain ⟨w3, hw3⟩ : ∃ w3, w2.alloc (.cells #[.int .i64 (n1 : Nat), .int .i64 (n2 : Nat)] 24) = w3 := ⟨_, rfl⟩; have hn3 : At w3 w2.heap.size (n1, n2) := (by rw [← hw3]; exact heap_alloc_new w2 _); have HS3 := Lib.hid ((HST.out.below hb2).below (by rw [← hw3]; exact bal _ _ : Below w2.heap.size w2 w3)); obtain ⟨x0, x1, x2, x3⟩ := HS3.out.cells; obtain ⟨y0, y1, z0, z1⟩ := HS3.out.began; obtain ⟨v0, v1, u0, u1⟩ := HS3.out.led; obtain ⟨c0, c1, -, -⟩ := row2 hn3; simp only at c0 c1; have HN3 := Lib.hid hn3; have hsz := (HST.out.below hb2).2.2.2.lt; have k1 : ¬ w2.heap.size = w.heap.size + 1 := (by omega); have k2 : ¬ w2.heap.size = w.heap.size + 1 + 1 := (by omega); have k3 : ¬ w.heap.size + 1 = w2.heap.size := (by omega); have k4 : ¬ w.heap.size + 1 + 1 = w2.heap.size := (by omega); clear hn3 hsz)
          go_region
          all_goals
            go_wp2_with fail
            refine bodyPost_ret (v := .tuple #[.agg #[.int .i64 (q1 : Nat), .int .i64 (q2 : Nat)], .agg #[.int .i64 (n1 : Nat), .int .i64 (n2 : Nat)], .bool b]) ?_ rfl ⟨by rw [HE.out.1, HE.out.2.1, HE.out.2.2]; rfl, ?_⟩
            · rw [results_cct rfl]
              go_simp
            · first
                | with_reducible exact ((HS3.out.set1 (q1, q2)).set2 (n1, n2)).blw
                | with_reducible exact ((HS3.out.set1 (q1, q2)).set2 (n1, n2)).drew.blw
                | with_reducible exact ((HS3.out.set2 (n1, n2)).set1 (q1, q2)).blw
                | with_reducible exact ((HS3.out.set2 (n1, n2)).set1 (q1, q2)).drew.blw
                | with_reducible exact ((HS3.out.drew.set1 (q1, q2)).set2 (n1, n2)).blw
                | with_reducible exact ((HS3.out.drew.set1 (q1, q2)).set2 (n1, n2)).drew.blw
                | with_reducible exact ((HS3.out.drew.set2 (n1, n2)).set1 (q1, q2)).blw
                | with_reducible exact ((HS3.out.drew.set2 (n1, n2)).set1 (q1, q2)).drew.blw
        · have e1 : ((n1 : Int) == (p1 : Int) && (n2 : Int) == (p2 : Int)) = false := by
            by_cases h1 : n1 = p1
            · have h2 : ¬ n2 = p2 := fun h => he (by rw [h1, h])
              simp [h1]; omega
            · simp; omega
          have HNX : Hid (stepsP g (t - (i + 1)) (n1, n2) (p1, p2) = ((r1, r2), (s1, s2))) := by
            have h1 := HRS.out
            rw [show t - i = (t - (i + 1)) + 1 by have := HLT.out; omega, stepsP, if_neg (by rw [HN.out]; exact he), HN.out] at h1
            exact h1
          have HOK2 : Hid (okP L (n1, n2)) := by
            have := HG.out (p1, p2) HOK.out
            rwa [HN.out] at this
          have HMT : Hid (mv = true) := by
            show _ = _
            by_cases h0 : i = 0
            · have h4 := HM0.out h0
              rw [← HMV.out]
              unfold movedP
              rw [← h4, HN.out]
              exact decide_eq_true he
            · exact HM1.out (by omega)
          by_cases h1 : n1 = p1
          · have f2 : ¬ (n2 : Int) = (p2 : Int) := by
              intro h; exact he (by rw [h1, Int.ofNat.inj h])
            have f3 : ¬ n2 = p2 := by omega
            clear he
            subst h1
            go_wp2_with ((with_reducible (refine HCL.out.mono ?_)); rintro e w2 ⟨rfl, hb2⟩; obtain ⟨w3, hw3⟩ : ∃ w3, w2.alloc (.cells #[.int .i64 (n1 : Nat), .int .i64 (n2 : Nat)] 24) = w3 := ⟨_, rfl⟩; have hn3 : At w3 w2.heap.size (n1, n2) := (by rw [← hw3]; exact heap_alloc_new w2 _); have HS3 := Lib.hid ((HST.out.below hb2).below (by rw [← hw3]; exact bal _ _ : Below w2.heap.size w2 w3)); obtain ⟨x0, x1, x2, x3⟩ := HS3.out.cells; obtain ⟨y0, y1, z0, z1⟩ := HS3.out.began; obtain ⟨v0, v1, u0, u1⟩ := HS3.out.led; obtain ⟨c0, c1, -, -⟩ := row2 hn3; simp only at c0 c1; have HN3 := Lib.hid hn3; have hsz := (HST.out.below hb2).2.2.2.lt; have k1 : ¬ w2.heap.size = w.heap.size + 1 := (by omega); have k2 : ¬ w2.heap.size = w.heap.size + 1 + 1 := (by omega); have k3 : ¬ w.heap.size + 1 = w2.heap.size := (by omega); have k4 : ¬ w.heap.size + 1 + 1 = w2.heap.size := (by omega); clear hn3 hsz)
            go_region
            all_goals
              go_wp2_with fail
              go_roundw
              case rel =>
                refine ⟨i + 1, true, by go_num, rfl, by have := HLT.out; omega, by show true = decide (0 < i + 1); simp, n1, n2, n1, p2, ?_, HOK2.out, HNX.out, fun _ => HMT.out, fun h => absurd h (by omega)⟩
                refine Lib.hid ?_
                first
                  | with_reducible exact ((HS3.out.set1 (n1, p2)).set2 (n1, n2)).drew
                  | with_reducible exact ((HS3.out.set2 (n1, n2)).set1 (n1, p2)).drew
                  | with_reducible exact (HS3.out.set1 (n1, p2)).set2 (n1, n2)
                  | with_reducible exact (HS3.out.set2 (n1, n2)).set1 (n1, p2)
                  | with_reducible exact (HS3.out.drew.set1 (n1, p2)).set2 (n1, n2)
                  | with_reducible exact (HS3.out.drew.set2 (n1, n2)).set1 (n1, p2)
              case measure => have := HLT.out; simp [intOf]; omega
          · have f2 : ¬ (n1 : Int) = (p1 : Int) := by omega
            clear he
            go_wp2_with ((with_reducible (refine HCL.out.mono ?_)); rintro e w2 ⟨rfl, hb2⟩; obtain ⟨w3, hw3⟩ : ∃ w3, w2.alloc (.cells #[.int .i64 (n1 : Nat), .int .i64 (n2 : Nat)] 24) = w3 := ⟨_, rfl⟩; have hn3 : At w3 w2.heap.size (n1, n2) := (by rw [← hw3]; exact heap_alloc_new w2 _); have HS3 := Lib.hid ((HST.out.below hb2).below (by rw [← hw3]; exact bal _ _ : Below w2.heap.size w2 w3)); obtain ⟨x0, x1, x2, x3⟩ := HS3.out.cells; obtain ⟨y0, y1, z0, z1⟩ := HS3.out.began; obtain ⟨v0, v1, u0, u1⟩ := HS3.out.led; obtain ⟨c0, c1, -, -⟩ := row2 hn3; simp only at c0 c1; have HN3 := Lib.hid hn3; have hsz := (HST.out.below hb2).2.2.2.lt; have k1 : ¬ w2.heap.size = w.heap.size + 1 := (by omega); have k2 : ¬ w2.heap.size = w.heap.size + 1 + 1 := (by omega); have k3 : ¬ w.heap.size + 1 = w2.heap.size := (by omega); have k4 : ¬ w.heap.size + 1 + 1 = w2.heap.size := (by omega); clear hn3 hsz)
            go_region
            all_goals
              go_wp2_with fail
              go_roundw
              case rel =>
                refine ⟨i + 1, true, by go_num, rfl, by have := HLT.out; omega, by show true = decide (0 < i + 1); simp, n1, n2, p1, p2, ?_, HOK2.out, HNX.out, fun _ => HMT.out, fun h => absurd h (by omega)⟩
                refine Lib.hid ?_
                first
                  | with_reducible exact ((HS3.out.set1 (p1, p2)).set2 (n1, n2)).drew
                  | with_reducible exact ((HS3.out.set2 (n1, n2)).set1 (p1, p2)).drew
                  | with_reducible exact (HS3.out.set1 (p1, p2)).set2 (n1, n2)
                  | with_reducible exact (HS3.out.set2 (n1, n2)).set1 (p1, p2)
                  | with_reducible exact (HS3.out.drew.set1 (p1, p2)).set2 (n1, n2)
                  | with_reducible exact (HS3.out.drew.set2 (n1, n2)).set1 (p1, p2)
              case measure => have := HLT.out; simp [intOf]; omega
      · have hti : i = t := by omega
        have HE : Hid ((r1, r2) = (p1, p2) ∧ (s1, s2) = (q1, q2) ∧ mv = b) := by
          have h1 := HRS.out
          rw [hti, Nat.sub_self, stepsP] at h1
          obtain ⟨h2, h3⟩ := Prod.mk.inj h1
          exact ⟨h2.symm, h3.symm, by rw [HM1.out (by omega), HBI.out]; simp; omega⟩
        have g1 : ¬ (i : Int) < (t : Int) := by omega
        have g2 : decide ((i : Int) < (t : Int)) = false := by simp; omega
        have HS3 := HST
        clear hti
        go_wp2_with fail
        go_region
        all_goals
          go_wp2_with fail
          refine bodyPost_ret (v := .tuple #[.agg #[.int .i64 (q1 : Nat), .int .i64 (q2 : Nat)], .agg #[.int .i64 (p1 : Nat), .int .i64 (p2 : Nat)], .bool b]) ?_ rfl ⟨by rw [HE.out.1, HE.out.2.1, HE.out.2.2]; rfl, ?_⟩
          · rw [results_cct rfl]
            go_simp
          · first
              | exact ((HS3.out.set1 (q1, q2)).set2 (p1, p2)).1
              | exact ((HS3.out.set2 (p1, p2)).set1 (q1, q2)).1
              | exact ((HS3.out.drew.set1 (q1, q2)).set2 (p1, p2)).1
              | exact ((HS3.out.drew.set2 (p1, p2)).set1 (q1, q2)).1
end Go.Proofs.Ytikdojebnbmpoaa.U
