/-
  The program's Cut. (MADE by wip/tools/gen_kcut.py.)
-/
import Derived.Test.YtfldjoiohejilaaKCutP
namespace Go.Proofs.Ytfldjoiohejilaa.U
open Go.RowKit
set_option linter.unusedVariables false
set_option linter.unusedSimpArgs false
set_option maxRecDepth 100000

/-- Cut's first boxes: the region, the place -/
def CtS (w : World) (b : Nat) (r : Rgn) (W : World) : Prop := Below b w W ∧ RgB b r W ∧ W.heap[b + 1]? = some (.cells #[.int .i64 0, .int .i64 0] 24 (0, 0))
theorem CtS.below {w W W' : World} {b : Nat} {r : Rgn} (h : CtS w b r W) (hw : w.heap.size = b) (hb : Below W.heap.size W W') : CtS w b r W' :=
  ⟨h.1.trans (hb.mono (by have := h.1.size; omega)), h.2.1.below hb, (hb.block _ (heap_lt h.2.2)).trans h.2.2⟩
theorem cts_new (w : World) (r : Rgn) : CtS w w.heap.size r ((w.alloc (.cells #[.int .i64 r.f.l, .int .i64 r.f.c, .int .i64 r.t.l, .int .i64 r.t.c, .int .i64 r.k] 26)).alloc (.cells #[.int .i64 0, .int .i64 0] 24)) := by
  obtain ⟨g1, g2⟩ := two_new w #[.int .i64 r.f.l, .int .i64 r.f.c, .int .i64 r.t.l, .int .i64 r.t.c, .int .i64 r.k] #[.int .i64 0, .int .i64 0] 26 24 _ (Below.refl _ _)
  exact ⟨((Below.refl _ _).alloc (Nat.le_refl _) _).alloc (by simp) _, RgB.of g1, g2⟩
set_option maxHeartbeats 4000000 in
theorem kcut_no (F : Nat → Prop) (a : Option Addr) (n c : Nat) (L : List (List Int)) (r : Rgn) (w : World) (h : RdL F w a n c L) (hr : i64r r) (hR : thereR L r ≠ 0) :
    Calls Try.prog 18 #[.slice a n c, r.v] w fun e w' => e = .returned (.tuple #[.slice none 0 0, plV (0, 0), .int .i64 (thereR L r)]) ∧ Below w.heap.size w w' := by
  have hfi := fun W (hW : Below w.heap.size w W) => kfind_no F a n c L r _ W (h.below hW) hr rfl hR
  obtain ⟨E, hE⟩ : ∃ E, thereR L r = E := ⟨_, rfl⟩
  rw [hE] at hR hfi ⊢
  obtain ⟨⟨f1, f2⟩, ⟨t1, t2⟩, k⟩ := r
  have hE0 : (E != 0) = true := by simpa using hR
  obtain ⟨wb, hwb⟩ : ∃ wb, (w.alloc (.cells #[.int .i64 f1, .int .i64 f2, .int .i64 t1, .int .i64 t2, .int .i64 k] 26)).alloc (.cells #[.int .i64 0, .int .i64 0] 24) = wb := ⟨_, rfl⟩
  have hnew := cts_new w ⟨⟨f1, f2⟩, ⟨t1, t2⟩, k⟩
  simp only at hnew
  rw [hwb] at hnew
  obtain ⟨b, hbe⟩ : ∃ b, w.heap.size = b := ⟨_, rfl⟩
  have HC : Hid (∀ W, W = wb → Calls Try.prog 38 #[.slice a n c, .agg #[.int .i64 f1, .int .i64 f2, .int .i64 t1, .int .i64 t2, .int .i64 k]] W fun e w' => e = .returned (.tuple #[.agg #[.int .i64 0, .int .i64 0, .int .i64 0, .int .i64 0, .int .i64 0, .int .i64 0, .int .i64 0], .int .i64 E]) ∧ Hid (CtS w b ⟨⟨f1, f2⟩, ⟨t1, t2⟩, k⟩ w')) := by
    rintro W rfl
    refine (hfi W hnew.1).mono ?_
    rintro e w' ⟨rfl, hb⟩
    rw [← hbe]
    exact ⟨rfl, hnew.below rfl hb⟩
  have HBE := Lib.hid hbe
  rw [hbe] at hnew
  rw [hbe]
  obtain ⟨c0, c1, c2, c3, c4, l0⟩ := hnew.2.1
  simp only at c0 c1 c2 c3 c4
  have HW := Lib.hid hwb
  clear hwb hnew hbe h hfi hE hR hr
  show Calls Try.prog 18 #[.slice a n c, .agg #[.int .i64 f1, .int .i64 f2, .int .i64 t1, .int .i64 t2, .int .i64 k]] w _
  go_enter Try.func18, Try.ntmps18
  go_upto_region 1 with fail
  rw [HBE.out, HW.out]
  go_upto_region 2 with (go_at_call 38; (refine (HC.out _ rfl).mono ?_); rintro e w1 ⟨rfl, HT⟩)
  have HT2 : Hid (CtS w b ⟨⟨f1, f2⟩, ⟨t1, t2⟩, k⟩ (w1.alloc (.cells #[.int .i64 0, .int .i64 0, .int .i64 0, .int .i64 0, .int .i64 0, .int .i64 0, .int .i64 0] 68))) := HT.out.below HBE.out (bal _ _)
  obtain ⟨w2, hw2⟩ : ∃ w2, (w1.alloc (.cells #[.int .i64 0, .int .i64 0, .int .i64 0, .int .i64 0, .int .i64 0, .int .i64 0, .int .i64 0] 68)) = w2 := ⟨_, rfl⟩
  rw [hw2] at HT2
  rw [hw2]
  clear hw2 c0 c1 c2 c3 c4 l0
  have hz := HT2.out.2.2
  have q0 := cell_row hz 0
  have q1 := cell_row hz 1
  have q2 := frozen_row hz 0
  have q3 := frozen_row hz 1
  have ql := heap_lt hz
  have HB := Lib.hid HT2.out.1
  clear hz
  go_wp2
  refine bodyPost_ret (v := .tuple #[.slice none 0 0, plV (0, 0), .int .i64 E]) ?_ rfl ⟨rfl, ?_⟩
  · rw [results_tctK rfl]
    go_simp
    first | rfl | done
  · (try with_reducible refine Below.drew ?_)
    (repeat' (first | (with_reducible exact HB.out) | (with_reducible refine setCell_below ?_ _ _ _ ?_) | omega))
/-- what Cut puts in the place of a region's lines -/
def cutX (L : List (List Int)) (p q : Pl) (k : Int) : List (List Int) := if k = 2 then outsL L k p q (endsR p q).1.1 (overN p q) else if k = 0 then [(outsL L k p q (endsR p q).1.1 (overN p q)).flatten] else []
set_option maxHeartbeats 8000000 in
theorem kcut_ok (F : Nat → Prop) (a : Option Addr) (n c : Nat) (L : List (List Int)) (p q : Pl) (k : Int) (w : World) (h : RdL F w a n c L) (hs : sizeN (lens L) ≤ 65536) (hp : okP L p) (hq : okP L q) (h1 : 0 ≤ k) (h2 : k ≤ 2) :
    Calls Try.prog 18 #[.slice a n c, rgnV p q k] w fun e w' => ∃ ra m rc, e = .returned (.tuple #[.slice ra m rc, plV (cutQ (cutM L p q k) p q k), .int .i64 0]) ∧ RdL (fun x => w.heap.size ≤ x) w' ra m rc (cutM L p q k) ∧ Below w.heap.size w w' := by
  have hl := h.len
  have hcnt := size_count L
  have hs6 : sizeN (lens L) ≤ 1048576 := by omega
  have hfi := fun W (hW : Below w.heap.size w W) => kfind_ok F a n c L p q k W (h.below hW) hs6 hp hq h1 h2
  obtain ⟨hoA, hoB⟩ := endsR_ok hp hq
  have hBi := i64_okP h hs6 hoB
  have hqi := i64_okP h hs6 hq
  have hpi := i64_okP h hs6 hp
  have hle := endsR_le p q
  have hBn : (endsR p q).2.1 < n := by have := hoB.1; omega
  have hov0 := over_pos p q
  have hovn : overN p q ≤ n := by unfold overN; omega
  have hth := fun W (hW : Below w.heap.size w W) => kthrough_any F a n c L k (endsR p q).1 (endsR p q).2 (min p.2 q.2) (max p.2 q.2) 45 (outL L k p q) W (h.below hW) hs6 h1 h2 hle hBn (by omega) (by omega) (fun xs W => rfl)
    (fun i x xa xc W2 hi1 hi2 hx hW2 hrd => by
      have hxl : x.length ≤ 1048576 := by
        have hm : x.length ∈ lens L := List.mem_map.2 ⟨_, List.mem_of_getElem? hx, rfl⟩
        have := sizeN_mem hm
        omega
      have hln := lnL_of hx
      have hin := out_of (k := k) hp hq h1 h2 hi1 hi2
      have hof := of_le (k := k) hp hq i
      rw [hln] at hin hof
      have hlen : (outL L k p q i).length = ofF k p q i x.length + (x.length - ofT k p q i x.length) := by rw [hin]; simp; omega
      refine (kcut1_any xa x.length xc x (agF k (endsR p q).1 (min p.2 q.2) i x.length) (agT k (endsR p q).2 (max p.2 q.2) i x.length) W2 hrd (by rw [agF_of, agT_of]; exact hof.1) (by rw [agT_of]; exact hof.2) hxl).mono ?_
      rintro e w' ⟨ra, rc, rfl, ho, hb⟩
      rw [agF_of, agT_of] at ho ⊢
      rw [hlen, hin]
      exact ⟨ra, rc, rfl, ho, hb⟩)
  have hfr : thrL (outL L k p q) (endsR p q).1.1 ((endsR p q).2.1 + 1 - (endsR p q).1.1) = outsL L k p q (endsR p q).1.1 (overN p q) := rfl
  have hov : (endsR p q).2.1 + 1 - (endsR p q).1.1 = overN p q := rfl
  rw [hfr, hov] at hth
  have hTw : ∀ x ∈ outsL L k p q (endsR p q).1.1 (overN p q), ∀ y ∈ x, (Lit.int .i32 y).wf = true := by
    intro x hx
    obtain ⟨i, -, rfl⟩ := List.mem_map.1 hx
    exact outL_wf h k p q _
  have hTs : sizeN (lens (outsL L k p q (endsR p q).1.1 (overN p q))) ≤ 65536 := by
    have h3 := outs_size L k p q (endsR p q).1.1 (overN p q) (by unfold overN; omega)
    have h4 := size_parts L (endsR p q).1.1 (overN p q)
    omega
  have hcs := cutL_size hp hq k
  have hcut : cutL L p q k = L.take (endsR p q).1.1 ++ cutX L p q k ++ L.drop ((endsR p q).2.1 + 1) := rfl
  have hms := cutM_size hp hq k
  have hbeh := fun (W : World) (va : Option Addr) (vn vc : Nat) (G : Nat → Prop) (M : List (List Int)) (hM : RdL G W va vn vc M) (hvn : 0 < vn) => kbehind_any G va vn vc M k p q W hM hvn h1 h2 hpi.1 hpi.2 hqi.1 hqi.2
  have hX2 : k = 2 → cutX L p q k = outsL L k p q (endsR p q).1.1 (overN p q) := fun e => by unfold cutX; rw [if_pos e]
  have hX0 : k = 0 → cutX L p q k = [(outsL L k p q (endsR p q).1.1 (overN p q)).flatten] := fun e => by unfold cutX; rw [if_neg (by omega), if_pos e]
  have hX1 : k = 1 → cutX L p q k = [] := fun e => by unfold cutX; rw [if_neg (by omega), if_neg (by omega)]
  have hMM : cutM L p q k = if k = 1 ∧ cutL L p q k = [] then [[]] else cutL L p q k := rfl
  obtain ⟨T, hT⟩ : ∃ T, outsL L k p q (endsR p q).1.1 (overN p q) = T := ⟨_, rfl⟩
  obtain ⟨O, hO⟩ : ∃ O, overN p q = O := ⟨_, rfl⟩
  have hTl : T.length = O := by rw [← hT, ← hO]; exact outsL_len _ _ _ _ _ _
  rw [hT] at hX2 hX0 hTw hTs
  rw [hT, hO] at hth
  rw [hO] at hov0 hovn
  obtain ⟨X, hXX⟩ : ∃ X, cutX L p q k = X := ⟨_, rfl⟩
  rw [hXX] at hcut hX2 hX0 hX1
  obtain ⟨C, hC⟩ : ∃ C, cutL L p q k = C := ⟨_, rfl⟩
  rw [hC] at hcut hcs hMM
  obtain ⟨M, hM⟩ : ∃ M, cutM L p q k = M := ⟨_, rfl⟩
  rw [hM] at hMM hms ⊢
  obtain ⟨⟨q1, q2⟩, hQ⟩ : ∃ Q, cutQ M p q k = Q := ⟨_, rfl⟩
  have hbe2 : ∀ (W : World) (va : Option Addr) (vn vc : Nat) (G : Nat → Prop), RdL G W va vn vc M → 0 < vn → Calls Try.prog 49 #[areaV k (endsR p q).1 (endsR p q).2 (min p.2 q.2) (max p.2 q.2), .slice va vn vc] W fun e w' => e = .returned (plV (q1, q2)) ∧ Below W.heap.size W w' := by
    intro W va vn vc G hG hvn
    rw [← hQ]
    exact hbeh W va vn vc G M hG hvn
  rw [hQ]
  clear hbeh
  obtain ⟨lo, hlo⟩ : ∃ lo, min p.2 q.2 = lo := ⟨_, rfl⟩
  obtain ⟨hi, hhi⟩ : ∃ hi, max p.2 q.2 = hi := ⟨_, rfl⟩
  rw [hlo, hhi] at hth hfi hbe2
  obtain ⟨⟨⟨a1, a2⟩, ⟨b1, b2⟩⟩, hEE⟩ : ∃ E, endsR p q = E := ⟨_, rfl⟩
  rw [hEE] at hth hfi hbe2 hcut hBn hBi hle
  obtain ⟨x1, x2⟩ := p
  obtain ⟨y1, y2⟩ := q
  unfold rgnV areaV plV at *
  simp only at hth hfi hbe2 hcut hBn hBi hle ⊢
  obtain ⟨wb, hwb⟩ : ∃ wb, (w.alloc (.cells #[.int .i64 (x1 : Nat), .int .i64 (x2 : Nat), .int .i64 (y1 : Nat), .int .i64 (y2 : Nat), .int .i64 k] 26)).alloc (.cells #[.int .i64 0, .int .i64 0] 24) = wb := ⟨_, rfl⟩
  have hnew := cts_new w ⟨⟨(x1 : Nat), (x2 : Nat)⟩, ⟨(y1 : Nat), (y2 : Nat)⟩, k⟩
  simp only at hnew
  rw [hwb] at hnew
  obtain ⟨b, hbe⟩ : ∃ b, w.heap.size = b := ⟨_, rfl⟩
  have HC : Hid (∀ W, W = wb → Calls Try.prog 38 #[.slice a n c, .agg #[.int .i64 (x1 : Nat), .int .i64 (x2 : Nat), .int .i64 (y1 : Nat), .int .i64 (y2 : Nat), .int .i64 k]] W fun e w' => e = .returned (.tuple #[.agg #[.int .i64 k, .int .i64 (a1 : Nat), .int .i64 (a2 : Nat), .int .i64 (b1 : Nat), .int .i64 (b2 : Nat), .int .i64 (lo : Nat), .int .i64 (hi : Nat)], .int .i64 0]) ∧ Hid (CtS w b ⟨⟨(x1 : Nat), (x2 : Nat)⟩, ⟨(y1 : Nat), (y2 : Nat)⟩, k⟩ w')) := by
    rintro W rfl
    refine (hfi W hnew.1).mono ?_
    rintro e w' ⟨rfl, hb⟩
    rw [← hbe]
    exact ⟨rfl, hnew.below rfl hb⟩
  have HTH : Hid (∀ W d, Hid (CvS w b d #[.int .i64 k, .int .i64 (a1 : Nat), .int .i64 (a2 : Nat), .int .i64 (b1 : Nat), .int .i64 (b2 : Nat), .int .i64 (lo : Nat), .int .i64 (hi : Nat)] W) → Calls Try.prog 39 #[.slice a n c, .agg #[.int .i64 k, .int .i64 (a1 : Nat), .int .i64 (a2 : Nat), .int .i64 (b1 : Nat), .int .i64 (b2 : Nat), .int .i64 (lo : Nat), .int .i64 (hi : Nat)], .func (.func 45) #[] #[]] W fun e w' => ∃ ra rc, e = .returned (.slice ra O rc) ∧ Hid (RdL (fun x => b + 2 ≤ x) w' ra O rc T ∧ CvS w b d #[.int .i64 k, .int .i64 (a1 : Nat), .int .i64 (a2 : Nat), .int .i64 (b1 : Nat), .int .i64 (b2 : Nat), .int .i64 (lo : Nat), .int .i64 (hi : Nat)] w')) := by
    intro W d hW
    refine (hth W (by rw [hbe]; exact hW.out.hb)).mono ?_
    rintro e w' ⟨ra, rc, rfl, hF, hb⟩
    have hT2 := hW.out.below hbe hb
    exact ⟨ra, rc, rfl, (hF.rdl hTw).mono (fun x hx => by have := heap_lt hW.out.z; omega), hT2⟩
  have HCAT : Hid (∀ W d ra rc, Hid (RdL (fun x => b + 2 ≤ x) W ra O rc T ∧ CvS w b d #[.int .i64 k, .int .i64 (a1 : Nat), .int .i64 (a2 : Nat), .int .i64 (b1 : Nat), .int .i64 (b2 : Nat), .int .i64 (lo : Nat), .int .i64 (hi : Nat)] W) → Calls Try.prog 46 #[.slice ra O rc] W fun e w' => ∃ (fa : Option Addr) (fn fc : Nat), e = .returned (.slice fa fn fc) ∧ Hid (RdL (fun x => b + 2 ≤ x) (w'.alloc (.cells #[.slice fa fn fc] 35)) (some ⟨w'.heap.size, 0, none⟩) 1 1 [T.flatten] ∧ CvS w b d #[.int .i64 k, .int .i64 (a1 : Nat), .int .i64 (a2 : Nat), .int .i64 (b1 : Nat), .int .i64 (b2 : Nat), .int .i64 (lo : Nat), .int .i64 (hi : Nat)] (w'.alloc (.cells #[.slice fa fn fc] 35)))) := by
    intro W d ra rc hW
    refine (kcatR _ ra O rc T W hW.out.1 (by omega)).mono ?_
    rintro e w' ⟨fa, fc, rfl, ho, hb⟩
    have hrd := own_rd ho (fun y hy => by obtain ⟨x, hx, hy2⟩ := List.mem_flatten.1 hy; exact hTw x hx y hy2)
    have hsW := hb.size
    have hzW := heap_lt hW.out.2.z
    refine ⟨fa, _, fc, rfl, ⟨[.slice fa T.flatten.length fc], ?_, ?_, ?_⟩, (hW.out.2.below hbe hb).below hbe (bal _ _)⟩
    · refine ⟨rfl, Nat.le_refl _, by unfold maxLen; omega, fun e => (by cases e), fun _ => ⟨w'.heap.size, 0, rfl, by simp, fun j u hu => ?_⟩⟩
      rw [cell_row (heap_alloc_new w' _)]
      simpa using hu
    · intro _ ad e
      cases e
      show b + 2 ≤ w'.heap.size
      omega
    · exact RowsAt.one (hrd.alloc _) (InF.own ho (fun z hz => by have := (ho.lt z hz).1; omega))
  have HREP : Hid (∀ W d la ln lc, Hid (RdL (fun x => b + 2 ≤ x) W la ln lc X ∧ CvS w b d #[.int .i64 k, .int .i64 (a1 : Nat), .int .i64 (a2 : Nat), .int .i64 (b1 : Nat), .int .i64 (b2 : Nat), .int .i64 (lo : Nat), .int .i64 (hi : Nat)] W ∧ ln ≤ 1048576) → Calls Try.prog 47 #[.slice a n c, .int .i64 (a1 : Nat), .int .i64 ((b1 + 1 : Nat) : Int), .slice la ln lc] W fun e w' => ∃ (va : Option Addr) (vn vc : Nat), e = .returned (.slice va vn vc) ∧ Hid (vn = C.length) ∧ Hid (RdL (fun x => b + 2 ≤ x) w' va vn vc C ∧ CvS w b d #[.int .i64 k, .int .i64 (a1 : Nat), .int .i64 (a2 : Nat), .int .i64 (b1 : Nat), .int .i64 (b2 : Nat), .int .i64 (lo : Nat), .int .i64 (hi : Nat)] w')) := by
    intro W d la ln lc hW
    have hbW := hW.out.2.1.hb
    have hln := hW.out.2.2
    rw [← hbe] at hbW
    refine (kreplaced_any F _ a n c L la ln lc X a1 (b1 + 1) W (h.below hbW) hW.out.1 (by omega) (by omega) (by omega) (by omega) (by omega)).mono ?_
    rintro e w' ⟨va, vc, rfl, hr2, hb⟩
    rw [← hcut] at hr2
    have hzW := heap_lt hW.out.2.1.z
    exact ⟨va, _, vc, rfl, hr2.len.symm, hr2.mono (fun x hx => by rcases hx with hx | hx; exact hx; omega), hW.out.2.1.below hbe hb⟩
  have HBEH : Hid (∀ W d va vn vc, Hid (RdL (fun x => b + 2 ≤ x) W va vn vc M ∧ CvS w b d #[.int .i64 k, .int .i64 (a1 : Nat), .int .i64 (a2 : Nat), .int .i64 (b1 : Nat), .int .i64 (b2 : Nat), .int .i64 (lo : Nat), .int .i64 (hi : Nat)] W ∧ 0 < vn) → Calls Try.prog 49 #[.agg #[.int .i64 k, .int .i64 (a1 : Nat), .int .i64 (a2 : Nat), .int .i64 (b1 : Nat), .int .i64 (b2 : Nat), .int .i64 (lo : Nat), .int .i64 (hi : Nat)], .slice va vn vc] W fun e w' => e = .returned (.agg #[.int .i64 (q1 : Nat), .int .i64 (q2 : Nat)]) ∧ Hid (RdL (fun x => b + 2 ≤ x) w' va vn vc M ∧ CvS w b d #[.int .i64 k, .int .i64 (a1 : Nat), .int .i64 (a2 : Nat), .int .i64 (b1 : Nat), .int .i64 (b2 : Nat), .int .i64 (lo : Nat), .int .i64 (hi : Nat)] w' ∧ 0 < vn)) := by
    intro W d va vn vc hW
    refine (hbe2 W va vn vc _ hW.out.1 hW.out.2.2).mono ?_
    rintro e w' ⟨rfl, hb⟩
    exact ⟨rfl, hW.out.1.below hb, hW.out.2.1.below hbe hb, hW.out.2.2⟩
  have HSET : Hid (∀ W d va vn vc, Hid (RdL (fun x => b + 2 ≤ x) W va vn vc M ∧ CvS w b d #[.int .i64 k, .int .i64 (a1 : Nat), .int .i64 (a2 : Nat), .int .i64 (b1 : Nat), .int .i64 (b2 : Nat), .int .i64 (lo : Nat), .int .i64 (hi : Nat)] W ∧ 0 < vn) → Calls Try.prog 48 #[.slice va vn vc, .agg #[.int .i64 (q1 : Nat), .int .i64 (q2 : Nat)]] W fun e w' => e = .returned (.tuple #[.slice va vn vc, .agg #[.int .i64 (q1 : Nat), .int .i64 (q2 : Nat)], .int .i64 0]) ∧ ArP (b + 1) w' ∧ Hid (RdL (fun x => b + 2 ≤ x) w' va vn vc M ∧ Below b w w')) := by
    intro W d va vn vc hW
    refine (ksettled_ok _ va vn vc M (q1, q2) W hW.out.1 (by omega)).mono ?_
    rintro e w' ⟨rfl, hb⟩
    have h4 := hW.out.2.1.below hbe hb
    exact ⟨rfl, ArP.of h4.z, hW.out.1.below hb, h4.hb⟩
  have hXl : ∀ W la ln lc (G : Nat → Prop), RdL G W la ln lc X → ln = X.length := fun W la ln lc G h => h.len.symm
  have HBE := Lib.hid hbe
  rw [hbe] at hnew
  rw [hbe]
  obtain ⟨c0, c1, c2, c3, c4, l0⟩ := hnew.2.1
  simp only at c0 c1 c2 c3 c4
  have HW := Lib.hid hwb
  have HMM := Lib.hid hMM
  have hb1i : (b1 : Int) + 1 = ((b1 + 1 : Nat) : Int) := by omega
  obtain ⟨B2, hB2⟩ : ∃ B2, b1 + 1 = B2 := ⟨_, rfl⟩
  rw [hB2] at HREP hb1i
  have HCN : Hid (k = 1 ∨ C ≠ []) := by
    by_cases e : k = 1
    · exact Or.inl e
    · refine Or.inr ?_
      rw [hcut]
      have hX3 : X ≠ [] := by
        have hkk : k = 0 ∨ k = 2 := by omega
        rcases hkk with e2 | e2
        · rw [hX0 e2]; simp
        · rw [hX2 e2]; intro e3; rw [e3] at hTl; simp at hTl; omega
      simp [hX3]
  have HX2 := Lib.hid hX2
  have HX0 := Lib.hid hX0
  have HX1 := Lib.hid hX1
  have HO : Hid (O ≤ 1048576) := by show _ ≤ _; omega
  have hbb : b1 ≤ 1048576 := hBi.1
  have hnb : n ≤ 1048576 := by omega
  clear hwb hnew hbe h hfi hth hEE hlo hhi hs hp hq hoA hoB hBi hqi hpi hle hfr hov hT hO hl hXl hMM hcut hcs hms hbe2 hB2 hX2 hX0 hX1 hTl hTw hTs hov0 hovn hM hC hQ hXX hcnt hs6 hBn
  have hkk : k = 0 ∨ k = 1 ∨ k = 2 := by omega
  rcases hkk with rfl | rfl | rfl
  · go_enter Try.func18, Try.ntmps18
    go_upto_region 1 with fail
    rw [HBE.out, HW.out]
    go_upto_region 2 with (go_at_call 38; (refine (HC.out _ rfl).mono ?_); rintro e w1 ⟨rfl, HT⟩)
    have hg2 := heap_alloc_new w1 (.cells #[.int .i64 0, .int .i64 (a1 : Nat), .int .i64 (a2 : Nat), .int .i64 (b1 : Nat), .int .i64 (b2 : Nat), .int .i64 (lo : Nat), .int .i64 (hi : Nat)] 68)
    have HT2 : Hid (CvS w b w1.heap.size #[.int .i64 0, .int .i64 (a1 : Nat), .int .i64 (a2 : Nat), .int .i64 (b1 : Nat), .int .i64 (b2 : Nat), .int .i64 (lo : Nat), .int .i64 (hi : Nat)] (w1.alloc (.cells #[.int .i64 0, .int .i64 (a1 : Nat), .int .i64 (a2 : Nat), .int .i64 (b1 : Nat), .int .i64 (b2 : Nat), .int .i64 (lo : Nat), .int .i64 (hi : Nat)] 68))) := ⟨HT.out.1.trans ((bal _ _).mono (by have := HT.out.1.size; have := HBE.out; omega)), ((bal w1 _).block _ (heap_lt HT.out.2.2)).trans HT.out.2.2, hg2, heap_lt HT.out.2.2⟩
    obtain ⟨w2, hw2⟩ : ∃ w2, (w1.alloc (.cells #[.int .i64 0, .int .i64 (a1 : Nat), .int .i64 (a2 : Nat), .int .i64 (b1 : Nat), .int .i64 (b2 : Nat), .int .i64 (lo : Nat), .int .i64 (hi : Nat)] 68)) = w2 := ⟨_, rfl⟩
    obtain ⟨d, hd⟩ : ∃ d, w1.heap.size = d := ⟨_, rfl⟩
    rw [hw2] at HT2 hg2
    rw [hd] at hg2 HT2
    rw [hw2, hd]
    clear hw2 hd c0 c1 c2 c3 c4 l0
    obtain ⟨g0, g1, g2, g3, g4, g5, g6, -, -, -, -, -, -, -, gl⟩ := ArB.of hg2
    clear hg2
    go_upto_region 5 with (go_at_call 39; (refine (HTH.out _ _ HT2).mono ?_); rintro e w3 ⟨ra, rc, rfl, HR3⟩)
    clear g0 g1 g2 g3 g4 g5 g6 gl
    obtain ⟨g0, g1, g2, g3, g4, g5, g6, -, -, -, -, -, -, -, gl⟩ := ArB.of HR3.out.2.ar
    have HXK := HX0.out (by first | trivial | rfl)
    go_upto_region 10 with (go_at_call 46; (refine (HCAT.out _ _ _ _ HR3).mono ?_); rintro e w4 ⟨fa, fn, fc, rfl, HR4⟩)
    have HRL : Hid (RdL (fun x => b + 2 ≤ x) (w4.alloc (.cells #[.slice fa fn fc] 35)) (some ⟨w4.heap.size, 0, none⟩) 1 1 X ∧ CvS w b d #[.int .i64 0, .int .i64 (a1 : Nat), .int .i64 (a2 : Nat), .int .i64 (b1 : Nat), .int .i64 (b2 : Nat), .int .i64 (lo : Nat), .int .i64 (hi : Nat)] (w4.alloc (.cells #[.slice fa fn fc] 35)) ∧ 1 ≤ 1048576) := ⟨by rw [HXK]; exact HR4.out.1, HR4.out.2, by omega⟩
    obtain ⟨w5, hw5⟩ : ∃ w5, w4.alloc (.cells #[.slice fa fn fc] 35) = w5 := ⟨_, rfl⟩
    rw [hw5] at HRL
    rw [hw5]
    clear hw5 HXK
    clear g0 g1 g2 g3 g4 g5 g6 gl
    obtain ⟨g0, g1, g2, g3, g4, g5, g6, -, -, -, -, -, -, -, gl⟩ := ArB.of HRL.out.2.1.ar
    go_upto_region 11 with (go_at_call 47; (refine (HREP.out _ _ _ _ _ HRL).mono ?_); rintro e w6 ⟨va, vn, vc, rfl, HVN, HR6⟩)
    clear g0 g1 g2 g3 g4 g5 g6 gl
    obtain ⟨g0, g1, g2, g3, g4, g5, g6, -, -, -, -, -, -, -, gl⟩ := ArB.of HR6.out.2.ar
    have hne : C ≠ [] := HCN.out.resolve_left (by omega)
    have hv0 : vn ≠ 0 := by intro e; exact hne (List.eq_nil_of_length_eq_zero (by have := HVN.out; omega))
    have hMC : M = C := by rw [HMM.out, if_neg (fun h => absurd h.1 (by omega))]
    have HR7 : Hid (RdL (fun x => b + 2 ≤ x) w6 va vn vc M ∧ CvS w b d #[.int .i64 0, .int .i64 (a1 : Nat), .int .i64 (a2 : Nat), .int .i64 (b1 : Nat), .int .i64 (b2 : Nat), .int .i64 (lo : Nat), .int .i64 (hi : Nat)] w6 ∧ 0 < vn) := ⟨by rw [hMC]; exact HR6.out.1, HR6.out.2, by omega⟩
    have hv1 : ((vn : Int) == 0) = false := by simp; omega
    clear hMC hne HVN hv0
    go_upto_region 13 with fail
    go_wp2_with (first
      | (go_at_call 48; (refine (HSET.out _ _ _ _ _ HR8).mono ?_); rintro e w9 ⟨rfl, ⟨u0, u1, u2, u3, u4⟩, HR9⟩)
      | (go_at_call 49; (refine (HBEH.out _ _ _ _ _ HR7).mono ?_); rintro e w8 ⟨rfl, HR8⟩))
    refine bodyPost_ret (v := .tuple #[.slice va vn vc, .agg #[.int .i64 (q1 : Nat), .int .i64 (q2 : Nat)], .int .i64 0]) ?_ rfl ⟨va, vn, vc, rfl, ?_⟩
    · rw [results_tctK rfl]
      go_simp
      first | rfl | done
    · have hf : ∀ u v, Fr (fun z => z = b + 1) w9 ((w9.setCell ⟨b + 1, 0, none⟩ u).setCell ⟨b + 1, 1, none⟩ v) := fun u v => ((Fr.refl (fun z => z = b + 1) w9).setCell ⟨b + 1, 0, none⟩ _ (fun _ => rfl)).setCell ⟨b + 1, 1, none⟩ _ (fun _ => rfl)
      exact ⟨(HR9.out.1.frF (hf _ _) (fun z hz e => by omega)).mono (fun z hz => by omega), setCell_below (setCell_below HR9.out.2 _ _ _ (by omega)) _ _ _ (by omega)⟩
  · go_enter Try.func18, Try.ntmps18
    go_upto_region 1 with fail
    rw [HBE.out, HW.out]
    go_upto_region 2 with (go_at_call 38; (refine (HC.out _ rfl).mono ?_); rintro e w1 ⟨rfl, HT⟩)
    have hg2 := heap_alloc_new w1 (.cells #[.int .i64 1, .int .i64 (a1 : Nat), .int .i64 (a2 : Nat), .int .i64 (b1 : Nat), .int .i64 (b2 : Nat), .int .i64 (lo : Nat), .int .i64 (hi : Nat)] 68)
    have HT2 : Hid (CvS w b w1.heap.size #[.int .i64 1, .int .i64 (a1 : Nat), .int .i64 (a2 : Nat), .int .i64 (b1 : Nat), .int .i64 (b2 : Nat), .int .i64 (lo : Nat), .int .i64 (hi : Nat)] (w1.alloc (.cells #[.int .i64 1, .int .i64 (a1 : Nat), .int .i64 (a2 : Nat), .int .i64 (b1 : Nat), .int .i64 (b2 : Nat), .int .i64 (lo : Nat), .int .i64 (hi : Nat)] 68))) := ⟨HT.out.1.trans ((bal _ _).mono (by have := HT.out.1.size; have := HBE.out; omega)), ((bal w1 _).block _ (heap_lt HT.out.2.2)).trans HT.out.2.2, hg2, heap_lt HT.out.2.2⟩
    obtain ⟨w2, hw2⟩ : ∃ w2, (w1.alloc (.cells #[.int .i64 1, .int .i64 (a1 : Nat), .int .i64 (a2 : Nat), .int .i64 (b1 : Nat), .int .i64 (b2 : Nat), .int .i64 (lo : Nat), .int .i64 (hi : Nat)] 68)) = w2 := ⟨_, rfl⟩
    obtain ⟨d, hd⟩ : ∃ d, w1.heap.size = d := ⟨_, rfl⟩
    rw [hw2] at HT2 hg2
    rw [hd] at hg2 HT2
    rw [hw2, hd]
    clear hw2 hd c0 c1 c2 c3 c4 l0
    obtain ⟨g0, g1, g2, g3, g4, g5, g6, -, -, -, -, -, -, -, gl⟩ := ArB.of hg2
    clear hg2
    go_upto_region 5 with (go_at_call 39; (refine (HTH.out _ _ HT2).mono ?_); rintro e w3 ⟨ra, rc, rfl, HR3⟩)
    clear g0 g1 g2 g3 g4 g5 g6 gl
    obtain ⟨g0, g1, g2, g3, g4, g5, g6, -, -, -, -, -, -, -, gl⟩ := ArB.of HR3.out.2.ar
    have HXK := HX1.out (by first | trivial | rfl)
    go_upto_region 10 with fail
    have HRL : Hid (RdL (fun x => b + 2 ≤ x) w3 none 0 0 X ∧ CvS w b d #[.int .i64 1, .int .i64 (a1 : Nat), .int .i64 (a2 : Nat), .int .i64 (b1 : Nat), .int .i64 (b2 : Nat), .int .i64 (lo : Nat), .int .i64 (hi : Nat)] w3 ∧ 0 ≤ 1048576) := ⟨by rw [HXK]; exact RdL.none0 _ _, HR3.out.2, by omega⟩
    clear HXK
    clear g0 g1 g2 g3 g4 g5 g6 gl
    obtain ⟨g0, g1, g2, g3, g4, g5, g6, -, -, -, -, -, -, -, gl⟩ := ArB.of HRL.out.2.1.ar
    go_upto_region 11 with (go_at_call 47; (refine (HREP.out _ _ _ _ _ HRL).mono ?_); rintro e w6 ⟨va, vn, vc, rfl, HVN, HR6⟩)
    clear g0 g1 g2 g3 g4 g5 g6 gl
    obtain ⟨g0, g1, g2, g3, g4, g5, g6, -, -, -, -, -, -, -, gl⟩ := ArB.of HR6.out.2.ar
    by_cases hne : C = []
    · have hv0 : vn = 0 := by have := HVN.out; rw [hne] at this; exact this
      have hMC : M = [[]] := by rw [HMM.out, if_pos ⟨(by first | trivial | rfl), hne⟩]
      subst hv0
      have HR7 : Hid (RdL (fun x => b + 2 ≤ x) (w6.alloc (.cells #[.slice none 0 0] 35)) (some ⟨w6.heap.size, 0, none⟩) 1 1 M ∧ CvS w b d #[.int .i64 1, .int .i64 (a1 : Nat), .int .i64 (a2 : Nat), .int .i64 (b1 : Nat), .int .i64 (b2 : Nat), .int .i64 (lo : Nat), .int .i64 (hi : Nat)] (w6.alloc (.cells #[.slice none 0 0] 35)) ∧ 0 < 1) := ⟨by rw [hMC]; exact (one_rdl0 w6).mono (fun z hz => by have := heap_lt HR6.out.2.z; omega), HR6.out.2.below HBE.out (bal _ _), by omega⟩
      clear hMC hne HVN
      go_upto_region 13 with fail
      obtain ⟨w7, hw7⟩ : ∃ w7, w6.alloc (.cells #[.slice none 0 0] 35) = w7 := ⟨_, rfl⟩
      rw [hw7] at HR7
      rw [hw7]
      obtain ⟨gg, hgg⟩ : ∃ gg, w6.heap.size = gg := ⟨_, rfl⟩
      rw [hgg] at HR7
      rw [hgg]
      clear hw7 hgg g0 g1 g2 g3 g4 g5 g6 gl
      obtain ⟨g0, g1, g2, g3, g4, g5, g6, -, -, -, -, -, -, -, gl⟩ := ArB.of HR7.out.2.1.ar
      go_wp2_with (first
        | (go_at_call 48; (refine (HSET.out _ _ _ _ _ HR8).mono ?_); rintro e w9 ⟨rfl, ⟨u0, u1, u2, u3, u4⟩, HR9⟩)
        | (go_at_call 49; (refine (HBEH.out _ _ _ _ _ HR7).mono ?_); rintro e w8 ⟨rfl, HR8⟩))
      refine bodyPost_ret (v := .tuple #[.slice (some ⟨gg, 0, none⟩) 1 1, .agg #[.int .i64 (q1 : Nat), .int .i64 (q2 : Nat)], .int .i64 0]) ?_ rfl ⟨(some ⟨gg, 0, none⟩), 1, 1, rfl, ?_⟩
      · rw [results_tctK rfl]
        go_simp
        first | rfl | done
      · have hf : ∀ u v, Fr (fun z => z = b + 1) w9 ((w9.setCell ⟨b + 1, 0, none⟩ u).setCell ⟨b + 1, 1, none⟩ v) := fun u v => ((Fr.refl (fun z => z = b + 1) w9).setCell ⟨b + 1, 0, none⟩ _ (fun _ => rfl)).setCell ⟨b + 1, 1, none⟩ _ (fun _ => rfl)
        exact ⟨(HR9.out.1.frF (hf _ _) (fun z hz e => by omega)).mono (fun z hz => by omega), setCell_below (setCell_below HR9.out.2 _ _ _ (by omega)) _ _ _ (by omega)⟩
    have hv0 : vn ≠ 0 := by intro e; exact hne (List.eq_nil_of_length_eq_zero (by have := HVN.out; omega))
    have hMC : M = C := by rw [HMM.out, if_neg (fun h => hne h.2)]
    have HR7 : Hid (RdL (fun x => b + 2 ≤ x) w6 va vn vc M ∧ CvS w b d #[.int .i64 1, .int .i64 (a1 : Nat), .int .i64 (a2 : Nat), .int .i64 (b1 : Nat), .int .i64 (b2 : Nat), .int .i64 (lo : Nat), .int .i64 (hi : Nat)] w6 ∧ 0 < vn) := ⟨by rw [hMC]; exact HR6.out.1, HR6.out.2, by omega⟩
    have hv1 : ((vn : Int) == 0) = false := by simp; omega
    clear hMC hne HVN hv0
    go_upto_region 13 with fail
    go_wp2_with (first
      | (go_at_call 48; (refine (HSET.out _ _ _ _ _ HR8).mono ?_); rintro e w9 ⟨rfl, ⟨u0, u1, u2, u3, u4⟩, HR9⟩)
      | (go_at_call 49; (refine (HBEH.out _ _ _ _ _ HR7).mono ?_); rintro e w8 ⟨rfl, HR8⟩))
    refine bodyPost_ret (v := .tuple #[.slice va vn vc, .agg #[.int .i64 (q1 : Nat), .int .i64 (q2 : Nat)], .int .i64 0]) ?_ rfl ⟨va, vn, vc, rfl, ?_⟩
    · rw [results_tctK rfl]
      go_simp
      first | rfl | done
    · have hf : ∀ u v, Fr (fun z => z = b + 1) w9 ((w9.setCell ⟨b + 1, 0, none⟩ u).setCell ⟨b + 1, 1, none⟩ v) := fun u v => ((Fr.refl (fun z => z = b + 1) w9).setCell ⟨b + 1, 0, none⟩ _ (fun _ => rfl)).setCell ⟨b + 1, 1, none⟩ _ (fun _ => rfl)
      exact ⟨(HR9.out.1.frF (hf _ _) (fun z hz e => by omega)).mono (fun z hz => by omega), setCell_below (setCell_below HR9.out.2 _ _ _ (by omega)) _ _ _ (by omega)⟩
  · go_enter Try.func18, Try.ntmps18
    go_upto_region 1 with fail
    rw [HBE.out, HW.out]
    go_upto_region 2 with (go_at_call 38; (refine (HC.out _ rfl).mono ?_); rintro e w1 ⟨rfl, HT⟩)
    have hg2 := heap_alloc_new w1 (.cells #[.int .i64 2, .int .i64 (a1 : Nat), .int .i64 (a2 : Nat), .int .i64 (b1 : Nat), .int .i64 (b2 : Nat), .int .i64 (lo : Nat), .int .i64 (hi : Nat)] 68)
    have HT2 : Hid (CvS w b w1.heap.size #[.int .i64 2, .int .i64 (a1 : Nat), .int .i64 (a2 : Nat), .int .i64 (b1 : Nat), .int .i64 (b2 : Nat), .int .i64 (lo : Nat), .int .i64 (hi : Nat)] (w1.alloc (.cells #[.int .i64 2, .int .i64 (a1 : Nat), .int .i64 (a2 : Nat), .int .i64 (b1 : Nat), .int .i64 (b2 : Nat), .int .i64 (lo : Nat), .int .i64 (hi : Nat)] 68))) := ⟨HT.out.1.trans ((bal _ _).mono (by have := HT.out.1.size; have := HBE.out; omega)), ((bal w1 _).block _ (heap_lt HT.out.2.2)).trans HT.out.2.2, hg2, heap_lt HT.out.2.2⟩
    obtain ⟨w2, hw2⟩ : ∃ w2, (w1.alloc (.cells #[.int .i64 2, .int .i64 (a1 : Nat), .int .i64 (a2 : Nat), .int .i64 (b1 : Nat), .int .i64 (b2 : Nat), .int .i64 (lo : Nat), .int .i64 (hi : Nat)] 68)) = w2 := ⟨_, rfl⟩
    obtain ⟨d, hd⟩ : ∃ d, w1.heap.size = d := ⟨_, rfl⟩
    rw [hw2] at HT2 hg2
    rw [hd] at hg2 HT2
    rw [hw2, hd]
    clear hw2 hd c0 c1 c2 c3 c4 l0
    obtain ⟨g0, g1, g2, g3, g4, g5, g6, -, -, -, -, -, -, -, gl⟩ := ArB.of hg2
    clear hg2
    go_upto_region 5 with (go_at_call 39; (refine (HTH.out _ _ HT2).mono ?_); rintro e w3 ⟨ra, rc, rfl, HR3⟩)
    clear g0 g1 g2 g3 g4 g5 g6 gl
    obtain ⟨g0, g1, g2, g3, g4, g5, g6, -, -, -, -, -, -, -, gl⟩ := ArB.of HR3.out.2.ar
    have HXK := HX2.out (by first | trivial | rfl)
    go_upto_region 10 with fail
    have HRL : Hid (RdL (fun x => b + 2 ≤ x) w3 ra O rc X ∧ CvS w b d #[.int .i64 2, .int .i64 (a1 : Nat), .int .i64 (a2 : Nat), .int .i64 (b1 : Nat), .int .i64 (b2 : Nat), .int .i64 (lo : Nat), .int .i64 (hi : Nat)] w3 ∧ O ≤ 1048576) := ⟨by rw [HXK]; exact HR3.out.1, HR3.out.2, HO.out⟩
    clear HXK
    clear g0 g1 g2 g3 g4 g5 g6 gl
    obtain ⟨g0, g1, g2, g3, g4, g5, g6, -, -, -, -, -, -, -, gl⟩ := ArB.of HRL.out.2.1.ar
    go_upto_region 11 with (go_at_call 47; (refine (HREP.out _ _ _ _ _ HRL).mono ?_); rintro e w6 ⟨va, vn, vc, rfl, HVN, HR6⟩)
    clear g0 g1 g2 g3 g4 g5 g6 gl
    obtain ⟨g0, g1, g2, g3, g4, g5, g6, -, -, -, -, -, -, -, gl⟩ := ArB.of HR6.out.2.ar
    have hne : C ≠ [] := HCN.out.resolve_left (by omega)
    have hv0 : vn ≠ 0 := by intro e; exact hne (List.eq_nil_of_length_eq_zero (by have := HVN.out; omega))
    have hMC : M = C := by rw [HMM.out, if_neg (fun h => absurd h.1 (by omega))]
    have HR7 : Hid (RdL (fun x => b + 2 ≤ x) w6 va vn vc M ∧ CvS w b d #[.int .i64 2, .int .i64 (a1 : Nat), .int .i64 (a2 : Nat), .int .i64 (b1 : Nat), .int .i64 (b2 : Nat), .int .i64 (lo : Nat), .int .i64 (hi : Nat)] w6 ∧ 0 < vn) := ⟨by rw [hMC]; exact HR6.out.1, HR6.out.2, by omega⟩
    have hv1 : ((vn : Int) == 0) = false := by simp; omega
    clear hMC hne HVN hv0
    go_upto_region 13 with fail
    go_wp2_with (first
      | (go_at_call 48; (refine (HSET.out _ _ _ _ _ HR8).mono ?_); rintro e w9 ⟨rfl, ⟨u0, u1, u2, u3, u4⟩, HR9⟩)
      | (go_at_call 49; (refine (HBEH.out _ _ _ _ _ HR7).mono ?_); rintro e w8 ⟨rfl, HR8⟩))
    refine bodyPost_ret (v := .tuple #[.slice va vn vc, .agg #[.int .i64 (q1 : Nat), .int .i64 (q2 : Nat)], .int .i64 0]) ?_ rfl ⟨va, vn, vc, rfl, ?_⟩
    · rw [results_tctK rfl]
      go_simp
      first | rfl | done
    · have hf : ∀ u v, Fr (fun z => z = b + 1) w9 ((w9.setCell ⟨b + 1, 0, none⟩ u).setCell ⟨b + 1, 1, none⟩ v) := fun u v => ((Fr.refl (fun z => z = b + 1) w9).setCell ⟨b + 1, 0, none⟩ _ (fun _ => rfl)).setCell ⟨b + 1, 1, none⟩ _ (fun _ => rfl)
      exact ⟨(HR9.out.1.frF (hf _ _) (fun z hz e => by omega)).mono (fun z hz => by omega), setCell_below (setCell_below HR9.out.2 _ _ _ (by omega)) _ _ _ (by omega)⟩
/-- Cut, of lines that are not too many -/
def CutK (f : FuncId) : Prop := ∀ (F : Nat → Prop) (a : Option Addr) (n c : Nat) (L : List (List Int)) (r : Rgn) (w : World), RdL F w a n c L → sizeN (lens L) ≤ 65536 → i64r r →
  Calls Try.prog f #[.slice a n c, r.v] w fun e w' => ∃ ra m rc, e = .returned (.tuple #[.slice ra m rc, plV (cutR L r).2.1, .int .i64 (cutR L r).2.2]) ∧ RdL (fun x => w.heap.size ≤ x) w' ra m rc (cutR L r).1 ∧ Below w.heap.size w w'
theorem rcutK : CutK 19 := fun F a n c L r w h hs hr => rcutC F a n c L r w h (by omega) hr
theorem kcutK : CutK 18 := by
  intro F a n c L r w h hs hr
  by_cases h0 : thereR L r = 0
  · obtain ⟨hL, p, q, hrv, hp, hq, ho1, ho2, hk1, hk2⟩ := there_ok h0
    have hv : r.v = rgnV p q r.k := by rw [hrv]; rfl
    have ht : cutR L r = (cutM L p q r.k, cutQ (cutM L p q r.k) p q r.k, 0) := by unfold cutR; rw [if_pos h0, hp, hq]
    rw [hv, ht]
    exact kcut_ok F a n c L p q r.k w h hs ho1 ho2 hk1 hk2
  · have ht : cutR L r = ([], (0, 0), thereR L r) := by unfold cutR; rw [if_neg h0]
    rw [ht]
    refine (kcut_no F a n c L r w h hr h0).mono ?_
    rintro e w' ⟨rfl, h2⟩
    exact ⟨none, 0, 0, rfl, RdL.none0 _ _, h2⟩
end Go.Proofs.Ytfldjoiohejilaa.U
