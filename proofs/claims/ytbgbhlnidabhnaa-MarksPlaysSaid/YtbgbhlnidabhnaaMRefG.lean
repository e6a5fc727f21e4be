/-
  The document's Adjust.
-/
import Derived.Test.YtbgbhlnidabhnaaMRefF
namespace Go.Proofs.Ytbgbhlnidabhnaa.U
open Go.RowKit
set_option linter.unusedVariables false
set_option linter.unusedSimpArgs false
set_option maxRecDepth 100000

theorem adjN_snoc (ns : List (Int × Po)) (x : Int × Po) (c : Ch) : adjN (ns ++ [x]) c = adjN ns c ++ (match moveP x.2 c with | some q => [(x.1, q)] | none => []) := by
  unfold adjN
  rw [List.filterMap_append]
  congr 1
  cases h : moveP x.2 c <;> simp [h]
theorem adjN_le (ns : List (Int × Po)) (c : Ch) : (adjN ns c).length ≤ ns.length := List.length_filterMap_le _ _
theorem adjN_gone {ns : List (Int × Po)} {i : Nat} {x : Int × Po} {c : Ch} (h : ns[i]? = some x) (hm : moveP x.2 c = none) : adjN (ns.take (i + 1)) c = adjN (ns.take i) c := by
  rw [take_snoc h, adjN_snoc, hm]
  simp
theorem adjN_kept {ns : List (Int × Po)} {i : Nat} {x : Int × Po} {q : Po} {c : Ch} (h : ns[i]? = some x) (hm : moveP x.2 c = some q) : adjN (ns.take (i + 1)) c = adjN (ns.take i) c ++ [(x.1, q)] := by
  rw [take_snoc h, adjN_snoc, hm]

def ZeroP (W : World) (g : Nat) : Prop := W.heap[g]? = some (.cells #[.int .i64 0, .int .i64 0] 23 (0, 0))
theorem ZeroP.below {W W' : World} {g : Nat} (h : ZeroP W g) (hb : Below W.heap.size W W') : ZeroP W' g := (hb.block g (heap_lt h)).trans h
theorem ZeroP.drew {W : World} {g : Nat} (h : ZeroP W g) : ZeroP W.drew g := h
theorem ZeroP.new (W : World) : ZeroP (W.alloc (.cells #[.int .i64 0, .int .i64 0] 23)) W.heap.size := heap_alloc_new W _
theorem ZeroP.facts {W : World} {g : Nat} (h : ZeroP W g) : W.cell? ⟨g, 0, none⟩ = some (.int .i64 0) ∧ W.cell? ⟨g, 1, none⟩ = some (.int .i64 0) ∧ W.frozen? ⟨g, 0, none⟩ = false ∧ W.frozen? ⟨g, 1, none⟩ = false ∧ g < W.heap.size :=
  ⟨cell_row h 0, cell_row h 1, frozen_row h 0, frozen_row h 1, heap_lt h⟩
/-- a place that has been moved lies in a block of its own -/
def MvS (wr wx : World) (g : Nat) (q : Po) : Prop := Below wr.heap.size wr wx ∧ wr.heap.size ≤ g ∧ wx.heap[g]? = some (.cells #[.int .i64 q.l, .int .i64 q.c] 23 (0, 0))
theorem mv_new {wr w1 : World} (q : Po) (h : Below wr.heap.size wr w1) : MvS wr (w1.alloc (.cells #[.int .i64 q.l, .int .i64 q.c] 23)) w1.heap.size q := ⟨h.alloc h.size _, h.size, heap_alloc_new w1 _⟩
theorem mv_set {wr w1 : World} {g : Nat} (q : Po) (hz : ZeroP w1 g) (hg : wr.heap.size ≤ g) (h : Below wr.heap.size wr w1) : MvS wr ((w1.setCell ⟨g, 0, none⟩ (.int .i64 q.l)).setCell ⟨g, 1, none⟩ (.int .i64 q.c)) g q :=
  ⟨(h.setCell (p := ⟨g, 0, none⟩) hg _).setCell (p := ⟨g, 1, none⟩) hg _, hg, heap_set (heap_set hz 0 (.int .i64 q.l)) 1 (.int .i64 q.c)⟩
theorem own_bel {w w' : World} {B : Nat} {e : TypeId} {s n : Nat} {v : Value} {xs : List Value} (h : w.ownsRow B e s v n xs) (hb : Below w.heap.size w w') : w'.ownsRow B e s v n xs := own_fr h (Fr.of_below (fun _ => False) hb) (fun _ _ h => h)

set_option maxHeartbeats 4000000 in
theorem radjust_any {P F : Nat → Prop} {bx : Nat} {s : Ms} {B : Int} (c : Ch) (oa na : Option Addr) (oc nc : Nat) (w : World) (h : RkS P w bx s) (hok : s.ok B) (hB : B ≤ 1099511627776) (hn : RdL F w na c.now.length nc c.now) (hd : ∀ k, P k → ¬ F k) (hcb : ChB c) :
    Calls Try.prog 18 #[.pointer (some ⟨bx, 0, none⟩), .agg #[.int .i64 c.pos, .slice oa c.old.length oc, .slice na c.now.length nc]] w fun e w' => e = .returned (.tuple #[]) ∧ AfR P w w' bx (adjM s c) := by
  obtain ⟨wb, hwb⟩ : ∃ wb, w.alloc (.cells #[.int .i64 c.pos, .slice oa c.old.length oc, .slice na c.now.length nc] 26) = wb := ⟨_, rfl⟩
  have hb1 : Below w.heap.size w wb := by rw [← hwb]; exact (Below.refl _ w).alloc (Nat.le_refl _) _
  have hcbk : wb.heap[w.heap.size]? = some (.cells #[.int .i64 c.pos, .slice oa c.old.length oc, .slice na c.now.length nc] 26 (0, 0)) := by rw [← hwb]; exact heap_alloc_new w _
  have hsz : wb.heap.size = w.heap.size + 1 := by rw [← hwb]; simp
  have hlt := h.lt
  have HH := Lib.hid h
  obtain ⟨la, lc, ja, jc, h1, h2, h3, h4, h5, p1, p2⟩ := h.below hb1
  have hbx : bx < w.heap.size := hlt bx p1
  have e0 : wb.cell? ⟨bx, 0, none⟩ = some (.slice la s.ns.length lc) := by rw [cell_row h1]; rfl
  have hlen := names_len (sorted_nodup hok.sorted) (fun x hx => by
    obtain ⟨y, hy, e⟩ := List.mem_map.1 hx
    rw [← e]
    exact hok.names y hy)
  have HMV : Hid (∀ (p : Po), okP B p → ∀ W, RdL F W na c.now.length nc c.now → Calls Try.prog 10 #[p.v, .agg #[.int .i64 c.pos, .slice oa c.old.length oc, .slice na c.now.length nc]] W fun e w' => e = .returned (ansV (moveP p c)) ∧ Below W.heap.size W w') :=
    Lib.hid (fun p hp W hW => rmove_any p c oa na oc nc F W hW (nearM_ok hp hB hcb) (ccb_ok hp))
  obtain ⟨cb, hcbe⟩ : ∃ cb, w.heap.size = cb := ⟨_, rfl⟩
  obtain ⟨n, hnl⟩ : ∃ n, s.ns.length = n := ⟨_, rfl⟩
  obtain ⟨m, hml⟩ : ∃ m, s.js.length = m := ⟨_, rfl⟩
  obtain ⟨on, hon⟩ : ∃ on, c.old.length = on := ⟨_, rfl⟩
  obtain ⟨nn, hnn⟩ : ∃ nn, c.now.length = nn := ⟨_, rfl⟩
  obtain ⟨pos, hpos⟩ : ∃ pos, c.pos = pos := ⟨_, rfl⟩
  have hn50 : n < 50 := by rw [List.length_map] at hlen; omega
  have hm100 : m ≤ 100 := by have := hok.len; omega
  have hok4 : s.ix ≤ 100 := by have := hok.len; have := hok.ix; omega
  have HOKM := Lib.hid hok.marks
  have HOKJ := Lib.hid hok.jumps
  rw [hnl] at e0 h2
  rw [hml] at h4
  rw [hnn] at hn
  rw [hpos, hon, hnn] at HMV
  rw [hpos, hon, hnn] at hcbk hwb ⊢
  rw [hcbe] at hcbk hsz
  have hbcb : bx < cb := by omega
  have HB := Lib.hid (And.intro hb1 (And.intro hcbe (And.intro hsz (And.intro hnl hml))))
  have HROW := Lib.hid (And.intro h1 (And.intro h2 (And.intro h4 hcbk)))
  have HWB := Lib.hid hwb
  have HRN : Hid (∀ W, Fr P w W → RdL F W na nn nc c.now) := Lib.hid (fun W hW => hn.frF hW (fun k hk hp => hd k hp hk))
  have HP := Lib.hid (And.intro p1 hlt)
  clear h1 h2 h3 h4 h5 hb1 hwb hsz hnl hml p2 hlen hok hn hd hcbk hcb hB hlt p1 hon hnn hpos h
  go_enter Try.func18, Try.ntmps18
  go_upto_region 1 with fail
  rw [HWB.out]
  clear hcbe
  go_wp2_with fail
  go_loopw [4, 5] (fun v iv wr => ∃ (a : Option Addr) (cc k i : Nat), v = .slice a k cc ∧ iv = .int .i64 i ∧ i ≤ n ∧ k ≤ i ∧ Hid (k = (adjN (s.ns.take i) c).length ∧ Below (cb + 1) wb wr ∧ wr.ownsRow (cb + 1) 64 3 (.slice a k cc) k (mcells (adjN (s.ns.take i) c)))) (fun _ iv _ => n - (intOf iv).toNat)
  case atStart => exact ⟨none, 0, 0, 0, rfl, rfl, Nat.zero_le _, Nat.le_refl _, rfl, Below.refl _ _, World.ownsRow_nil _ _ _ _⟩
  case round =>
    obtain ⟨a, cc, k, i, rfl, rfl, hin, hki, HS⟩ := hrel
    have hwl : cb + 1 ≤ wr.heap.size := by have := HS.out.2.1.size; have := HB.out; omega
    have g0 := (HS.out.2.1.cell (p := ⟨bx, 0, none⟩) (by simp; omega)).trans e0
    have z0 : wr.frozen? ⟨bx, 0, none⟩ = false := frozen_row ((HS.out.2.1.block bx (by omega)).trans HROW.out.1) 0
    by_cases hlt : i < n
    · have HX : Hid (∃ x, s.ns[i]? = some x ∧ s.ns.getD i mk0 = x) := by
        refine ⟨s.ns.getD i mk0, ?_, rfl⟩
        rw [List.getD_eq_getElem?_getD, List.getElem?_eq_getElem (by have := HB.out; omega)]
        rfl
      obtain ⟨x, hgx, hx⟩ := HX.out
      clear HX
      obtain ⟨b, off, rfl, hb, hl, -, -, -⟩ := HROW.out.2.1.mk (W := wr) (by have := HS.out.2.1; rw [← HB.out.2.2.1] at this; exact this) hlt
      have HC : Hid (∀ W, Below wr.heap.size wr W → W.cell? ⟨bx, 0, none⟩ = some (.slice (some ⟨b, off, none⟩) n lc) ∧ W.cell? ⟨b, off + i * 3, none⟩ = some (.int .i32 x.1) ∧ W.cell? ⟨b, off + i * 3 + 1, none⟩ = some (.int .i64 x.2.l) ∧ W.cell? ⟨b, off + i * 3 + 2, none⟩ = some (.int .i64 x.2.c) ∧ W.cell? ⟨cb, 0, none⟩ = some (.int .i64 pos) ∧ W.cell? ⟨cb, 1, none⟩ = some (.slice oa on oc) ∧ W.cell? ⟨cb, 2, none⟩ = some (.slice na nn nc)) := by
        refine Lib.hid (fun W hW => ?_)
        have hWb : Below (cb + 1) wb W := HS.out.2.1.trans (hW.mono hwl)
        have hc2 := (hWb.block cb (by omega)).trans HROW.out.2.2.2
        obtain ⟨b', off', eq, -, -, c0, c1, c2⟩ := HROW.out.2.1.mk (W := W) (by have := hWb; rw [← HB.out.2.2.1] at this; exact this) hlt
        injection eq with eq
        injection eq with q1 q2
        subst q1 q2
        rw [hx] at c0 c1 c2
        exact ⟨(hW.cell (p := ⟨bx, 0, none⟩) (by simp only; omega)).trans g0, c0, c1, c2, cell_row hc2 0, cell_row hc2 1, cell_row hc2 2⟩
      have hokp : okP B x.2 := HOKM.out x (List.mem_of_getElem? hgx)
      have HM : Hid (∀ W, Hid (Below wr.heap.size wr W) → Calls Try.prog 10 #[.agg #[.int .i64 x.2.l, .int .i64 x.2.c], .agg #[.int .i64 pos, .slice oa on oc, .slice na nn nc]] W fun e w' => e = .returned (.tuple #[.agg #[.int .i64 ((moveP x.2 c).getD po0).l, .int .i64 ((moveP x.2 c).getD po0).c], .bool (moveP x.2 c).isSome]) ∧ Hid (Below wr.heap.size wr w') ∧ Hid (∀ g, ZeroP W g → ZeroP w' g)) := by
        refine Lib.hid (fun W hW => ?_)
        have hf : Fr P w W := (Fr.of_below P (HB.out.1.trans ((HS.out.2.1.trans (hW.out.mono hwl)).mono (by have := HB.out; omega))))
        refine (HMV.out x.2 hokp W (HRN.out W hf)).mono ?_
        rintro e w' ⟨he, hb9⟩
        exact ⟨he, Lib.hid (hW.out.trans (hb9.mono hW.out.size)), Lib.hid (fun g hg => hg.below hb9)⟩
      obtain ⟨q, hq⟩ : ∃ q, (moveP x.2 c).getD po0 = q := ⟨_, rfl⟩
      obtain ⟨ok, hmok⟩ : ∃ ok, (moveP x.2 c).isSome = ok := ⟨_, rfl⟩
      rw [hq, hmok] at HM
      obtain ⟨xr, ⟨xl, xc⟩⟩ := x
      dsimp only at HM HC
      have HX := Lib.hid (And.intro hgx (And.intro hq hmok))
      clear hgx hx hq hmok hokp hl
      obtain ⟨-, c0, c1, c2, d0, d1, d2⟩ := HC.out wr (Below.refl _ _)
      have HR0 : Hid (Below wr.heap.size wr wr) := Below.refl _ _
      have HR1 : Hid (Below wr.heap.size wr wr.drew) := (Below.refl _ _).drew
      have KS : Hid (∀ W, Below wr.heap.size wr W → Below wr.heap.size wr W ∧ W.cell? ⟨bx, 0, none⟩ = some (.slice (some ⟨b, off, none⟩) n lc) ∧ W.cell? ⟨b, off + i * 3 + 1, none⟩ = some (.int .i64 xl) ∧ W.cell? ⟨b, off + i * 3 + 2, none⟩ = some (.int .i64 xc) ∧ W.cell? ⟨cb, 0, none⟩ = some (.int .i64 pos) ∧ W.cell? ⟨cb, 1, none⟩ = some (.slice oa on oc) ∧ W.cell? ⟨cb, 2, none⟩ = some (.slice na nn nc)) := by
        refine Lib.hid (fun W hW => ?_)
        obtain ⟨k0, k1, k2, k3, k4, k5, k6⟩ := HC.out W hW
        exact ⟨hW, k0, k2, k3, k4, k5, k6⟩
      go_upto_region 5 with fail
      go_cut [6, 7] from 13 to 48 (fun v6 v7 wx => ∃ g, v6 = .pointer (some ⟨g, 0, none⟩) ∧ v7 = .bool ok ∧ Hid (MvS wr wx g q))
      case first =>
        go_region_held3 (fun w' => Below wr.heap.size wr w' ∧ w'.cell? ⟨bx, 0, none⟩ = some (.slice (some ⟨b, off, none⟩) n lc) ∧ w'.cell? ⟨b, off + i * 3 + 1, none⟩ = some (.int .i64 xl) ∧ w'.cell? ⟨b, off + i * 3 + 2, none⟩ = some (.int .i64 xc) ∧ w'.cell? ⟨cb, 0, none⟩ = some (.int .i64 pos) ∧ w'.cell? ⟨cb, 1, none⟩ = some (.slice oa on oc) ∧ w'.cell? ⟨cb, 2, none⟩ = some (.slice na nn nc))
          (first
            | exact KS.out _ HR0.out
            | exact KS.out _ HR1.out
            | exact KS.out _ q1.out
            | exact KS.out _ (HR1.out.alloc HR1.out.size _)
            | exact KS.out _ (q1.out.alloc q1.out.size _)
            | exact KS.out _ (HR0.out.alloc HR0.out.size _)
            | exact KS.out _ (HR0.out.alloc HR0.out.size _).drew
            | (refine KS.out _ (Below.setCell (Below.setCell q1.out ?_ _) ?_ _) <;> first | exact Nat.le_refl _ | exact q1.out.size))
          (first | (go_at_call 10; (with_reducible refine (HM.out _ (by first | exact HR0 | exact HR1 | exact Lib.hid (HR0.out.alloc HR0.out.size _).drew | exact Lib.hid (HR1.out.alloc HR1.out.size _))).mono ?_); rintro e1 w1 ⟨rfl, q1, p1⟩; (try (have hz1 : ZeroP w1 _ := (by first | with_reducible exact p1.out _ (ZeroP.new _) | with_reducible exact p1.out _ (ZeroP.new _).drew); obtain ⟨z10, z11, z12, z13, z14⟩ := hz1.facts))))
        all_goals
          go_wp2_with fail
          go_meet
          first
            | exact ⟨_, rfl, rfl, Lib.hid (mv_new q q1.out)⟩
            | exact ⟨_, rfl, rfl, Lib.hid (mv_set q hz1 (Nat.le_refl _) q1.out)⟩
      case rest =>
        obtain ⟨g, rfl, rfl, hmv⟩ := hcut
        obtain ⟨wq, hwq⟩ : ∃ x, x = wc := ⟨_, rfl⟩
        subst hwq
        obtain ⟨hbq, hgq, hgc⟩ := hmv.out
        have q0 := cell_row hgc 0
        have q1 := cell_row hgc 1
        obtain ⟨m0, m1, m2, m3, n0, n1, n2⟩ := HC.out wq hbq
        have HBQ := Lib.hid hbq
        have HQ9 : Hid (Below (cb + 1) wb wq) := Lib.hid (HS.out.2.1.trans (hbq.mono hwl))
        have hql : wr.heap.size ≤ wq.heap.size := hbq.size
        clear hbq hgc c0 c1 c2 d0 d1 d2 g0 z0 HR0 HR1
        cases ok
        · have hmp : moveP ⟨xl, xc⟩ c = none := by
            have h9 := HX.out.2.2
            cases hm : moveP ⟨xl, xc⟩ c with
            | none => rfl
            | some _ => rw [hm] at h9; cases h9
          have HN : Hid (k = (adjN (s.ns.take (i + 1)) c).length ∧ Below (cb + 1) wb wq ∧ wq.ownsRow (cb + 1) 64 3 (.slice a k cc) k (mcells (adjN (s.ns.take (i + 1)) c))) := by
            show _ ∧ _ ∧ _
            rw [adjN_gone HX.out.1 hmp]
            exact ⟨HS.out.1, HQ9.out, own_bel HS.out.2.2 HBQ.out⟩
          clear hmp
          go_wp2_with fail
          go_roundw
          case rel => exact ⟨a, cc, k, i + 1, rfl, by go_num, by omega, by omega, HN⟩
          case measure => simp [intOf]; omega
        · have hmp : moveP ⟨xl, xc⟩ c = some q := by
            have h9 := HX.out.2.2
            have h8 := HX.out.2.1
            cases hm : moveP ⟨xl, xc⟩ c with
            | none => rw [hm] at h9; cases h9
            | some _ => rw [hm] at h8; exact congrArg some h8
          have hown : wq.drew.ownsRow (cb + 1) 64 3 (.slice a k cc) k (mcells (adjN (s.ns.take i) c)) := own_bel HS.out.2.2 HBQ.out.drew
          obtain ⟨a2, cc2, w7, hrun, hown7, hb7⟩ := app_mk wq.drew (cb + 1) (.slice a k cc) k _ xr q.l q.c hown (by show _ ≤ wq.heap.size; omega) (by omega)
          have HN : Hid (k + 1 = (adjN (s.ns.take (i + 1)) c).length ∧ Below (cb + 1) wb w7 ∧ w7.ownsRow (cb + 1) 64 3 (.slice a2 (k + 1) cc2) (k + 1) (mcells (adjN (s.ns.take (i + 1)) c))) := by
            show _ ∧ _ ∧ _
            rw [adjN_kept HX.out.1 hmp]
            exact ⟨by rw [List.length_append, ← HS.out.1]; rfl, HQ9.out.drew.trans hb7, hown7⟩
          have HRUN := Lib.hid hrun
          clear hmp hown hrun hown7 hb7 n0 n1 n2 m2 m3
          go_wp2_with fail
          go_region_law (refine step_append_run rfl (.tmp 36) (.tmp 47) _ _ rfl _ _ (by simp [Act.eval, Act.put]) (by simp [Act.eval, Act.put]) (HRUN.out _) ?_)
          all_goals
            go_wp2_with fail
            go_roundw
            case rel => exact ⟨a2, cc2, k + 1, i + 1, rfl, by go_num, by omega, by omega, HN⟩
            case measure => simp [intOf]; omega
    · obtain rfl : i = n := by omega
      obtain ⟨i0, i1, i2⟩ := HS.out
      rw [List.take_of_length_le (by have := HB.out; omega)] at i0 i2
      have hbw : Below w.heap.size w wr := HB.out.1.trans (i1.mono (by have := HB.out; omega))
      obtain ⟨wm, hwm⟩ : ∃ wm, wr.setCell ⟨bx, 0, none⟩ (.slice a k cc) = wm := ⟨_, rfl⟩
      have hA : AfR P w wm bx ⟨adjN s.ns c, s.js, s.ix⟩ := by
        rw [← hwm]
        exact HH.out.setL hbw (Rc.own i2) (fun ad _ e => by
          subst e
          obtain ⟨g, rfl⟩ := own_ad i2
          have := (i2.lt g (by simp [Value.ownBlock])).1
          have := HB.out
          simp only
          omega)
      have HA := Lib.hid hA
      obtain ⟨P', hR', hf', -⟩ := hA
      obtain ⟨la2, lc2, ja2, jc2, r1, r2, r3, r4, r5, pp1, pp2⟩ := hR'
      have hms : wm.heap.size = wr.heap.size := by rw [← hwm]; simp
      have hcm : wm.heap[cb]? = some (.cells #[.int .i64 pos, .slice oa on oc, .slice na nn nc] 26 (0, 0)) := by
        rw [← hwm]
        have h9 := (i1.block cb (by omega)).trans HROW.out.2.2.2
        have hfS : Fr (fun k => k = bx) wr (wr.setCell ⟨bx, 0, none⟩ (.slice a k cc)) := (Fr.refl (fun k => k = bx) wr).setCell ⟨bx, 0, none⟩ _ (fun _ => rfl)
        exact (hfS.block cb (heap_lt h9) (by omega)).trans h9
      have e1 : wm.cell? ⟨bx, 1, none⟩ = some (.slice ja2 s.js.length jc2) := by rw [cell_row r1]; rfl
      have e2 : wm.cell? ⟨bx, 2, none⟩ = some (.int .i64 (s.ix : Nat)) := by rw [cell_row r1]; rfl
      have hbm : bx < wm.heap.size := heap_lt r1
      have hcl : cb < wm.heap.size := heap_lt hcm
      obtain ⟨ix, hix⟩ : ∃ ix, s.ix = ix := ⟨_, rfl⟩
      have hml : s.js.length = m := HB.out.2.2.2.2
      simp only at r4
      rw [hml] at e1 r4
      rw [hix] at e2 hok4
      have HRM : Hid (∀ W, Below wm.heap.size wm W → RdL F W na nn nc c.now) := Lib.hid (fun W hW => HRN.out W (hf'.trans (Fr.of_below P hW) (fun _ _ h => h)))
      have HM1 := Lib.hid (And.intro r1 (And.intro r4 (And.intro hcm (And.intro hix hml))))
      have HWM := Lib.hid hwm
      clear r1 r2 r3 r4 r5 pp1 pp2 hcm hix hml hf' hms i0 i1 i2 hbw e0 HRN hki HS hwl e1 e2
      go_upto_region 9 with fail
      try rw [HWM.out]
      clear hwm HWM z0 g0
      have e1 : wm.cell? ⟨bx, 1, none⟩ = some (.slice ja2 m jc2) := by rw [cell_row HM1.out.1, ← HM1.out.2.2.2.2]; rfl
      have e2 : wm.cell? ⟨bx, 2, none⟩ = some (.int .i64 (ix : Nat)) := by rw [cell_row HM1.out.1, ← HM1.out.2.2.2.1]; rfl
      go_wp2_with fail
      go_loopw [8, 9, 10] (fun v xv iv wr => ∃ (a : Option Addr) (cc k x i : Nat), v = .slice a k cc ∧ xv = .int .i64 x ∧ iv = .int .i64 i ∧ i ≤ m ∧ k ≤ i ∧ x ≤ 100 ∧ Hid (x = ixJ s c i ∧ k = (adjJ (s.js.take i) c).length ∧ Below wm.heap.size wm wr ∧ wr.ownsRow wm.heap.size 23 2 (.slice a k cc) k (fl (adjJ (s.js.take i) c)))) (fun _ _ iv _ => m - (intOf iv).toNat)
      case atStart =>
        refine ⟨none, 0, 0, ix, 0, rfl, rfl, rfl, Nat.zero_le _, Nat.le_refl _, hok4, ?_, rfl, Below.refl _ _, World.ownsRow_nil _ _ _ _⟩
        simp [ixJ, goneJ, HM1.out.2.2.2.1]
      case round =>
        obtain ⟨a, cc, k, x, i, rfl, rfl, rfl, hin, hki, hx100, HS⟩ := hrel
        have hwl : wm.heap.size ≤ wr.heap.size := HS.out.2.2.1.size
        have g1 := (HS.out.2.2.1.cell (p := ⟨bx, 1, none⟩) (by simp; omega)).trans e1
        have g2 := (HS.out.2.2.1.cell (p := ⟨bx, 2, none⟩) (by simp; omega)).trans e2
        have z1 : wr.frozen? ⟨bx, 1, none⟩ = false := frozen_row ((HS.out.2.2.1.block bx (by omega)).trans HM1.out.1) 1
        have z2 : wr.frozen? ⟨bx, 2, none⟩ = false := frozen_row ((HS.out.2.2.1.block bx (by omega)).trans HM1.out.1) 2
        by_cases hlt : i < m
        · have HX : Hid (∃ p, s.js[i]? = some p ∧ s.js.getD i po0 = p) := by
            refine ⟨s.js.getD i po0, ?_, rfl⟩
            rw [List.getD_eq_getElem?_getD, List.getElem?_eq_getElem (by have := HM1.out; omega)]
            rfl
          obtain ⟨p, hgp, hp⟩ := HX.out
          clear HX
          obtain ⟨b, off, rfl, hb, hl, -, -⟩ := HM1.out.2.1.po (W := wr) HS.out.2.2.1 hlt
          have HC : Hid (∀ W, Below wr.heap.size wr W → W.cell? ⟨bx, 1, none⟩ = some (.slice (some ⟨b, off, none⟩) m jc2) ∧ W.cell? ⟨b, off + i * 2, none⟩ = some (.int .i64 p.l) ∧ W.cell? ⟨b, off + i * 2 + 1, none⟩ = some (.int .i64 p.c) ∧ W.cell? ⟨cb, 0, none⟩ = some (.int .i64 pos) ∧ W.cell? ⟨cb, 1, none⟩ = some (.slice oa on oc) ∧ W.cell? ⟨cb, 2, none⟩ = some (.slice na nn nc) ∧ W.cell? ⟨bx, 2, none⟩ = some (.int .i64 ix)) := by
            refine Lib.hid (fun W hW => ?_)
            have hWb : Below wm.heap.size wm W := HS.out.2.2.1.trans (hW.mono hwl)
            have hc2 := (hWb.block cb hcl).trans HM1.out.2.2.1
            obtain ⟨b', off', eq, -, -, c0, c1⟩ := HM1.out.2.1.po (W := W) hWb hlt
            injection eq with eq
            injection eq with q1 q2
            subst q1 q2
            rw [hp] at c0 c1
            exact ⟨(hW.cell (p := ⟨bx, 1, none⟩) (by simp only; omega)).trans g1, c0, c1, cell_row hc2 0, cell_row hc2 1, cell_row hc2 2, (hW.cell (p := ⟨bx, 2, none⟩) (by simp only; omega)).trans g2⟩
          have hokp : okP B p := HOKJ.out p (List.mem_of_getElem? hgp)
          have HM : Hid (∀ W, Hid (Below wr.heap.size wr W) → Calls Try.prog 10 #[.agg #[.int .i64 p.l, .int .i64 p.c], .agg #[.int .i64 pos, .slice oa on oc, .slice na nn nc]] W fun e w' => e = .returned (.tuple #[.agg #[.int .i64 ((moveP p c).getD po0).l, .int .i64 ((moveP p c).getD po0).c], .bool (moveP p c).isSome]) ∧ Hid (Below wr.heap.size wr w') ∧ Hid (∀ g, ZeroP W g → ZeroP w' g)) := by
            refine Lib.hid (fun W hW => ?_)
            refine (HMV.out p hokp W (HRM.out W (HS.out.2.2.1.trans (hW.out.mono hwl)))).mono ?_
            rintro e w' ⟨he, hb9⟩
            exact ⟨he, Lib.hid (hW.out.trans (hb9.mono hW.out.size)), Lib.hid (fun g hg => hg.below hb9)⟩
          obtain ⟨q, hq⟩ : ∃ q, (moveP p c).getD po0 = q := ⟨_, rfl⟩
          obtain ⟨ok, hmok⟩ : ∃ ok, (moveP p c).isSome = ok := ⟨_, rfl⟩
          rw [hq, hmok] at HM
          obtain ⟨pl, pc⟩ := p
          dsimp only at HM HC
          have HX := Lib.hid (And.intro hgp (And.intro hq hmok))
          clear hgp hp hq hmok hokp hl
          obtain ⟨-, c0, c1, d0, d1, d2, -⟩ := HC.out wr (Below.refl _ _)
          have HR0 : Hid (Below wr.heap.size wr wr) := Below.refl _ _
          have HR1 : Hid (Below wr.heap.size wr wr.drew) := (Below.refl _ _).drew
          have KS : Hid (∀ W, Below wr.heap.size wr W → Below wr.heap.size wr W ∧ W.cell? ⟨bx, 1, none⟩ = some (.slice (some ⟨b, off, none⟩) m jc2) ∧ W.cell? ⟨b, off + i * 2, none⟩ = some (.int .i64 pl) ∧ W.cell? ⟨b, off + i * 2 + 1, none⟩ = some (.int .i64 pc) ∧ W.cell? ⟨cb, 0, none⟩ = some (.int .i64 pos) ∧ W.cell? ⟨cb, 1, none⟩ = some (.slice oa on oc) ∧ W.cell? ⟨cb, 2, none⟩ = some (.slice na nn nc)) := by
            refine Lib.hid (fun W hW => ?_)
            obtain ⟨k0, k1, k2, k3, k4, k5, k6⟩ := HC.out W hW
            exact ⟨hW, k0, k1, k2, k3, k4, k5⟩
          go_upto_region 14 with fail
          go_cut [11, 12] from 57 to 90 (fun v6 v7 wx => ∃ g, v6 = .pointer (some ⟨g, 0, none⟩) ∧ v7 = .bool ok ∧ Hid (MvS wr wx g q))
          case first =>
            go_region_held3 (fun w' => Below wr.heap.size wr w' ∧ w'.cell? ⟨bx, 1, none⟩ = some (.slice (some ⟨b, off, none⟩) m jc2) ∧ w'.cell? ⟨b, off + i * 2, none⟩ = some (.int .i64 pl) ∧ w'.cell? ⟨b, off + i * 2 + 1, none⟩ = some (.int .i64 pc) ∧ w'.cell? ⟨cb, 0, none⟩ = some (.int .i64 pos) ∧ w'.cell? ⟨cb, 1, none⟩ = some (.slice oa on oc) ∧ w'.cell? ⟨cb, 2, none⟩ = some (.slice na nn nc))
              (first
                | exact KS.out _ HR0.out
                | exact KS.out _ HR1.out
                | exact KS.out _ q1.out
                | exact KS.out _ (HR1.out.alloc HR1.out.size _)
                | exact KS.out _ (q1.out.alloc q1.out.size _)
                | exact KS.out _ (HR0.out.alloc HR0.out.size _)
                | exact KS.out _ (HR0.out.alloc HR0.out.size _).drew
                | (refine KS.out _ (Below.setCell (Below.setCell q1.out ?_ _) ?_ _) <;> first | exact Nat.le_refl _ | exact q1.out.size))
              (first | (go_at_call 10; (with_reducible refine (HM.out _ (by first | exact HR0 | exact HR1 | exact Lib.hid (HR0.out.alloc HR0.out.size _).drew | exact Lib.hid (HR1.out.alloc HR1.out.size _))).mono ?_); rintro e1 w1 ⟨rfl, q1, p1⟩; (try (have hz1 : ZeroP w1 _ := (by first | with_reducible exact p1.out _ (ZeroP.new _) | with_reducible exact p1.out _ (ZeroP.new _).drew); obtain ⟨z10, z11, z12, z13, z14⟩ := hz1.facts))))
            all_goals
              go_wp2_with fail
              go_meet
              first
                | exact ⟨_, rfl, rfl, Lib.hid (mv_new q q1.out)⟩
                | exact ⟨_, rfl, rfl, Lib.hid (mv_set q hz1 (Nat.le_refl _) q1.out)⟩
          case rest =>
            obtain ⟨g, rfl, rfl, hmv⟩ := hcut
            obtain ⟨wq, hwq⟩ : ∃ x, x = wc := ⟨_, rfl⟩
            subst hwq
            obtain ⟨hbq, hgq, hgc⟩ := hmv.out
            have q0 := cell_row hgc 0
            have q1 := cell_row hgc 1
            obtain ⟨m0, m1, m2, n0, n1, n2, m9⟩ := HC.out wq hbq
            have HBQ := Lib.hid hbq
            have HQ9 : Hid (Below wm.heap.size wm wq) := Lib.hid (HS.out.2.2.1.trans (hbq.mono hwl))
            have hql : wr.heap.size ≤ wq.heap.size := hbq.size
            clear hbq hgc c0 c1 d0 d1 d2 g1 g2 z1 z2 HR0 HR1 n0 n1 n2 m1 m2 m0
            cases ok
            · have hmp : moveP ⟨pl, pc⟩ c = none := by
                have h9 := HX.out.2.2
                cases hm : moveP ⟨pl, pc⟩ c with
                | none => rfl
                | some _ => rw [hm] at h9; cases h9
              have HMP := Lib.hid hmp
              clear hmp
              by_cases hii : i < ix
              · have hi1 : decide ((i : Int) < (ix : Int)) = true := by simpa using hii
                have hx1 : 1 ≤ x := by
                  rw [HS.out.1]
                  exact ixJ_pos HX.out.1 (by rw [HM1.out.2.2.2.1]; exact hii)
                obtain ⟨y, hy⟩ : ∃ y, x - 1 = y := ⟨_, rfl⟩
                have hy1 : (x : Int) - 1 = (y : Int) := by omega
                have HN : Hid (y = ixJ s c (i + 1) ∧ k = (adjJ (s.js.take (i + 1)) c).length ∧ Below wm.heap.size wm wq ∧ wq.ownsRow wm.heap.size 23 2 (.slice a k cc) k (fl (adjJ (s.js.take (i + 1)) c))) := by
                  show _ ∧ _ ∧ _ ∧ _
                  rw [adjJ_gone HX.out.1 HMP.out, ixJ_gone HX.out.1 HMP.out, if_pos (by rw [HM1.out.2.2.2.1]; exact hii), ← HS.out.1]
                  exact ⟨hy.symm, HS.out.2.1, HQ9.out, own_bel HS.out.2.2.2 HBQ.out⟩
                have hyx : y ≤ 100 := by omega
                clear hy
                go_wp2_with fail
                go_roundw
                case rel => exact ⟨a, cc, k, y, i + 1, rfl, rfl, by go_num, by omega, by omega, hyx, HN⟩
                case measure => simp [intOf]; omega
              · have hi1 : decide ((i : Int) < (ix : Int)) = false := by simpa using hii
                have HN : Hid (x = ixJ s c (i + 1) ∧ k = (adjJ (s.js.take (i + 1)) c).length ∧ Below wm.heap.size wm wq ∧ wq.ownsRow wm.heap.size 23 2 (.slice a k cc) k (fl (adjJ (s.js.take (i + 1)) c))) := by
                  show _ ∧ _ ∧ _ ∧ _
                  rw [adjJ_gone HX.out.1 HMP.out, ixJ_gone HX.out.1 HMP.out, if_neg (by rw [HM1.out.2.2.2.1]; exact hii)]
                  exact ⟨HS.out.1, HS.out.2.1, HQ9.out, own_bel HS.out.2.2.2 HBQ.out⟩
                go_wp2_with fail
                go_roundw
                case rel => exact ⟨a, cc, k, x, i + 1, rfl, rfl, by go_num, by omega, by omega, hx100, HN⟩
                case measure => simp [intOf]; omega
            · have hmp : moveP ⟨pl, pc⟩ c = some q := by
                have h9 := HX.out.2.2
                have h8 := HX.out.2.1
                cases hm : moveP ⟨pl, pc⟩ c with
                | none => rw [hm] at h9; cases h9
                | some _ => rw [hm] at h8; exact congrArg some h8
              have hown : wq.ownsRow wm.heap.size 23 2 (.slice a k cc) k (fl (adjJ (s.js.take i) c)) := own_bel HS.out.2.2.2 HBQ.out
              obtain ⟨a2, cc2, w7, hrun, hown7, hb7⟩ := app_po wq wm.heap.size (.slice a k cc) k _ q.l q.c hown (by omega) (by omega)
              have HN : Hid (x = ixJ s c (i + 1) ∧ k + 1 = (adjJ (s.js.take (i + 1)) c).length ∧ Below wm.heap.size wm w7 ∧ w7.ownsRow wm.heap.size 23 2 (.slice a2 (k + 1) cc2) (k + 1) (fl (adjJ (s.js.take (i + 1)) c))) := by
                show _ ∧ _ ∧ _ ∧ _
                rw [adjJ_kept HX.out.1 hmp, ixJ_kept HX.out.1 hmp]
                exact ⟨HS.out.1, by rw [List.length_append, ← HS.out.2.1]; rfl, HQ9.out.trans hb7, hown7⟩
              have HRUN := Lib.hid hrun
              clear hmp hown hrun hown7 hb7 m9
              go_wp2_with (at_builtin; go_must (with_reducible refine Lib.wpList_append_run _ rfl _ _ _ _ rfl _ _ rfl rfl _ _ (HRUN.out _) ?_))
              go_roundw
              case rel => exact ⟨a2, cc2, k + 1, x, i + 1, rfl, rfl, by go_num, by omega, by omega, hx100, HN⟩
              case measure => simp [intOf]; omega
        · obtain rfl : i = m := by omega
          go_wp2_with fail
          go_end0
          obtain ⟨i0, i1, i2, i3⟩ := HS.out
          have hall : s.js.take i = s.js := List.take_of_length_le (by have := HM1.out.2.2.2.2; omega)
          rw [hall] at i1 i3
          have hx : x = s.ix - goneJ (s.js.take s.ix) c := by rw [i0]; unfold ixJ; rw [hall]
          refine ⟨rfl, ?_⟩
          have h9 := HA.out.trans (w2 := (wr.setCell ⟨bx, 1, none⟩ (.slice a k cc)).setCell ⟨bx, 2, none⟩ (.int .i64 (x : Nat))) (s2 := ⟨adjN s.ns c, adjJ s.js c, x⟩) (fun P' hR => hR.setJ i2 (Rc.own i3) (fun ad _ e => by
            subst e
            obtain ⟨g, rfl⟩ := own_ad i3
            exact (i3.lt g (by simp [Value.ownBlock])).1) x)
          rw [hx] at h9
          rw [hx]
          exact h9
end Go.Proofs.Ytbgbhlnidabhnaa.U
