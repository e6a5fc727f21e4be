/-
  The walk of lengths.replace.
-/
import Derived.Test.YtndlebopfojjeaaTRep
namespace Go.Proofs.Ytndlebopfojjeaa.U
open Go.RowKit
set_option linter.unusedVariables false
set_option linter.unusedSimpArgs false
set_option maxRecDepth 100000

/-- a list of a block, from its o-th number on -/
theorem rdN_from {w : World} {a : Option Addr} {n c o : Nat} {xs : List Nat} (h : RdN w a n c xs) (ho : o < n) : ∃ b off, a = some ⟨b, off, none⟩ ∧ ¬ (c = o) ∧ RdN w (some ⟨b, off + o, none⟩) (n - o) (c - o) (xs.drop o) := by
  obtain ⟨b, off, rfl, hb, _⟩ := h.at_ (by omega)
  have hc := h.2.1
  have h2 := h.drop o (by omega)
  rw [if_neg (by omega)] at h2
  have e : Option.map (fun x : Addr => x.add (o * 1)) (some ⟨b, off, none⟩) = some ⟨b, off + o, none⟩ := by simp [add_lit]
  rw [e] at h2
  exact ⟨b, off, rfl, by omega, h2⟩

set_option maxHeartbeats 8000000 in
theorem treplace_any (F N : Nat → Prop) (bt : Nat) (tv : Value) (ps : Blks) (count at_ n : Nat) (ws TG : List Nat) (wa : Option Addr) (wn wc : Nat) (w : World) (h : TxL w F bt tv ps count) (hNF : ∀ k, N k → ¬ F k) (hNw : ∀ k, w.heap.size ≤ k → N k)
    (hrd : RdN w wa wn wc ws) (hin : InF N wa wn) (h0 : 0 < wn) (hn : 0 < n) (han : at_ + n ≤ count) (hTG : (lists ps).flatten.take at_ ++ (ws ++ (lists ps).flatten.drop (at_ + n)) = TG) (hsz : sizeN TG ≤ 1048576) (hc1 : count ≤ 1048576) :
    Calls Try.prog 44 #[.pointer (some ⟨bt, 1, none⟩), .int .i64 at_, .int .i64 n, .slice wa wn wc] w (RepPost w F N bt tv TG) := by
  obtain ⟨a, c, e1, e2, e3, e4, e5⟩ := h.ex
  have hcnt := h.cnt
  have hbtF := h.inF
  have hbtl := heap_lt e1
  have hTGl : TG.length ≤ 1048576 := by rw [sizeN_sum] at hsz; omega
  have hTGc : count + wn = TG.length + n := by
    have := congrArg List.length hTG
    have := hrd.len
    simp only [List.length_append, List.length_take, List.length_drop] at *
    omega
  have hwn : wn ≤ 1048576 := by omega
  have hnn : n ≤ 1048576 := by omega
  have hat : at_ ≤ 1048576 := by omega
  have hab : ∀ k, (Value.slice a ps.length c).ownBlock = some k → k ≠ bt := fun k e => row_block_apart e2 e1 (by decide) e
  obtain ⟨K, hK⟩ : ∃ K, TG.length = K := ⟨_, rfl⟩
  obtain ⟨w1, hw1⟩ : ∃ w1, w.setCell ⟨bt, 2, none⟩ (.int .i64 ((count : Int) + ((wn : Int) - (n : Int)))) = w1 := ⟨_, rfl⟩
  have hval : (count : Int) + ((wn : Int) - (n : Int)) = (K : Int) := by omega
  have hf1 : Fr (· = bt) w w1 := by rw [← hw1]; exact (Fr.refl _ _).setCell _ _ (fun _ => rfl)
  have g1 : w1.heap[bt]? = some (.cells #[tv, .slice a ps.length c, .int .i64 (K : Nat)] 71 (0, 0)) := by
    rw [← hw1, hval]
    exact heap_set e1 2 _
  have g2 : w1.ownsRow 0 92 2 (.slice a ps.length c) ps.length (flatB ps) := own_fr e2 hf1 hab
  have g5 : BlkOk (FL F bt (.slice a ps.length c)) w1 ps := e5.frF hf1 (fun k hk => hk.2.1)
  have hLB : LB w1 F bt a ps.length c ps count := ⟨heap_lt g1, cell_row g1 1, Rc.own g2, g5.mono (fun k hk => hk.1), hcnt, h.small⟩
  have hws : RdN w1 wa wn wc ws := Rc.frF hrd hin hf1 (fun k hk e => hNF k hk (by rw [e]; exact hbtF))
  have k2 : w.cell? ⟨bt, 2, none⟩ = some (.int .i64 (count : Nat)) := cell_row e1 2
  have z2 := frozen_row e1 2
  have hsz1 : w1.heap.size = w.heap.size := by rw [← hw1]; simp
  obtain ⟨f, hh, hff⟩ : ∃ f hh, findB (lists ps) at_ = (f, hh) := ⟨_, _, rfl⟩
  obtain ⟨t, l, htt⟩ : ∃ t l, findB (lists ps) (at_ + n) = (t, l) := ⟨_, _, rfl⟩
  have hfi1 := tfind_any F bt a ps.length c ps count at_ w1 hLB (by omega)
  have hfi2 := fun W (hW : Below w1.heap.size w1 W) => tfind_any F bt a ps.length c ps count (at_ + n) W (hLB.below hW) han
  rw [hff] at hfi1
  rw [htt] at hfi2
  have hlt := find_lt (show at_ < at_ + n by omega) (by rw [hcnt]; exact han) hff htt
  have sp1 := findB_spec (lists ps) at_ (by rw [hcnt]; omega)
  have sp2 := findB_spec (lists ps) (at_ + n) (by rw [hcnt]; omega)
  rw [hff] at sp1
  rw [htt] at sp2
  simp only [lists_len] at sp1 sp2 hfi1 hfi2
  have tk := find_take (by rw [hcnt]; omega) hff
  have dr := find_drop (by rw [hcnt]; exact han) htt
  rw [tk, dr] at hTG
  obtain ⟨n0, hn0⟩ : ∃ n0, ps.length = n0 := ⟨_, rfl⟩
  have hcap := (Rc.own e2).2.1
  have hcm : c ≤ 9223372036854775807 := by have := (Rc.own e2).2.2.1; unfold maxLen at this; omega
  have hfew : n0 ≤ 1048576 := by rw [← hn0]; have := hLB.few; omega
  rw [hn0] at sp1 sp2 hcap
  obtain ⟨XF, hXF⟩ : ∃ XF, (lists ps).getD f [] = XF := ⟨_, rfl⟩
  obtain ⟨XT, hXT⟩ : ∃ XT, (lists ps).getD t [] = XT := ⟨_, rfl⟩
  rw [hXF] at sp1 hTG
  rw [hXT] at sp2 hTG
  have HXF : Hid (∀ p, ps[f]? = some p → XF = p.2) := fun p hp => by rw [← hXF, List.getD_eq_getElem?_getD, lists_at hp]; rfl
  have HXT : Hid (∀ p, ps[t]? = some p → XT = p.2) := fun p hp => by rw [← hXT, List.getD_eq_getElem?_getD, lists_at hp]; rfl
  have HXT0 : Hid (XT ++ (lists (ps.drop (t + 1))).flatten = (lists (ps.drop t)).flatten) := by
    show _ = _
    rw [← hXT]
    by_cases e : t < ps.length
    · have hp := List.getElem?_eq_getElem e
      have := flat_at (lists_at hp)
      rw [List.getD_eq_getElem?_getD, lists_at hp, Option.getD_some]
      simpa [lists] using this.symm
    · rw [List.getD_eq_getElem?_getD, List.getElem?_eq_none (by rw [lists_len]; omega), drop_all ps _ (by omega), drop_all ps _ (by omega)]
      rfl
  have W0 : Hid (WS w1 N TG ((lists (ps.take f)).flatten ++ XF.take hh) (XT.drop l ++ (lists (ps.drop (t + 1))).flatten) w1 wa wn wc) := by
    refine ⟨ws, hws, hin, h0, ?_, Below.refl _ _⟩
    rw [← hTG]
    simp [lists]
  have HEND : Hid (∀ (f t : Nat) (wr W2 W3 : World) (qs : Blks) (e : Ending), Below w1.heap.size w1 wr → Below wr.heap.size wr W2 → BlkOk N W2 qs → qs ≠ [] → (lists (ps.take f)).flatten ++ ((lists qs).flatten ++ (lists (ps.drop t)).flatten) = TG → ReplPost W2 a ps.length c (ps.take f ++ (qs ++ ps.drop t)).length (ps.take f ++ (qs ++ ps.drop t)) e W3 → _) :=
    fun f t wr W2 W3 qs e a1 a2 a3 a4 a5 a6 => rep_end (w := w) (by rw [hK]; exact g1) e3 g5 hbtF hab hNF hNw hf1 a1 a2 a3 a4 a5 (by omega) a6
  have HG2 := Lib.hid g2
  have HLB := Lib.hid hLB
  have HE3 := Lib.hid e3
  have HNF := Lib.hid hNF
  have HNW := Lib.hid hNw
  have HFI1 := Lib.hid hfi1
  have HFI2 := Lib.hid hfi2
  have HW1 := Lib.hid hw1
  have HN0 := Lib.hid hn0
  have HS1 := Lib.hid hsz1
  have c1 := hLB.c1
  rw [hn0] at c1
  have hbt1 := hLB.lt
  have v1 : IntKind.i64.wrap ((at_ : Int) + (n : Int)) = (at_ : Int) + (n : Int) := by rw [IntKind.wrap_i64]; omega
  have HANN : Hid (((at_ + n : Nat) : Int) = (at_ : Int) + (n : Int)) := by show _ = _; omega
  clear e1 e2 e3 e4 e5 g1 g2 g5 hab hf1 hval hLB hws hfi1 hfi2 hff htt tk dr hTG hNF hNw hw1 hn0 hsz1 hcnt h hin hrd hTGc hK hXF hXT
  go_enter Try.func44, Try.ntmps44
  go_upto_region 1 with fail
  rw [HW1.out]
  go_wp2_with fail
  refine HFI1.out.mono ?_
  rintro e w2 ⟨rfl, hb2⟩
  have HB2 := Lib.hid hb2
  clear hb2
  go_wp2_with fail
  rw [← HANN.out]
  refine (HFI2.out w2 HB2.out).mono ?_
  rintro e w3 ⟨rfl, hb3⟩
  have HB3 : Hid (Below w1.heap.size w1 w3) := HB2.out.trans (hb3.mono HB2.out.size)
  clear hb3 HB2
  have W3' : Hid (WS w1 N TG ((lists (ps.take f)).flatten ++ XF.take hh) (XT.drop l ++ (lists (ps.drop (t + 1))).flatten) w3 wa wn wc) := by
    obtain ⟨ws, q1, q2, q3, q4, q5⟩ := W0.out
    exact ⟨ws, Rc.below q1 HB3.out, q2, q3, q4, HB3.out⟩
  clear W0
  go_upto_if 38 with fail
  go_cut [3, 10] (fun v3 v10 wx => ∃ xa xn xc t', v3 = .slice xa xn xc ∧ v10 = .int .i64 (t' : Nat) ∧ f < t' ∧ t' ≤ n0 ∧ Hid (WS w1 N TG ((lists (ps.take f)).flatten ++ XF.take hh) (lists (ps.drop t')).flatten wx xa xn xc))
  case first =>
    by_cases hl : 0 < l
    · have htn : t < n0 := by
        by_cases e : t < n0
        · exact e
        · have := sp2.2.2.2 (by omega); omega
      obtain ⟨p, hp⟩ : ∃ p, ps[t]? = some p := ⟨_, List.getElem?_eq_getElem (by have := HN0.out; omega)⟩
      obtain ⟨b, off, rfl, hbl, d0, d1, hrd, hsm⟩ := HLB.out.get HB3.out hp
      have hlp := sp2.2.2.1 htn
      have eXT := HXT.out p hp
      rw [eXT] at hlp W3'
      obtain ⟨rb, ro, hra, hrc, hrd2⟩ := rdN_from hrd hlp
      have hcat := WS.behind W3'.out (fun k hk => HNW.out k (by have := HS1.out; omega)) hrd2 hTGl
      have hws := W3'.out.len
      obtain ⟨⟨ra, rc⟩, ls⟩ := p
      simp only at d0 d1 hsm hlp hra hrc hcat hrd
      subst hra
      have hrcb : rc ≤ 9223372036854775807 := by have := hrd.2.2.1; unfold maxLen at this; omega
      have hlsc : ls.length ≤ rc := hrd.2.1
      obtain ⟨x, hx⟩ : ∃ x, ls.length = x := ⟨_, rfl⟩
      rw [hx] at d0 hlp hcat hsm hlsc
      have c3 : w3.cell? ⟨bt, 1, none⟩ = some (.slice (some ⟨b, off, none⟩) n0 c) := (HB3.out.cell (p := ⟨bt, 1, none⟩) hbt1).trans c1
      have hbt3 : bt < w3.heap.size := by have := HB3.out.size; omega
      have hb3 : b < w3.heap.size := by have := HB3.out.size; omega
      have HCAT := Lib.hid hcat
      have hlt' : f < t + 1 := by omega
      have htb : t + 1 ≤ n0 := by omega
      clear hcat hrd hrd2 hp hx d1 sp1 sp2 hlt hws eXT
      go_wp2_with (go_at_call 62; refine HCAT.out.mono ?_; rintro e w4 ⟨a', c', rfl, hws⟩)
      go_meet
      exact ⟨_, _, _, t + 1, rfl, by go_num, hlt', htb, hws⟩
    · have hl0 : l = 0 := by omega
      subst hl0
      have hlt' : f < t := by omega
      have htb := sp2.1
      have W4 : Hid (WS w1 N TG ((lists (ps.take f)).flatten ++ XF.take hh) (lists (ps.drop t)).flatten w3 wa wn wc) := by
        have e : XT.drop 0 ++ (lists (ps.drop (t + 1))).flatten = (lists (ps.drop t)).flatten := by rw [List.drop_zero]; exact HXT0.out
        rw [e] at W3'
        exact W3'
      clear W3' sp1 sp2 hlt
      go_wp2_with fail
      go_meet
      exact ⟨_, _, _, t, rfl, rfl, hlt', htb, W4⟩
  case rest =>
    obtain ⟨xa, xn, xc, t', rfl, rfl, hft, htn, hws⟩ := hcut
    clear W3' HB3 sp2 hlt
    have HBW := Lib.hid (show Below w1.heap.size w1 wc by obtain ⟨_, _, _, _, _, hb⟩ := hws.out; exact hb)
    go_upto_if 55 with fail
    go_cut [3] (fun v3 wx => ∃ xa xn xc, v3 = .slice xa xn xc ∧ Hid (WS w1 N TG (lists (ps.take f)).flatten (lists (ps.drop t')).flatten wx xa xn xc))
    case first =>
      by_cases hh0 : 0 < hh
      · have hfn : f < n0 := by omega
        obtain ⟨p, hp⟩ : ∃ p, ps[f]? = some p := ⟨_, List.getElem?_eq_getElem (by have := HN0.out; omega)⟩
        obtain ⟨b, off, rfl, hbl, d0, d1, hrd, hsm⟩ := HLB.out.get HBW.out hp
        have hlp := sp1.2.2.1 hfn
        have eXF := HXF.out p hp
        rw [eXF] at hlp hws
        have hrd2 := hrd.take hh (by omega)
        have hcat := WS.ahead hws.out (fun k hk => HNW.out k (by have := HS1.out; omega)) hrd2 hTGl
        have hwl := hws.out.len
        obtain ⟨⟨ra, rc⟩, ls⟩ := p
        simp only at d0 d1 hsm hlp hcat hrd
        have hrcb : rc ≤ 9223372036854775807 := by have := hrd.2.2.1; unfold maxLen at this; omega
        have hlsc : ls.length ≤ rc := hrd.2.1
        obtain ⟨x, hx⟩ : ∃ x, ls.length = x := ⟨_, rfl⟩
        rw [hx] at d0 hlp hsm hlsc
        have c3 : wc.cell? ⟨bt, 1, none⟩ = some (.slice (some ⟨b, off, none⟩) n0 c) := (HBW.out.cell (p := ⟨bt, 1, none⟩) hbt1).trans c1
        have hbt3 : bt < wc.heap.size := by have := HBW.out.size; omega
        have hb3 : b < wc.heap.size := by have := HBW.out.size; omega
        have HCAT := Lib.hid hcat
        clear hcat hrd hrd2 hp hx d1 sp1 hws eXF
        go_wp2_with (go_at_call 62; refine HCAT.out.mono ?_; rintro e w4 ⟨a', c', rfl, hws⟩)
        go_meet
        exact ⟨_, _, _, rfl, hws⟩
      · have hh00 : hh = 0 := by omega
        subst hh00
        rw [List.take_zero, List.append_nil] at hws
        clear sp1
        go_wp2_with fail
        go_meet
        exact ⟨_, _, _, rfl, hws⟩
    case rest =>
      obtain ⟨xa, xn, xc, rfl, hws2⟩ := hcut
      clear hws HBW sp1
      go_wp2_with fail
      go_loopw [3, 10] (fun v3 v10 wr => ∃ xa xn xc t', v3 = .slice xa xn xc ∧ v10 = .int .i64 (t' : Nat) ∧ f < t' ∧ t' ≤ n0 ∧ Hid (WS w1 N TG (lists (ps.take f)).flatten (lists (ps.drop t')).flatten wr xa xn xc)) (fun _ v10 _ => n0 - (intOf v10).toNat)
      case atStart => exact ⟨_, _, _, t', rfl, rfl, hft, htn, hws2⟩
      case round =>
        obtain ⟨xa, xn, xc, t', rfl, rfl, hft, htn, hws⟩ := hrel
        have HBW := Lib.hid (show Below w1.heap.size w1 wr by obtain ⟨_, _, _, _, _, hb⟩ := hws.out; exact hb)
        have c3 : wr.cell? ⟨bt, 1, none⟩ = some (.slice a n0 c) := (HBW.out.cell (p := ⟨bt, 1, none⟩) hbt1).trans c1
        have hbt3 : bt < wr.heap.size := by have := HBW.out.size; omega
        have hwl := hws.out.len
        have hxn : xn ≤ 1048576 := by omega
        clear hws2
        by_cases hgo : ∃ p, ps[t']? = some p ∧ xn + p.2.length ≤ 256
        · obtain ⟨p, hp, h256⟩ := hgo
          have htn' : t' < n0 := by have := (List.getElem?_eq_some_iff.1 hp).1; have := HN0.out; omega
          obtain ⟨b, off, rfl, hbl, d0, d1, hrd, hsm⟩ := HLB.out.get HBW.out hp
          have hfa : (lists (ps.drop t')).flatten = p.2 ++ (lists (ps.drop (t' + 1))).flatten := by
            have := flat_at (lists_at hp)
            simpa [lists] using this
          rw [hfa] at hws
          have hcat := WS.behind hws.out (fun k hk => HNW.out k (by have := HS1.out; omega)) hrd hTGl
          obtain ⟨⟨ra, rc⟩, ls⟩ := p
          simp only at d0 d1 hsm hcat hrd h256
          obtain ⟨x, hx⟩ : ∃ x, ls.length = x := ⟨_, rfl⟩
          rw [hx] at d0 hsm hcat h256
          have hb3 : b < wr.heap.size := by have := HBW.out.size; omega
          have HCAT := Lib.hid hcat
          clear hcat hrd hp hx d1 hws hfa
          go_wp2_with (go_at_call 62; refine HCAT.out.mono ?_; rintro e w4 ⟨a', c', rfl, hws⟩)
          go_roundw
          case rel => exact ⟨_, _, _, t' + 1, rfl, by go_num, by omega, by omega, hws⟩
          case measure => simp [intOf]; omega
        · go_upto_region 8 with fail
          go_cut [90] (fun v90 wx => v90 = .bool false ∧ wx = wr)
          case first =>
            by_cases htn' : t' < n0
            · obtain ⟨p, hp⟩ : ∃ p, ps[t']? = some p := ⟨_, List.getElem?_eq_getElem (by have := HN0.out; omega)⟩
              have h256 : ¬ (xn + p.2.length ≤ 256) := fun h => hgo ⟨p, hp, h⟩
              obtain ⟨b, off, rfl, hbl, d0, d1, hrd, hsm⟩ := HLB.out.get HBW.out hp
              obtain ⟨⟨ra, rc⟩, ls⟩ := p
              simp only at d0 d1 hsm hrd h256
              obtain ⟨x, hx⟩ : ∃ x, ls.length = x := ⟨_, rfl⟩
              rw [hx] at d0 hsm h256
              have hb3 : b < wr.heap.size := by have := HBW.out.size; omega
              have h256' : ¬ ((xn : Int) + (x : Int) ≤ 256) := by omega
              clear hrd hp hx d1 hws hgo
              go_wp2_with fail
              go_meet
              exact ⟨by simp, rfl⟩
            · have hlt' : ¬ ((t' : Int) < (n0 : Int)) := by omega
              clear hws hgo
              go_wp2_with fail
              go_meet
              exact ⟨by simp, rfl⟩
          case rest =>
            obtain ⟨rfl, rfl⟩ := hcut
            clear hgo c3 hbt3 HBW
            go_wp2_with fail
            go_loopw [3, 8] (fun v3 v8 wr => ∃ xa xn xc f', v3 = .slice xa xn xc ∧ v8 = .int .i64 (f' : Nat) ∧ f' < t' ∧ Hid (WS w1 N TG (lists (ps.take f')).flatten (lists (ps.drop t')).flatten wr xa xn xc)) (fun _ v8 _ => (intOf v8).toNat)
            case atStart => exact ⟨_, _, _, f, rfl, rfl, hft, hws⟩
            case round =>
              obtain ⟨ya, yn, yc, f', rfl, rfl, hft', hws3⟩ := hrel
              clear hws
              have HBW := Lib.hid (show Below w1.heap.size w1 wr by obtain ⟨_, _, _, _, _, hb⟩ := hws3.out; exact hb)
              have c3 : wr.cell? ⟨bt, 1, none⟩ = some (.slice a n0 c) := (HBW.out.cell (p := ⟨bt, 1, none⟩) hbt1).trans c1
              have hbt3 : bt < wr.heap.size := by have := HBW.out.size; omega
              have hyl := hws3.out.len
              have hyn : yn ≤ 1048576 := by omega
              by_cases hgo : ∃ k p, f' = k + 1 ∧ ps[k]? = some p ∧ yn + p.2.length ≤ 256
              · obtain ⟨k, p, rfl, hp, h256⟩ := hgo
                obtain ⟨b, off, rfl, hbl, d0, d1, hrd, hsm⟩ := HLB.out.get HBW.out hp
                have hfa : (lists (ps.take (k + 1))).flatten = (lists (ps.take k)).flatten ++ p.2 := by
                  have := flat_succ (lists_at hp)
                  simpa [lists] using this
                rw [hfa] at hws3
                have hcat := WS.ahead hws3.out (fun k hk => HNW.out k (by have := HS1.out; omega)) hrd hTGl
                obtain ⟨⟨ra, rc⟩, ls⟩ := p
                simp only at d0 d1 hsm hcat hrd h256
                obtain ⟨x, hx⟩ : ∃ x, ls.length = x := ⟨_, rfl⟩
                rw [hx] at d0 hsm hcat h256
                have hb3 : b < wr.heap.size := by have := HBW.out.size; omega
                have HCAT := Lib.hid hcat
                clear hcat hrd hp hx d1 hws3 hfa
                go_wp2_with (go_at_call 62; refine HCAT.out.mono ?_; rintro e w4 ⟨a', c', rfl, hws4⟩)
                go_roundw
                case rel => exact ⟨_, _, _, k, rfl, by go_num, by omega, hws4⟩
                case measure => simp [intOf]
              · go_upto_region 11 with fail
                go_cut [121] (fun v121 wx => v121 = .bool false ∧ wx = wr)
                case first =>
                  by_cases hf0 : 0 < f'
                  · obtain ⟨k, rfl⟩ : ∃ k, f' = k + 1 := ⟨f' - 1, by omega⟩
                    obtain ⟨p, hp⟩ : ∃ p, ps[k]? = some p := ⟨_, List.getElem?_eq_getElem (by have := HN0.out; omega)⟩
                    have h256 : ¬ (yn + p.2.length ≤ 256) := fun h => hgo ⟨k, p, rfl, hp, h⟩
                    obtain ⟨b, off, rfl, hbl, d0, d1, hrd, hsm⟩ := HLB.out.get HBW.out hp
                    obtain ⟨⟨ra, rc⟩, ls⟩ := p
                    simp only at d0 d1 hsm hrd h256
                    obtain ⟨x, hx⟩ : ∃ x, ls.length = x := ⟨_, rfl⟩
                    rw [hx] at d0 hsm h256
                    have hb3 : b < wr.heap.size := by have := HBW.out.size; omega
                    have h256' : ¬ ((yn : Int) + (x : Int) ≤ 256) := by omega
                    clear hrd hp hx d1 hws3 hgo
                    go_wp2_with fail
                    go_meet
                    exact ⟨by simp, rfl⟩
                  · obtain rfl : f' = 0 := by omega
                    clear hws3 hgo
                    go_wp2_with fail
                    go_meet
                    exact ⟨by simp, rfl⟩
                case rest =>
                  obtain ⟨rfl, rfl⟩ := hcut
                  clear hgo
                  go_wp2_with fail
                  clear c3 hbt3
                  obtain ⟨ws5, hrd5, hin5, h05, hTG5, hb5⟩ := hws3.out
                  have hsum5 : ws5.sum ≤ 1048576 := by
                    rw [← hTG5, sizeN_append, sizeN_append, sizeN_sum ws5] at hsz
                    omega
                  obtain ⟨yb, yo, rfl, hybl, _⟩ := hrd5.at_ h05
                  have hyB : N yb := hin5 h05 _ rfl
                  have hSW := HBW.out.size
                  have HBLK : Hid (∀ W, Below wc.heap.size wc W → Calls Try.prog 64 #[.slice (some ⟨yb, yo, none⟩) yn yc] W fun e w2 => ∃ gv M, e = .returned (.slice (some ⟨gv, 0, none⟩) M M) ∧ w2.cell? ⟨bt, 1, none⟩ = some (.slice a n0 c) ∧ bt < w2.heap.size ∧
                      Hid (∃ qs, Below wc.heap.size wc w2 ∧ 0 < M ∧ M ≤ yn ∧ wc.heap.size ≤ gv ∧ w2.ownsRow 0 92 2 (.slice (some ⟨gv, 0, none⟩) M M) M (flatB qs) ∧ BlkOk N w2 qs ∧ (lists qs).flatten = ws5)) := by
                    intro W hW
                    refine (blocksOf_any N yb yo yn yc ws5 W (Rc.below hrd5 hW) hyB h05 (by omega) (by unfold lim; omega)).mono ?_
                    rintro e w2 ⟨M, qs, rfl, m1, m2, m3, m4, m5, m6⟩
                    have hbb : Below wc.heap.size wc w2 := hW.trans (m6.mono hW.size)
                    have hb1 := hb5.trans (hbb.mono hb5.size)
                    exact ⟨_, M, rfl, (hb1.cell (p := ⟨bt, 1, none⟩) hbt1).trans c1, by have := hb1.size; omega, qs, hbb, m1, m2, hW.size, m3, m4, m5⟩
                  have HREP : Hid (∀ (W2 : World) (gv M : Nat), Hid (∃ qs, Below wc.heap.size wc W2 ∧ 0 < M ∧ M ≤ yn ∧ wc.heap.size ≤ gv ∧ W2.ownsRow 0 92 2 (.slice (some ⟨gv, 0, none⟩) M M) M (flatB qs) ∧ BlkOk N W2 qs ∧ (lists qs).flatten = ws5) →
                      Calls Try.prog 63 #[.slice a n0 c, .int .i64 (f' : Nat), .int .i64 (t' : Nat), .slice (some ⟨gv, 0, none⟩) M M] W2 fun e w3 => ∃ a' n' c', e = .returned (.slice a' n' c') ∧ w3.cell? ⟨bt, 1, none⟩ = some (.slice a n0 c) ∧ w3.frozen? ⟨bt, 1, none⟩ = false ∧ bt < w3.heap.size ∧
                        Hid (RepPost w F N bt tv TG (.returned (.tuple #[])) (w3.setCell ⟨bt, 1, none⟩ (.slice a' n' c')))) := by
                    intro W2 gv M hh
                    obtain ⟨qs, m0, m1, m2, mg, m3, m4, m5⟩ := hh.out
                    have hb1 := hb5.trans (m0.mono hb5.size)
                    have ho2 : W2.ownsRow 0 92 2 (.slice a n0 c) n0 (flatB ps) := by
                      have := HG2.out
                      rw [HN0.out] at this
                      exact own_fr this (Fr.of_below (fun _ => False) hb1) (fun _ _ h => h)
                    have hql : qs.length = M := by have := m3.1; rw [flatB_len] at this; omega
                    have hlen : (ps.take f' ++ (qs ++ ps.drop t')).length = f' + M + (n0 - t') := by
                      have := HN0.out
                      simp only [List.length_append, List.length_take, List.length_drop, hql]
                      omega
                    refine (repl_any a n0 c f' t' gv M M ps qs W2 ho2 m3 (fun e => ?_) hft' htn m1 (by omega)).mono ?_
                    · exact HNF.out gv (HNW.out gv (by have := HS1.out; omega)) (HE3.out gv (by rw [HN0.out]; exact e))
                    · intro e w3 hp
                      have hE := HEND.out f' t' wc W2 w3 qs e hb5 m0 m4 (by intro e; rw [e] at hql; simp at hql; omega) (by rw [m5]; exact hTG5) (by rw [hlen, HN0.out]; exact hp)
                      obtain ⟨a', c', q1, q2, q3, q4, q5⟩ := hE
                      rw [HN0.out] at q2
                      exact ⟨a', _, c', q1, q2, q3, q4, q5⟩
                  have c3 : wc.cell? ⟨bt, 1, none⟩ = some (.slice a n0 c) := (HBW.out.cell (p := ⟨bt, 1, none⟩) hbt1).trans c1
                  have hbt3 : bt < wc.heap.size := by have := HBW.out.size; omega
                  clear hws3 hrd5 hin5 h05 hTG5 hb5 hsum5 hybl hyB hSW
                  go_region_with (first
                    | (go_at_call 64; refine (HBLK.out _ (by first | exact Below.refl _ _ | exact (Below.refl _ _).drew)).mono ?_; rintro e w5 ⟨gv, M, rfl, c5, l5, hq⟩)
                    | (go_at_call 63; refine (HREP.out _ gv M hq).mono ?_; rintro e w6 ⟨a6, n6, c6, rfl, c7, z7, l7, hfin⟩))
                  all_goals
                    go_wp2_with fail
                    refine bodyPost_ret (results_none rfl _ _ _) rfl ?_
                    exact hfin.out
end Go.Proofs.Ytndlebopfojjeaa.U
