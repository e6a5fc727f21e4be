/-
  The document's Undo, Redo.
-/
import Derived.Test.YtalhiedbhcklgaaVROver
import Derived.Test.YtalhiedbhcklgaaVTo
import Derived.BigQuiet
namespace Go.Proofs.Ytalhiedbhcklgaa.U
open Go.RowKit
set_option linter.unusedVariables false
set_option linter.unusedSimpArgs false
set_option maxRecDepth 100000

/-- what a move of the document's tree tells -/
def RMoveR (P : Nat → Prop) (w : World) (bx : Nat) (r : Tr × Option (List Ch)) (er : Int) (e : Ending) (w' : World) : Prop :=
  match r.2 with
  | none => e = .returned (.tuple #[.slice none 0 0, .int .i64 er]) ∧ RTreeA P w bx r.1 w'
  | some cs => ∃ (a : Option Addr) (m c : Nat), e = .returned (.tuple #[.slice a m c, .int .i64 0]) ∧ m = cs.length ∧ (∃ G, RdCs G w' a m c cs) ∧ RTreeA P w bx r.1 w'
theorem rif_move {P : Nat → Prop} {w : World} {bx : Nat} {p : Prop} [Decidable p] {a b : Tr × Option (List Ch)} {er : Int} {e : Ending} {w' : World} (h : (p → RMoveR P w bx a er e w') ∧ (¬ p → RMoveR P w bx b er e w')) : RMoveR P w bx (if p then a else b) er e w' := by
  by_cases hp : p
  · rw [if_pos hp]; exact h.1 hp
  · rw [if_neg hp]; exact h.2 hp
set_option maxHeartbeats 2000000 in
theorem rundo_any {P F : Nat → Prop} {w : World} {bx : Nat} {t : Tr} (h : TreeR P F w bx t) (hok : t.Ok) (hl : t.Lim) (hle : t.end_.Lim) :
    Calls Try.prog 28 #[.pointer (some ⟨bx, 0, none⟩)] w fun e w' => RMoveR P w bx t.undo 31 e w' := by
  have hE := rend_any h hok.1 hl.2.1
  have hek := Tr.end_ok hok
  unfold Tr.undo
  obtain ⟨u, hu⟩ : ∃ u, t.end_ = u := ⟨_, rfl⟩
  rw [hu] at hE hek hle ⊢
  clear hu h hok hl
  by_cases h0 : u.here = 0
  · rw [if_pos h0]
    have HE := Lib.hid hE
    have HH := Lib.hid h0
    clear hE hek hle h0
    go_enter Try.func28, Try.ntmps28
    go_wp2_with fail
    refine HE.out.mono ?_
    rintro e w1 ⟨rfl, hA⟩
    have HR : Hid (RMoveR P w bx (u, none) 31 (.returned (.tuple #[.slice none 0 0, .int .i64 31])) w1) := ⟨rfl, hA⟩
    obtain ⟨P', F', hT, hf, hP⟩ := hA
    obtain ⟨-, -, -, -, -, c1, -, -, -, -, -, -, bl⟩ := hT.cells
    rw [HH.out] at c1
    clear hT hf hP HE
    go_wp2_with fail
    go_ret2
    exact HR.out
  · rw [if_neg h0]
    have HE : Hid (Calls Try.prog 26 #[.pointer (some ⟨bx, 0, none⟩)] w fun e w1 => e = .returned (.tuple #[]) ∧ ∃ P' F', TreeR P' F' w1 bx u ∧ (fun (P' F' : Nat → Prop) (w1 : World) => Fr P w w1 ∧ ∀ k, P' k → P k ∨ w.heap.size ≤ k) P' F' w1) := by
      refine hE.mono ?_
      rintro e w1 ⟨rfl, P', F', a1, a2, a3⟩
      exact ⟨rfl, P', F', a1, a2, a3⟩
    refine (rundo_from HE hek hle h0).mono ?_
    rintro e w' ⟨a, m, c, P', F', w1, rfl, rfl, a1, ⟨a2, a3⟩, a4, a5, a6⟩
    refine ⟨a, _, c, rfl, by simp [backC], ⟨_, a6.rd⟩, P', F', a5, a2.trans a4 (fun k hk hp => ?_), a3⟩
    rcases a3 k hp with h | h
    · exact h
    · omega

/-- changes, copied one behind the other -/
theorem my_twin {s k rc : Nat} {wr : World} {ra : Option Addr} {D : List Ch} {F : Nat → Prop} {oa na : Option Addr} {oc nc : Nat} {x : Ch} (h : MyCs s wr ra k rc D) (hs : s ≤ wr.heap.size) (hok : OkC x) (hk : k ≤ 1099511627776) (ho : RdL F wr oa x.old.length oc x.old) (hn : RdL F wr na x.now.length nc x.now) :
    Calls Try.prog 12 #[.agg #[.int .i64 x.pos, .slice oa x.old.length oc, .slice na x.now.length nc]] wr fun e w1 => ∃ pa pc qa qc, e = .returned (.agg #[.int .i64 x.pos, .slice pa x.old.length pc, .slice qa x.now.length qc]) ∧
      ∃ a' c' w', Hid (∀ ty, (Builtin.append_ #[41, 41] ty #[.slice ra k rc, .slice (some ⟨w1.heap.size, 0, none⟩) 1 1]).run Try.prog (w1.alloc (.cells #[.int .i64 x.pos, .slice pa x.old.length pc, .slice qa x.now.length qc] 24)) = .ok (.slice a' (k + 1) c') w') ∧ Hid (MyCs s w' a' (k + 1) c' (D ++ [x]) ∧ Below s wr w') := by
  refine (rtwinC_any F oa na oc nc x wr ho hn hok).mono ?_
  intro e w1 hp
  obtain ⟨pa, pc, qa, qc, rfl, a', c', w', g1, g2, g3⟩ := my_cop h hs hok hk hp
  exact ⟨pa, pc, qa, qc, rfl, a', c', w', g1, g2, g3⟩
theorem take_snocC {L : List Ch} {k : Nat} {x : Ch} (h : L[k]? = some x) : L.take (k + 1) = L.take k ++ [x] := by
  rw [List.take_add_one, h]
  rfl
theorem Tr.last_step (t : Tr) (j : Nat) : t.last (j + 1) = if t.up (j + 1) = t.here then j + 1 else t.last j := rfl

set_option maxHeartbeats 8000000 in
theorem rredo_any {P F : Nat → Prop} {w : World} {bx : Nat} {t : Tr} (h : TreeR P F w bx t) (hok : t.Ok) (hl : t.Lim) (hle : t.end_.Lim) :
    Calls Try.prog 30 #[.pointer (some ⟨bx, 0, none⟩)] w fun e w' => RMoveR P w bx t.redo 31 e w' := by
  have HE := Lib.hid (rend_any h hok.1 hl.2.1)
  have hek := Tr.end_ok hok
  unfold Tr.redo
  obtain ⟨u, hu⟩ : ∃ u, t.end_ = u := ⟨_, rfl⟩
  rw [hu] at HE hek hle ⊢
  clear hu h hok hl
  obtain ⟨R, hR⟩ : ∃ R, (if u.last u.nodes.length = 0 then (u, none) else ({ u with here := u.last u.nodes.length }, some (u.chs (u.last u.nodes.length)))) = R := ⟨_, rfl⟩
  rw [hR]
  have HRR := Lib.hid hR
  have HOK := Lib.hid hek
  have HLM := Lib.hid hle
  have hl4 := hek.1
  obtain ⟨len, hlen⟩ : ∃ l, u.nodes.length = l := ⟨_, rfl⟩
  have HLEN := Lib.hid hlen
  rw [hlen] at hl4
  clear hR hek hle hlen
  go_enter Try.func30, Try.ntmps30
  go_wp2_with fail
  refine HE.out.mono ?_
  rintro e w1 ⟨rfl, P', F', hT, hf, hP⟩
  obtain ⟨na0, nc0, -, -, c0, c1, -, -, -, z1, -, -, bl⟩ := hT.cells
  rw [HLEN.out] at c0
  have HT := Lib.hid hT
  have HF := Lib.hid hf
  have HP := Lib.hid hP
  clear HE hT hf hP
  go_wp2_with fail
  go_loopw [4] (fun v4 wr => ∃ i : Nat, v4 = .int .i64 (i : Nat) ∧ i ≤ len ∧ Hid (Below w1.heap.size w1 wr ∧ u.last len = u.last i)) (fun v4 _ => (intOf v4).toNat)
  case atStart => exact ⟨len, rfl, Nat.le_refl _, Below.refl _ _, rfl⟩
  case round =>
    obtain ⟨i, rfl, hi, hst⟩ := hrel
    obtain ⟨hb1, hlast⟩ := hst.out
    clear c0 c1 z1 bl
    by_cases hi1 : (1 : Int) ≤ (i : Int)
    · have HTw := Lib.hid (HT.out.below hb1)
      obtain ⟨g, nc, a, c, q0, q1, q2, -, -⟩ := HTw.out.node (Below.refl _ wr) (i := i) (by omega) (by have := HLEN.out; omega)
      obtain ⟨-, -, -, -, -, c1, -, -, -, -, -, -, bl⟩ := HTw.out.cells
      rw [HLEN.out] at q0
      obtain ⟨k, hk⟩ : ∃ k, i - 1 = k := ⟨_, rfl⟩
      have hik : i = k + 1 := by omega
      have HIK := Lib.hid hik
      rw [hk] at q2
      obtain ⟨h, hh⟩ : ∃ h, u.here = h := ⟨_, rfl⟩
      have HH := Lib.hid hh
      rw [hh] at c1
      obtain ⟨up, hupe⟩ : ∃ v, u.up i = v := ⟨_, rfl⟩
      have HUPE := Lib.hid hupe
      rw [hupe] at q2
      have HB1 := Lib.hid hb1
      have HLA := Lib.hid hlast
      have hkl : k < len := by omega
      have y1 : IntKind.i64.wrap ((i : Int) - 1) = (k : Int) := by rw [IntKind.wrap_i64]; omega
      have y2 : (i : Int) - 1 = (k : Int) := by omega
      have y3 : IntKind.i64.wrap (k : Int) = (k : Int) := by rw [IntKind.wrap_i64]; omega
      have hk0 : (0 : Int) ≤ (k : Int) := by omega
      have hk1 : (k : Int) < (len : Int) := by omega
      clear hh hupe hb1 hlast hst hk hik
      obtain ⟨wq, hwq⟩ : ∃ x, x = wr := ⟨_, rfl⟩
      subst hwq
      by_cases huh : (up : Int) = (h : Int)
      · have hu1 : ((up : Int) == (h : Int)) = true := by simpa using huh
        have HLAST : Hid (R = ({ u with here := i }, some (u.chs i))) := by
          show _ = _
          have h1 := HLA.out
          rw [HIK.out, Tr.last_step, ← HIK.out, if_pos (by have := HUPE.out; have := HH.out; omega)] at h1
          rw [← HRR.out, HLEN.out, h1, if_neg (by omega)]
        clear huh HLA
        go_upto_region 5 with fail
        go_cut [31] (fun v31 wx => v31 = .bool true ∧ Hid (Below wq.heap.size wq wx))
        case first =>
          go_quiet (fail)
          go_wp2_with fail
          go_meet
          exact ⟨rfl, bdrewN (Below.refl _ _) _⟩
        case rest =>
          obtain ⟨rfl, hbc⟩ := hcut
          have HTc := Lib.hid (HTw.out.below hbc.out)
          obtain ⟨w2, hw2⟩ : ∃ w2, wc.setCell ⟨bx, 1, none⟩ (.int .i64 (i : Nat)) = w2 := ⟨_, rfl⟩
          have hT2 : TreeR P' F' w2 bx { u with here := i } := by rw [← hw2]; exact HTc.out.setHere i
          have hF2 : Fr P' w1 w2 := by rw [← hw2]; exact (((Fr.of_below P' HB1.out).trans (Fr.of_below P' hbc.out) (fun _ _ h => h))).setCell ⟨bx, 1, none⟩ _ (fun _ => HT.out.inP)
          obtain ⟨-, -, -, -, -, c1', -, -, -, z1', -, -, bl'⟩ := HTc.out.cells
          have HT2 := Lib.hid hT2
          have HF2 := Lib.hid hF2
          have HW2 := Lib.hid hw2
          have HM0 : Hid (MyCs w2.heap.size w2 none 0 0 ((u.chs i).take 0) ∧ Below w2.heap.size w2 w2) := ⟨by rw [List.take_zero]; exact MyCs.nil _ _, Below.refl _ _⟩
          have HG := Lib.hid (Tr.chs_ok HLM.out (i := i) (by omega) (by have := HLEN.out; omega))
          obtain ⟨m, hm⟩ : ∃ m, (u.chs i).length = m := ⟨_, rfl⟩
          have HM := Lib.hid hm
          have hm20 : m ≤ 1048576 := by rw [← hm]; exact HG.out.1
          clear hT2 hF2 hw2 q0 q1 q2 c1 bl hm
          go_upto_region 7 with fail
          try rw [HW2.out]
          clear c1' z1' bl'
          go_wp2_with fail
          go_loopw [5, 6] (fun v5 v6 wr => ∃ (j : Nat) (la : Option Addr) (lc : Nat), v6 = .int .i64 (j : Nat) ∧ v5 = .slice la j lc ∧ j ≤ m ∧ Hid (MyCs w2.heap.size wr la j lc ((u.chs i).take j) ∧ Below w2.heap.size w2 wr)) (fun _ v6 _ => ((m : Int) - intOf v6).toNat)
          case atStart => exact ⟨0, _, _, rfl, rfl, Nat.zero_le _, HM0⟩
          case round =>
            obtain ⟨j, la, lc, rfl, rfl, hj, hmy⟩ := hrel
            obtain ⟨hm1, hm2⟩ := hmy.out
            obtain ⟨g, nc, a, c, q0, q1, -, q3, q4⟩ := HT2.out.node hm2 (i := i) (by omega) (by have := HLEN.out; simp only; omega)
            have e1 : Tr.chs { u with here := i } i = u.chs i := rfl
            rw [e1] at q3 q4
            rw [HM.out] at q3 q4
            rw [show i - 1 = k by have := HIK.out; omega] at q3
            have e2 : ({ u with here := i } : Tr).nodes.length = len := HLEN.out
            rw [e2] at q0
            have hs2 := hm2.size
            have bl2 : bx < wr.heap.size := by have := HT2.out.lt bx HT2.out.inP; omega
            have gl2 : g < wr.heap.size := by omega
            by_cases hlt : (j : Int) < (m : Int)
            · obtain ⟨x, hx⟩ : ∃ x, (u.chs i)[j]? = some x := ⟨_, List.getElem?_eq_getElem (by have := HM.out; omega)⟩
              obtain ⟨b', off, oa, oc, na, nc', rfl, hbl, d0, d1, d2, r1, r2⟩ := q4.get (Below.refl _ wr) hx
              have hok := HG.out.2 x (List.mem_of_getElem? hx)
              have hTW := my_twin hm1 hs2 hok (by omega) r1 r2
              rw [← take_snocC hx] at hTW
              have HTW : Hid (Calls Try.prog 12 #[.agg #[.int .i64 x.pos, .slice oa x.old.length oc, .slice na x.now.length nc']] wr fun e w1 => ∃ pa pc qa qc, e = .returned (.agg #[.int .i64 x.pos, .slice pa x.old.length pc, .slice qa x.now.length qc]) ∧
                  ∃ a' c' w', Hid (∀ ty, (Builtin.append_ #[41, 41] ty #[.slice la j lc, .slice (some ⟨w1.heap.size, 0, none⟩) 1 1]).run Try.prog (w1.alloc (.cells #[.int .i64 x.pos, .slice pa x.old.length pc, .slice qa x.now.length qc] 24)) = .ok (.slice a' (j + 1) c') w') ∧ Hid (MyCs w2.heap.size w' a' (j + 1) c' ((u.chs i).take (j + 1)) ∧ Below w2.heap.size w2 w')) := by
                refine hTW.mono ?_
                rintro e w' ⟨pa, pc, qa, qc, rfl, a', c', w'', g1, g2, g3⟩
                exact ⟨pa, pc, qa, qc, rfl, a', c', w'', g1, g2, hm2.trans g3⟩
              obtain ⟨z1, e1⟩ : ∃ z, x.old.length = z := ⟨_, rfl⟩
              obtain ⟨z2, e2⟩ : ∃ z, x.now.length = z := ⟨_, rfl⟩
              obtain ⟨p1, e5⟩ : ∃ z, x.pos = z := ⟨_, rfl⟩
              rw [e1, e2, e5] at HTW
              rw [e5] at d0
              rw [e1] at d1
              rw [e2] at d2
              clear hmy hm1 hm2 hTW hok r1 r2 hx q4 e1 e2 e5
              go_wp2_with fail
              refine HTW.out.mono ?_
              rintro e w3 ⟨pa, pc, qa, qc, rfl, a', c', w', HRUN, HN⟩
              clear HTW
              go_wp2_with (at_builtin; go_must (with_reducible refine Lib.wpList_append_run _ rfl (.tmp 50) (.tmp 64) _ _ rfl _ _ rfl rfl _ _ (HRUN.out _) ?_))
              go_roundw
              case rel => exact ⟨j + 1, a', c', rfl, rfl, by omega, HN⟩
              case measure => first | (simp [intOf]; done) | (simp [intOf]; omega)
            · obtain rfl : j = m := by omega
              have HFIN : Hid (RMoveR P w bx R 31 (.returned (.tuple #[.slice la j lc, .int .i64 0])) wr) := by
                show RMoveR P w bx R 31 (.returned (.tuple #[.slice la j lc, .int .i64 0])) wr
                rw [HLAST.out]
                rw [List.take_of_length_le (by have := HM.out; omega)] at hm1
                refine ⟨la, j, lc, rfl, HM.out.symm, ⟨_, hm1.rd⟩, P', F', HT2.out.below hm2, ?_, HP.out⟩
                have hF := HF.out
                have hsz := hF.size
                refine (hF.trans HF2.out (fun k hk hp => ?_)).trans (Fr.of_below P hm2) (fun _ _ h => h)
                rcases HP.out k hp with h | h
                · exact h
                · omega
              clear hmy hm1 hm2 q4
              go_wp2_with fail
              go_ret2
              exact HFIN.out
      · have hu1 : ((up : Int) == (h : Int)) = false := by simpa using huh
        have HLAST : Hid (u.last len = u.last k) := by
          show _ = _
          have h1 := HLA.out
          rw [HIK.out, Tr.last_step, ← HIK.out, if_neg (by have := HUPE.out; have := HH.out; omega)] at h1
          exact h1
        clear huh HLA
        go_upto_region 5 with fail
        go_cut [31] (fun v31 wx => v31 = .bool false ∧ Hid (Below wq.heap.size wq wx))
        case first =>
          go_quiet (fail)
          go_wp2_with fail
          go_meet
          exact ⟨rfl, bdrewN (Below.refl _ _) _⟩
        case rest =>
          obtain ⟨rfl, hbc⟩ := hcut
          have HBN : Hid (Below w1.heap.size w1 wc) := HB1.out.trans (hbc.out.mono HB1.out.size)
          clear q0 q1 q2 c1 bl
          go_wp2_with fail
          go_roundw
          case rel => exact ⟨k, rfl, by omega, HBN.out, HLAST.out⟩
          case measure => first | (simp [intOf]; done) | (simp [intOf]; omega)
    · obtain rfl : i = 0 := by omega
      have HFIN : Hid (RMoveR P w bx R 31 (.returned (.tuple #[.slice none 0 0, .int .i64 31])) wr) := by
        show RMoveR P w bx R 31 _ wr
        rw [← HRR.out, HLEN.out]
        have : u.last len = 0 := hlast
        rw [if_pos this]
        refine ⟨rfl, P', F', HT.out.below hb1, HF.out.trans (Fr.of_below P hb1) (fun _ _ h => h), HP.out⟩
      clear hst hb1 hlast
      go_wp2_with fail
      go_ret2
      exact HFIN.out
end Go.Proofs.Ytalhiedbhcklgaa.U
