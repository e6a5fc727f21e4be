/-
  The document's To.
-/
import Derived.Test.YtalhiedbhcklgaaVRRedo
namespace Go.Proofs.Ytalhiedbhcklgaa.U
open Go.RowKit
set_option linter.unusedVariables false
set_option linter.unusedSimpArgs false
set_option maxRecDepth 100000

theorem Tr.over_same {t t' : Tr} (h : t.nodes = t'.nodes) (u : Nat) : ∀ (f n : Nat), t.over u f n = t'.over u f n
  | 0, n => rfl
  | f + 1, n => by
    have hu : t.up n = t'.up n := by unfold Tr.up; rw [h]
    unfold Tr.over
    rw [hu, Tr.over_same h u f]
theorem here_self (t : Tr) : ({ t with here := t.here } : Tr) = t := by cases t; rfl
theorem Tr.down_self (t : Tr) (n : Nat) : t.down n n n = [] := by
  cases n with
  | zero => rfl
  | succ n => unfold Tr.down; rw [if_pos rfl]
theorem fr_of_below {s : Nat} {w w' : World} (hb : Below s w w') (hs : s ≤ w.heap.size) : Fr (fun k => s ≤ k) w w' :=
  ⟨hb.os, hb.tape, hb.output, hb.size, fun k hk hn => hb.block k (by omega)⟩
/-- where the document's tree is -/
def cellN (w : World) (bx : Nat) : Nat := match w.cell? ⟨bx, 1, none⟩ with
  | some v => (intOf v).toNat
  | none => 0
theorem TreeR.cellN {P F : Nat → Prop} {w : World} {bx : Nat} {t : Tr} (h : TreeR P F w bx t) : cellN w bx = t.here := by
  obtain ⟨-, -, -, -, -, c1, -⟩ := h.cells
  unfold U.cellN
  rw [c1]
  simp [intOf]
/-- on the way: where one is, what was told -/
def OnWay (P F : Nat → Prop) (w1 : World) (bx : Nat) (u : Tr) (h : Nat) (la : Option Addr) (lm lc : Nat) (ls : List Ch) (wr : World) : Prop :=
  TreeR P F wr bx { u with here := h } ∧ Fr P w1 wr ∧ MyCs w1.heap.size wr la lm lc ls ∧ h ≤ u.nodes.length ∧ w1.heap.size ≤ wr.heap.size
section
variable {P F : Nat → Prop} {w1 wr w' : World} {bx h lm lc : Nat} {u : Tr} {la : Option Addr} {ls : List Ch}
theorem OnWay.below (hP : ∀ k, P k → k < w1.heap.size) (h0 : OnWay P F w1 bx u h la lm lc ls wr) (hb : Below wr.heap.size wr w') : OnWay P F w1 bx u h la lm lc ls w' :=
  ⟨h0.1.below hb, h0.2.1.trans (Fr.of_below P hb) (fun _ _ h => h), h0.2.2.1.below hb, h0.2.2.2.1, Nat.le_trans h0.2.2.2.2 hb.size⟩
theorem OnWay.grow {lm' lc' : Nat} {la' : Option Addr} {ls' : List Ch} (hP : ∀ k, P k → k < w1.heap.size) (h0 : OnWay P F w1 bx u h la lm lc ls wr) (hb : Below w1.heap.size wr w') (hm : MyCs w1.heap.size w' la' lm' lc' ls') : OnWay P F w1 bx u h la' lm' lc' ls' w' := by
  have hf := fr_of_below hb h0.2.2.2.2
  exact ⟨h0.1.fr hf (fun k hk e => by have := hP k hk; omega), h0.2.1.trans hf (fun k hk e => by omega), hm, h0.2.2.2.1, Nat.le_trans h0.2.2.2.2 hb.size⟩
theorem ow_over (h0 : OnWay P F w1 bx u h la lm lc ls wr) (hok : u.Ok) (n : Nat) (hn : n ≤ u.nodes.length) :
    Calls Try.prog 48 #[.pointer (some ⟨bx, 0, none⟩), .int .i64 (n : Nat), .int .i64 (h : Nat)] wr fun e w' => e = .returned (.bool (u.over h n n)) ∧ wr = w' := by
  have := rover_any h0.1 ⟨hok.1, h0.2.2.2.1, hok.2.2⟩ n h hn h0.2.2.2.1
  rw [Tr.over_same (t := { u with here := h }) (t' := u) rfl h n n] at this
  exact this
theorem ow_undo (hP : ∀ k, P k → k < w1.heap.size) (h0 : OnWay P F w1 bx u h la lm lc ls wr) (hok : u.Ok) (hl : u.Lim) (hg : u.group = []) (ho : u.isOpen = false) (hh : h ≠ 0) (hlm : lm ≤ 549755813888) :
    Calls Try.prog 28 #[.pointer (some ⟨bx, 0, none⟩)] wr fun e w' => ∃ a m c, e = .returned (.tuple #[.slice a m c, .int .i64 0]) ∧ ∃ a' lk c' w'', Hid (∀ ty, (Builtin.append_ #[41, 41] ty #[.slice la lm lc, .slice a m c]).run Try.prog w' = .ok (.slice a' lk c') w'') ∧ Hid (OnWay P F w1 bx u (u.up h) a' lk c' (ls ++ backC (u.chs h)) w'') := by
  obtain ⟨b1, b2, b3, b4, b5⟩ := h0
  have HE : Hid (Calls Try.prog 26 #[.pointer (some ⟨bx, 0, none⟩)] wr fun e w2 => e = .returned (.tuple #[]) ∧ ∃ P' F', TreeR P' F' w2 bx { u with here := h } ∧ (fun (P' F' : Nat → Prop) (w2 : World) => P' = P ∧ F' = F ∧ Fr P wr w2 ∧ wr.heap.size = w2.heap.size) P' F' w2) := by
    refine (rend_quiet b1 hg).mono ?_
    rintro e w2 ⟨rfl, q1, q2, q3⟩
    have : ({ ({ u with here := h } : Tr) with isOpen := false } : Tr) = { u with here := h } := by simp only [ho]
    rw [this] at q1
    exact ⟨rfl, P, F, q1, rfl, rfl, q2, q3⟩
  have hchs := Tr.chs_ok hl hh b4
  refine (rundo_from HE ⟨hok.1, b4, hok.2.2⟩ hl hh).mono ?_
  rintro e w' ⟨a, m, c, P', F', w2, rfl, hm, a1, ⟨rfl, rfl, a2, a3⟩, a4, a5, a6⟩
  have hm2 : m = (u.chs h).length := hm
  have a6' : MyCs w2.heap.size w' a m c (backC (u.chs h)) := a6
  have hfw : Fr P' wr w' := a2.trans a4 (fun _ _ h => h)
  have hsz := a4.size
  have hmy := b3.fr hfw (fun k h1 h2 e => by have := hP k e; omega)
  have hlt : ∀ k, (Value.slice la lm lc).ownBlock = some k → k < wr.heap.size := by
    obtain ⟨F0, o1, o2⟩ := b3
    exact fun k e => (o1.lt k e).2
  obtain ⟨a', c', w'', hrun, hmm, hbb⟩ := my_chs hmy a6'.rd (by omega) (by have := hchs.1; omega) (fun k hk => ⟨by omega, hk.2, fun e => by have := hlt k e; omega⟩)
  have hup := Tr.up_lt hok hh b4
  refine ⟨a, m, c, rfl, a', lm + m, c', w'', hrun, ?_⟩
  have ho1 : OnWay P' F' w1 bx u (u.up h) la lm lc ls w' := ⟨a5, b2.trans hfw (fun _ _ h => h), hmy, by omega, by omega⟩
  exact ho1.grow hP hbb hmm
theorem ow_twin {G : Nat → Prop} {oa na : Option Addr} {oc nc : Nat} {x : Ch} (hP : ∀ k, P k → k < w1.heap.size) (h0 : OnWay P F w1 bx u h la lm lc ls wr) (hok : OkC x) (hlm : lm ≤ 1099511627776) (ho : RdL G wr oa x.old.length oc x.old) (hn : RdL G wr na x.now.length nc x.now) :
    Calls Try.prog 12 #[.agg #[.int .i64 x.pos, .slice oa x.old.length oc, .slice na x.now.length nc]] wr fun e w1' => ∃ pa pc qa qc, e = .returned (.agg #[.int .i64 x.pos, .slice pa x.old.length pc, .slice qa x.now.length qc]) ∧
      ∃ a' lk c' w', Hid (∀ ty, (Builtin.append_ #[41, 41] ty #[.slice la lm lc, .slice (some ⟨w1'.heap.size, 0, none⟩) 1 1]).run Try.prog (w1'.alloc (.cells #[.int .i64 x.pos, .slice pa x.old.length pc, .slice qa x.now.length qc] 24)) = .ok (.slice a' lk c') w') ∧ Hid (OnWay P F w1 bx u h a' lk c' (ls ++ [x]) w') := by
  refine (my_twin h0.2.2.1 h0.2.2.2.2 hok hlm ho hn).mono ?_
  rintro e w2 ⟨pa, pc, qa, qc, rfl, a', c', w', g1, g2, g3⟩
  exact ⟨pa, pc, qa, qc, rfl, a', lm + 1, c', w', g1, h0.grow hP g3 g2⟩
/-- a node, where one is -/
theorem OnWay.node {W : World} {k : Nat} (h0 : OnWay P F w1 bx u h la lm lc ls wr) (hb : Below wr.heap.size wr W) (hk0 : k ≠ 0) (hk : k ≤ u.nodes.length) :
    ∃ g nc a c, W.cell? ⟨bx, 0, none⟩ = some (.slice (some ⟨g, 0, none⟩) u.nodes.length nc) ∧ W.cell? ⟨bx, 1, none⟩ = some (.int .i64 (h : Nat)) ∧ W.cell? ⟨g, (k - 1) * 2, none⟩ = some (.int .i64 (u.up k : Nat)) ∧ W.cell? ⟨g, (k - 1) * 2 + 1, none⟩ = some (.slice a (u.chs k).length c) ∧ bx < W.heap.size ∧ g < W.heap.size ∧ RdCs F W a (u.chs k).length c (u.chs k) := by
  obtain ⟨g, nc, a, c, q0, q1, q2, q3, q4⟩ := h0.1.node hb hk0 hk
  obtain ⟨-, -, -, -, -, c1, -, -, -, -, -, -, bl⟩ := (h0.1.below hb).cells
  exact ⟨g, nc, a, c, q0, c1, q2, q3, bl, Nat.lt_of_lt_of_le q1 hb.size, q4⟩
end

set_option maxHeartbeats 8000000 in
theorem rto_any {P F : Nat → Prop} {w : World} {bx : Nat} {t : Tr} (h : TreeR P F w bx t) (hok : t.Ok) (hl : t.Lim) (hle : t.end_.Lim) (v : Int) :
    Calls Try.prog 32 #[.pointer (some ⟨bx, 0, none⟩), .int .i64 v] w fun e w' => RMoveR P w bx (t.goTo v) 4 e w' := by
  have HE := Lib.hid (rend_any h hok.1 hl.2.1)
  have hek := Tr.end_ok hok
  have hgr := Tr.end_group t
  have hop := Tr.end_open t
  unfold Tr.goTo
  obtain ⟨u, hu⟩ : ∃ u, t.end_ = u := ⟨_, rfl⟩
  rw [hu] at HE hek hle hgr hop ⊢
  clear hu h hok hl
  have HOK := Lib.hid hek
  have HLM := Lib.hid hle
  have HGR := Lib.hid hgr
  have HOP := Lib.hid hop
  have hl4 := hek.1
  clear hek hle hgr hop
  by_cases hv0 : v < 0
  · rw [if_pos (.inl hv0)]
    go_enter Try.func32, Try.ntmps32
    go_wp2_with fail
    refine HE.out.mono ?_
    rintro e w1 ⟨rfl, hA⟩
    have HR : Hid (RMoveR P w bx (u, none) 4 (.returned (.tuple #[.slice none 0 0, .int .i64 4])) w1) := ⟨rfl, hA⟩
    clear hA HE
    go_wp2_with fail
    go_ret2
    exact HR.out
  by_cases hv1 : (u.nodes.length : Int) < v
  · rw [if_pos (.inr hv1)]
    go_enter Try.func32, Try.ntmps32
    go_wp2_with fail
    refine HE.out.mono ?_
    rintro e w1 ⟨rfl, hA⟩
    have HR : Hid (RMoveR P w bx (u, none) 4 (.returned (.tuple #[.slice none 0 0, .int .i64 4])) w1) := ⟨rfl, hA⟩
    obtain ⟨P', F', hT, hf, hP⟩ := hA
    obtain ⟨na0, nc0, -, -, c0, -, -, -, -, -, -, -, bl⟩ := hT.cells
    clear HE hT hf hP
    go_wp2_with fail
    go_ret2
    exact HR.out
  rw [if_neg (by omega)]
  obtain ⟨n, rfl⟩ : ∃ n : Nat, v = n := ⟨v.toNat, by omega⟩
  rw [Int.toNat_natCast]
  obtain ⟨len, hlen⟩ : ∃ l, u.nodes.length = l := ⟨_, rfl⟩
  have HLEN := Lib.hid hlen
  rw [hlen] at hv1 hl4
  have hnl : n ≤ len := by omega
  obtain ⟨R, hR⟩ : ∃ R, ((({ u with here := n } : Tr), some (u.way u.here n)) : Tr × Option (List Ch)) = R := ⟨_, rfl⟩
  have HRR := Lib.hid hR
  rw [hR]
  have HWL : Hid (∀ (x y : List Ch), x ++ y = u.way u.here n → x.length ≤ 17179869184) := fun x y e => by
    have h1 := Tr.way_len HOK.out HLM.out (u.here + n) u.here n (Nat.le_refl _) HOK.out.2.1 (by have := HLEN.out; omega)
    have h2 := congrArg List.length e
    rw [List.length_append] at h2
    have := HOK.out.2.1
    have := HLEN.out
    omega
  have hd1 : decide (len < n) = false := by simp; omega
  have hd2 : decide ((n : Int) < 0) = false := by simp
  have hd3 : decide ((len : Int) < (n : Int)) = false := by simp; omega
  clear hR hlen hv0
  go_enter Try.func32, Try.ntmps32
  go_wp2_with fail
  refine HE.out.mono ?_
  rintro e w1 ⟨rfl, P', F', hT, hf, hP⟩
  obtain ⟨na0, nc0, -, -, c0, -, -, -, -, -, -, -, bl⟩ := hT.cells
  rw [HLEN.out] at c0
  have HF := Lib.hid hf
  have HP := Lib.hid hP
  have HPL := Lib.hid hT.lt
  have HST : Hid (OnWay P' F' w1 bx u u.here none 0 0 [] w1 ∧ [] ++ u.way u.here n = u.way u.here n) := ⟨⟨hT, Fr.refl _ _, MyCs.nil _ _, HOK.out.2.1, Nat.le_refl _⟩, rfl⟩
  clear HE hT hf hP
  go_wp2_with fail
  go_loopw [6] (fun v6 wr => ∃ (h : Nat) (la : Option Addr) (lm lc : Nat) (ls : List Ch), v6 = .slice la lm lc ∧ Hid (OnWay P' F' w1 bx u h la lm lc ls wr ∧ ls ++ u.way h n = u.way u.here n)) (fun _ wr => cellN wr bx)
  case atStart => exact ⟨_, _, _, _, _, rfl, HST⟩
  case round =>
    obtain ⟨h, la, lm, lc, ls, rfl, hst⟩ := hrel
    clear HST c0 bl
    obtain ⟨how, hls⟩ := hst.out
    obtain ⟨-, -, -, -, -, c1, -, -, -, -, -, -, bl⟩ := how.1.cells
    have HOV := Lib.hid (ow_over how HOK.out n (by have := HLEN.out; omega))
    have hlm := how.2.2.1.len
    have hlsl := HWL.out ls _ hls
    have hlmb : lm ≤ 17179869184 := by omega
    have hhl : h ≤ len := by have := how.2.2.2.1; have := HLEN.out; omega
    have HOW := Lib.hid how
    have HLS := Lib.hid hls
    simp only at c1
    cases hov : u.over h n n with
    | false =>
      rw [hov] at HOV
      obtain ⟨r1, r2⟩ := Tr.way_rise HOK.out (a := h) (b := n) (by have := HLEN.out; omega) (by have := HLEN.out; omega) hov
      have HU := Lib.hid (ow_undo HPL.out how HOK.out HLM.out HGR.out HOP.out r1 (by omega))
      have HN : Hid ((ls ++ backC (u.chs h)) ++ u.way (u.up h) n = u.way u.here n) := by
        show _ = _
        rw [List.append_assoc, ← r2]
        exact hls
      have hup := Tr.up_lt HOK.out r1 (by have := HLEN.out; omega)
      have HUPL := Lib.hid hup
      have HCN : Hid (cellN wr bx = h) := how.1.cellN
      clear hst how hls hlm hlsl hov r1 r2 hup
      go_wp2_with fail
      refine HOV.out.mono ?_
      rintro e w' ⟨rfl, rfl⟩
      clear HOV
      go_wp2_with fail
      refine HU.out.mono ?_
      rintro e w3 ⟨a, m, c, rfl, a', lk, c', w4, HRUN, HOW4⟩
      clear HU c1 bl
      go_wp2_with (at_builtin; go_must (with_reducible refine Lib.wpList_append_run _ rfl (.tmp 37) (.tmp 38) _ _ rfl _ _ rfl rfl _ _ (HRUN.out _) ?_))
      go_roundw
      case rel => exact ⟨_, _, _, _, _, rfl, HOW4.out, HN.out⟩
      case measure =>
        have h1 : cellN w4 bx = u.up h := HOW4.out.1.cellN
        have h2 := HCN.out
        have h3 := HUPL.out
        first | omega | (simp [h1, h2]; omega)
    | true =>
      rw [hov] at HOV
      have HST2 : Hid (OnWay P' F' w1 bx u h la lm lc ls wr ∧ u.over h n n = true ∧ ls ++ u.down h n n = u.way u.here n) := ⟨how, hov, by rw [← Tr.way_over hov]; exact hls⟩
      clear hst how hls hlm hlsl hov HOW HLS
      go_wp2_with fail
      refine HOV.out.mono ?_
      rintro e w' ⟨rfl, rfl⟩
      clear HOV c1 bl hhl hlmb
      go_wp2_with fail
      go_loopw [6] (fun v6 wr => ∃ (h : Nat) (la : Option Addr) (lm lc : Nat) (ls : List Ch), v6 = .slice la lm lc ∧ Hid (OnWay P' F' w1 bx u h la lm lc ls wr ∧ u.over h n n = true ∧ ls ++ u.down h n n = u.way u.here n)) (fun _ wr => len - cellN wr bx)
      case atStart => exact ⟨_, _, _, _, _, rfl, HST2⟩
      case round =>
        obtain ⟨h, la, lm, lc, ls, rfl, hst⟩ := hrel
        clear HST2
        obtain ⟨how, hov, hls⟩ := hst.out
        obtain ⟨-, -, -, -, -, c1, -, -, -, -, -, -, bl⟩ := how.1.cells
        simp only at c1
        have hlm := how.2.2.1.len
        have hlsl := HWL.out ls _ hls
        have hlmb : lm ≤ 17179869184 := by omega
        have hhl : h ≤ len := by have := how.2.2.2.1; have := HLEN.out; omega
        have HOW := Lib.hid how
        have HOVR := Lib.hid hov
        have HLS := Lib.hid hls
        by_cases hhn : (h : Int) = (n : Int)
        · have hh1 : ((h : Int) != (n : Int)) = false := by simpa using hhn
          have HFIN : Hid (RMoveR P w bx R 4 (.returned (.tuple #[.slice la lm lc, .int .i64 0])) wr) := by
            show RMoveR P w bx R 4 (.returned (.tuple #[.slice la lm lc, .int .i64 0])) wr
            rw [← HRR.out]
            obtain rfl : h = n := by omega
            rw [Tr.down_self, List.append_nil] at hls
            have hmy := how.2.2.1
            rw [hls] at hmy
            refine ⟨la, lm, lc, rfl, by rw [← hls]; exact hlm.symm, ⟨_, hmy.rd⟩, P', F', how.1, ?_, HP.out⟩
            have hF := HF.out
            have hsz := hF.size
            refine hF.trans how.2.1 (fun k hk hp => ?_)
            rcases HP.out k hp with h' | h'
            · exact h'
            · omega
          clear hst how hov hls hlm hlsl hhn
          go_wp2_with fail
          go_ret2
          exact HFIN.out
        · have hh1 : ((h : Int) != (n : Int)) = true := by simpa using hhn
          have HHN : Hid (¬ h = n) := fun e => hhn (by rw [e])
          have HK0 : Hid (Below wr.heap.size wr wr ∧ n ≠ h ∧ n ≤ len ∧ u.over n n n = true ∧ u.over h n n = true) := ⟨Below.refl _ _, fun e => HHN.out e.symm, hnl, Tr.over_self _ _ _, hov⟩
          have HCN : Hid (cellN wr bx = h) := how.1.cellN
          clear hst how hov hls hlm hlsl hhn
          obtain ⟨wq, hwq⟩ : ∃ x, x = wr := ⟨_, rfl⟩
          subst hwq
          go_wp2_with fail
          go_loopw [9] (fun v9 wr => ∃ k : Nat, v9 = .int .i64 (k : Nat) ∧ Hid (Below wq.heap.size wq wr ∧ k ≠ h ∧ k ≤ len ∧ u.over k n n = true ∧ u.over h k k = true)) (fun v9 _ => (intOf v9).toNat)
          case atStart => exact ⟨n, rfl, HK0⟩
          case round =>
            obtain ⟨k, rfl, hkst⟩ := hrel
            clear HK0 c1 bl
            obtain ⟨hb, hkh, hkl, hk1, hk2⟩ := hkst.out
            have hk0 : k ≠ 0 := by
              intro e
              subst e
              simp [Tr.over] at hk2
              exact hkh hk2
            obtain ⟨g, nc, a, c, q0, q1, q2, q3, bl, gl, q4⟩ := HOW.out.node hb hk0 (by have := HLEN.out; omega)
            rw [HLEN.out] at q0
            obtain ⟨j, hj⟩ : ∃ j, k - 1 = j := ⟨_, rfl⟩
            have HJ : Hid (k = j + 1) := by show _ = _; omega
            rw [hj] at q2 q3
            obtain ⟨up, hupe⟩ : ∃ v, u.up k = v := ⟨_, rfl⟩
            have HUPE := Lib.hid hupe
            rw [hupe] at q2
            have HUPL := Lib.hid (Tr.up_lt HOK.out hk0 (by have := HLEN.out; omega))
            have HKST := hkst
            have y1 : IntKind.i64.wrap ((k : Int) - 1) = (j : Int) := by rw [IntKind.wrap_i64]; omega
            have y2 : (k : Int) - 1 = (j : Int) := by omega
            have y3 : IntKind.i64.wrap (j : Int) = (j : Int) := by rw [IntKind.wrap_i64]; omega
            have hj0 : (0 : Int) ≤ (j : Int) := by omega
            have hj1 : (j : Int) < (len : Int) := by omega
            have hkln : k ≤ len := hkl
            clear hb hkh hkl hk1 hk2 hk0 q3 q4 hj hupe hkst
            obtain ⟨wp, hwp⟩ : ∃ x, x = wr := ⟨_, rfl⟩
            subst hwp
            by_cases huh : (up : Int) = (h : Int)
            · have hu1 : ((up : Int) != (h : Int)) = false := by simpa using huh
              have HUH : Hid (up = h) := by show _ = _; omega
              clear huh
              go_upto_region 10 with fail
              go_cut [60] (fun v60 wx => v60 = .bool false ∧ Hid (Below wp.heap.size wp wx))
              case first =>
                go_quiet (fail)
                go_wp2_with fail
                go_meet
                exact ⟨rfl, bdrewN (Below.refl _ _) _⟩
              case rest =>
                obtain ⟨rfl, hbc⟩ := hcut
                obtain ⟨hb, hkh, hkl, hk1, hk2⟩ := HKST.out
                have hbq : Below wq.heap.size wq wc := hb.trans (hbc.out.mono hb.size)
                have hk0 : k ≠ 0 := by have := HJ.out; omega
                have howc := HOW.out.below HPL.out hbq
                obtain ⟨m, hm⟩ : ∃ m, (u.chs k).length = m := ⟨_, rfl⟩
                have HM := Lib.hid hm
                have HG := Lib.hid (Tr.chs_ok HLM.out hk0 (by have := HLEN.out; omega))
                have hm20 : m ≤ 1048576 := by rw [← hm]; exact HG.out.1
                have HDS : Hid (u.down h n n = u.chs k ++ u.down k n n) := Tr.down_split HOK.out hk0 (by have := HLEN.out; omega) (by rw [HUPE.out, HUH.out]) n n (Nat.le_refl _) (by have := HLEN.out; omega) hk1
                have HK := Lib.hid (And.intro hk0 hk1)
                have HJ0 : Hid (OnWay P' F' w1 bx u h la lm lc (ls ++ (u.chs k).take 0) wc) := by rw [List.take_zero, List.append_nil]; exact howc
                clear hb hkh hkl hk1 hk2 hbq hk0 howc hm q0 q1 q2 bl gl
                go_wp2_with fail
                go_loopw [6, 10] (fun v6 v10 wr => ∃ (i : Nat) (la : Option Addr) (lm lc : Nat), v10 = .int .i64 (i : Nat) ∧ v6 = .slice la lm lc ∧ i ≤ m ∧ Hid (OnWay P' F' w1 bx u h la lm lc (ls ++ (u.chs k).take i) wr)) (fun _ v10 _ => ((m : Int) - intOf v10).toNat)
                case atStart => exact ⟨0, _, _, _, rfl, rfl, Nat.zero_le _, HJ0⟩
                case round =>
                  obtain ⟨i, la', lm', lc', rfl, rfl, hi, how⟩ := hrel
                  clear HJ0
                  obtain ⟨g, nc, a, c, q0, c1, -, q3, bl, gl, q4⟩ := how.out.node (Below.refl _ wr) HK.out.1 (by have := HLEN.out; omega)
                  rw [HLEN.out] at q0
                  rw [HM.out] at q3 q4
                  rw [show k - 1 = j by have := HJ.out; omega] at q3
                  have hlm' := how.out.2.2.1.len
                  have hlb : lm' ≤ 1099511627776 := by
                    have h1 : (ls ++ (u.chs k).take i).length ≤ ls.length + m := by rw [List.length_append, List.length_take]; have := HM.out; omega
                    have h2 := HWL.out ls _ HLS.out
                    omega
                  clear hlm'
                  by_cases hlt : (i : Int) < (m : Int)
                  · obtain ⟨x, hx⟩ : ∃ x, (u.chs k)[i]? = some x := ⟨_, List.getElem?_eq_getElem (by have := HM.out; omega)⟩
                    obtain ⟨b', off, oa, oc, na, nc', rfl, hbl, d0, d1, d2, r1, r2⟩ := q4.get (Below.refl _ wr) hx
                    have HTW := Lib.hid (ow_twin HPL.out how.out (HG.out.2 x (List.mem_of_getElem? hx)) hlb r1 r2)
                    rw [List.append_assoc, ← take_snocC hx] at HTW
                    obtain ⟨z1, e1⟩ : ∃ z, x.old.length = z := ⟨_, rfl⟩
                    obtain ⟨z2, e2⟩ : ∃ z, x.now.length = z := ⟨_, rfl⟩
                    obtain ⟨p1, e5⟩ : ∃ z, x.pos = z := ⟨_, rfl⟩
                    rw [e1, e2, e5] at HTW
                    rw [e5] at d0
                    rw [e1] at d1
                    rw [e2] at d2
                    clear how r1 r2 hx q4 e1 e2 e5 hlb
                    go_wp2_with fail
                    refine HTW.out.mono ?_
                    rintro e w3 ⟨pa, pc, qa, qc, rfl, a', lk, c', w4, HRUN, HN⟩
                    clear HTW
                    go_wp2_with (at_builtin; go_must (with_reducible refine Lib.wpList_append_run _ rfl (.tmp 84) (.tmp 98) _ _ rfl _ _ rfl rfl _ _ (HRUN.out _) ?_))
                    go_roundw
                    case rel => exact ⟨i + 1, _, _, _, rfl, rfl, by omega, HN⟩
                    case measure => first | (simp [intOf]; done) | (simp [intOf]; omega)
                  · obtain rfl : i = m := by omega
                    obtain ⟨w5, hw5⟩ : ∃ w5, wr.setCell ⟨bx, 1, none⟩ (.int .i64 (k : Nat)) = w5 := ⟨_, rfl⟩
                    have hnew : OnWay P' F' w1 bx u k la' lm' lc' (ls ++ u.chs k) w5 := by
                      have h1 := how.out
                      rw [List.take_of_length_le (by have := HM.out; omega)] at h1
                      obtain ⟨a1, a2, a3, a4, a5⟩ := h1
                      rw [← hw5]
                      refine ⟨a1.setHere k, a2.setCell ⟨bx, 1, none⟩ _ (fun _ => a1.inP), a3.fr ((Fr.refl (fun k => k = bx) wr).setCell ⟨bx, 1, none⟩ _ (fun _ => rfl)) (fun b h1 h2 e => ?_), by have := HLEN.out; omega, by simpa using a5⟩
                      have := HPL.out bx a1.inP
                      omega
                    have HNEW := Lib.hid hnew
                    have HLS2 : Hid ((ls ++ u.chs k) ++ u.down k n n = u.way u.here n) := by
                      show _ = _
                      rw [List.append_assoc, ← HDS.out]
                      exact HLS.out
                    have HW5 := Lib.hid hw5
                    obtain ⟨-, -, -, -, -, -, -, -, -, z1, -, -, -⟩ := how.out.1.cells
                    have HUPL2 : Hid (h < k) := by show _ < _; have := HUPL.out; have := HUPE.out; have := HUH.out; omega
                    clear how hnew hw5 q4 hlb
                    go_wp2_with fail
                    try rw [HW5.out]
                    go_roundw
                    case rel => exact ⟨k, _, _, _, _, rfl, HNEW.out, HK.out.2, HLS2.out⟩
                    case measure =>
                      have h1 : cellN w5 bx = k := HNEW.out.1.cellN
                      have h2 := HCN.out
                      have h3 := HUPL2.out
                      first | omega | (simp [h1, h2]; omega)
            · have hu1 : ((up : Int) != (h : Int)) = true := by simpa using huh
              have HUH : Hid (¬ up = h) := fun e => huh (by rw [e])
              clear huh
              go_upto_region 10 with fail
              go_cut [60] (fun v60 wx => v60 = .bool true ∧ Hid (Below wp.heap.size wp wx))
              case first =>
                go_quiet (fail)
                go_wp2_with fail
                go_meet
                exact ⟨rfl, bdrewN (Below.refl _ _) _⟩
              case rest =>
                obtain ⟨rfl, hbc⟩ := hcut
                have HNX : Hid (Below wq.heap.size wq wc ∧ up ≠ h ∧ up ≤ len ∧ u.over up n n = true ∧ u.over h up up = true) := by
                  obtain ⟨hb, hkh, hkl, hk1, hk2⟩ := HKST.out
                  have hk0 : k ≠ 0 := by have := HJ.out; omega
                  have hkn : k ≤ u.nodes.length := by have := HLEN.out; omega
                  have hupk := HUPL.out
                  have e1 : u.over up k k = true := by
                    rw [Tr.over_step HOK.out hk0 hkn (by have := HUPE.out; omega), HUPE.out]
                    exact Tr.over_self _ _ _
                  have e2 : u.over h up up = true := by
                    rw [Tr.over_step HOK.out hk0 hkn hkh, HUPE.out] at hk2
                    exact hk2
                  exact ⟨hb.trans (hbc.out.mono hb.size), HUH.out, by have := HUPE.out; omega, Tr.over_trans HOK.out e1 n n (Nat.le_refl _) (by have := HLEN.out; omega) hk1, e2⟩
                obtain ⟨g, nc, a, c, q0, c1, q2, -, bl, gl, -⟩ := HOW.out.node HNX.out.1 (k := k) (by have := HJ.out; omega) (by have := HLEN.out; omega)
                rw [HLEN.out] at q0
                rw [show k - 1 = j by have := HJ.out; omega, HUPE.out] at q2
                have HUK : Hid (up < k) := by show _ < _; have := HUPL.out; have := HUPE.out; omega
                go_wp2_with fail
                go_roundw
                case rel => exact ⟨up, rfl, HNX⟩
                case measure =>
                  have := HUK.out
                  first | (simp [intOf]; done) | (simp [intOf]; omega)
end Go.Proofs.Ytalhiedbhcklgaa.U
