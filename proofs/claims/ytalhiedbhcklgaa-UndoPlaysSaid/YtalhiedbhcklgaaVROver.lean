/-
  The document's over, Undo.
-/
import Derived.Test.YtalhiedbhcklgaaVREnd
import Derived.Test.YtalhiedbhcklgaaVBack
import Derived.Test.YtalhiedbhcklgaaVWl
import Derived.Deep.RegionHeld3
namespace Go.Proofs.Ytalhiedbhcklgaa.U
open Go.RowKit
set_option linter.unusedVariables false
set_option linter.unusedSimpArgs false
set_option maxRecDepth 100000

set_option maxHeartbeats 2000000 in
theorem rover_any {P F : Nat → Prop} {w : World} {bx : Nat} {t : Tr} (h : TreeR P F w bx t) (hok : t.Ok) (n u : Nat) (hn : n ≤ t.nodes.length) (hu : u ≤ t.nodes.length) :
    Calls Try.prog 48 #[.pointer (some ⟨bx, 0, none⟩), .int .i64 (n : Nat), .int .i64 (u : Nat)] w fun e w' => e = .returned (.bool (t.over u n n)) ∧ w = w' := by
  have H := Lib.hid h
  have HOK := Lib.hid hok
  have HLE := Lib.hid hn
  have hl4 : t.nodes.length ≤ 4096 := hok.1
  obtain ⟨R, hR⟩ : ∃ R, t.over u n n = R := ⟨_, rfl⟩
  have HR := Lib.hid hR
  rw [hR]
  obtain ⟨len, hlen⟩ : ∃ l, t.nodes.length = l := ⟨_, rfl⟩
  have HLEN := Lib.hid hlen
  rw [hlen] at hn hu hl4
  clear h hok hR hlen
  go_enter Try.func48, Try.ntmps48
  go_wp2_with fail
  go_loopw [1] (fun v1 wr => ∃ j : Nat, v1 = .int .i64 (j : Nat) ∧ j ≤ len ∧ wr = w ∧ Hid (t.over u j j = R)) (fun v1 _ => (intOf v1).toNat)
  case atStart => exact ⟨n, rfl, hn, rfl, HR⟩
  case round =>
    obtain ⟨j, rfl, hj, rfl, hov⟩ := hrel
    by_cases hju : (j : Int) = (u : Int)
    · have hj1 : ((j : Int) != (u : Int)) = false := by simpa using hju
      have HT : Hid (R = true) := by
        have := hov.out
        obtain rfl : j = u := by omega
        rw [Tr.over_self] at this
        exact this.symm
      clear hov hju
      go_wp2_with fail
      go_ret
      exact ⟨by rw [HT.out]; rfl, rfl⟩
    · have hj1 : ((j : Int) != (u : Int)) = true := by simpa using hju
      by_cases hj0 : (j : Int) = 0
      · have hj2 : ((j : Int) == 0) = true := by simpa using hj0
        have HT : Hid (R = false) := by
          show R = false
          have := hov.out
          obtain rfl : j = 0 := by omega
          rw [← this]
          have hu0 : ¬ 0 = u := by omega
          simp [Tr.over, hu0]
        clear hov hju hj0
        go_wp2_with fail
        go_ret
        exact ⟨by rw [HT.out]; rfl, rfl⟩
      · have hj2 : ((j : Int) == 0) = false := by simpa using hj0
        obtain ⟨g, nc, a, c, q0, q1, q2, q3, q4⟩ := H.out.node (Below.refl _ wr) (i := j) (by omega) (by have := HLEN.out; omega)
        have hup := Tr.up_lt HOK.out (n := j) (by omega) (by have := HLEN.out; omega)
        have hst := Tr.over_step HOK.out (u := u) (n := j) (by omega) (by have := HLEN.out; omega) (by omega)
        have HOV : Hid (t.over u (t.up j) (t.up j) = R) := by rw [Hid, ← hst]; exact hov.out
        obtain ⟨-, -, -, -, -, -, -, -, -, -, -, -, bl⟩ := H.out.cells
        obtain ⟨k, rfl⟩ : ∃ k, j = k + 1 := ⟨j - 1, by omega⟩
        rw [Nat.add_sub_cancel] at q2
        obtain ⟨up, hupe⟩ : ∃ v, t.up (k + 1) = v := ⟨_, rfl⟩
        rw [hupe] at q2 hup HOV
        rw [HLEN.out] at q0
        have hkl : k < len := by omega
        clear hov hju hj0 hst q3 q4 hupe
        go_wp2_with fail
        go_roundw
        case rel => exact ⟨up, rfl, by omega, (by first | rfl | trivial), HOV⟩
        case measure => first | (simp [intOf]; done) | (simp [intOf]; omega)

/-- what the document's undo leaves, from the world behind its End on -/
def UndoneR (bx : Nat) (t : Tr) (Q : (Nat → Prop) → (Nat → Prop) → World → Prop) (e : Ending) (w' : World) : Prop :=
  ∃ (a : Option Addr) (m c : Nat) (P' F' : Nat → Prop) (w1 : World), e = .returned (.tuple #[.slice a m c, .int .i64 0]) ∧ m = (t.chs t.here).length ∧ TreeR P' F' w1 bx t ∧ Q P' F' w1 ∧ Fr P' w1 w' ∧ TreeR P' F' w' bx { t with here := t.up t.here } ∧ MyCs w1.heap.size w' a m c (backC (t.chs t.here))
set_option maxHeartbeats 4000000 in
theorem rundo_from {Q : (Nat → Prop) → (Nat → Prop) → World → Prop} {w : World} {bx : Nat} {t : Tr} (HE : Hid (Calls Try.prog 26 #[.pointer (some ⟨bx, 0, none⟩)] w fun e w1 => e = .returned (.tuple #[]) ∧ ∃ P' F', TreeR P' F' w1 bx t ∧ Q P' F' w1)) (hok : t.Ok) (hl : t.Lim) (h0 : t.here ≠ 0) :
    Calls Try.prog 28 #[.pointer (some ⟨bx, 0, none⟩)] w (UndoneR bx t Q) := by
  have HOK := Lib.hid hok
  have HL := Lib.hid hl
  have HH := Lib.hid h0
  clear hok hl h0
  go_enter Try.func28, Try.ntmps28
  go_wp2_with fail
  refine HE.out.mono ?_
  rintro e w1 ⟨rfl, P', F', hT, hQ⟩
  have hle := HOK.out.2.1
  have hl4 := HOK.out.1
  have hh0 := HH.out
  obtain ⟨g, nc, a, c, q0, q1, q2, q3, q4⟩ := hT.node (Below.refl _ w1) (i := t.here) hh0 hle
  obtain ⟨-, -, -, -, -, c1, -, -, -, z1, -, -, bl⟩ := hT.cells
  have hup := Tr.up_lt HOK.out hh0 hle
  have hok2 := Tr.chs_ok HL.out hh0 hle
  have HT := Lib.hid hT
  have HQ := Lib.hid hQ
  have HR := Lib.hid q4
  have HG := Lib.hid hok2
  have HUP := Lib.hid hup
  obtain ⟨h, hh⟩ : ∃ h, t.here = h := ⟨_, rfl⟩
  have HHE := Lib.hid hh
  rw [hh] at q2 q3 c1 hh0 hle hup HR HG HUP
  obtain ⟨k, rfl⟩ : ∃ k, h = k + 1 := ⟨h - 1, by omega⟩
  rw [Nat.add_sub_cancel] at q2 q3
  obtain ⟨up, hupe⟩ : ∃ v, t.up (k + 1) = v := ⟨_, rfl⟩
  have HUPE := Lib.hid hupe
  rw [hupe] at q2 hup HUP
  obtain ⟨m, hm⟩ : ∃ m, (t.chs (k + 1)).length = m := ⟨_, rfl⟩
  have HM := Lib.hid hm
  rw [hm] at q3 HR
  obtain ⟨len, hlen⟩ : ∃ l, t.nodes.length = l := ⟨_, rfl⟩
  rw [hlen] at q0 hle hl4
  have hkl : k < len := by omega
  have y1 : IntKind.i64.wrap (((k + 1 : Nat) : Int) - 1) = (k : Int) := by rw [IntKind.wrap_i64]; omega
  have y2 : IntKind.i64.wrap ((k : Int) + 1 - 1) = (k : Int) := by rw [IntKind.wrap_i64]; omega
  have y3 : IntKind.i64.wrap (k : Int) = (k : Int) := by rw [IntKind.wrap_i64]; omega
  have hk0 : (0 : Int) ≤ (k : Int) := by omega
  have hk1 : (k : Int) < (len : Int) := by omega
  have hm20 : m ≤ 1048576 := by rw [← hm]; exact HG.out.1
  clear hT hQ q4 hok2 hh hm hlen hupe
  go_upto_region 4 with fail
  go_cut [4] (fun v4 wx => ∃ gn, v4 = .pointer (some ⟨gn, 0, none⟩) ∧ Hid (Below w1.heap.size w1 wx ∧ wx.heap[gn]? = some (.cells #[.int .i64 (up : Nat), .slice a m c] 76 (0, 0)) ∧ w1.heap.size ≤ gn))
  case first =>
    have HFIN : Hid (∀ W : World, W.heap = w1.heap → W.heap.size = w1.heap.size → Below w1.heap.size w1 W → Below w1.heap.size w1 (W.alloc (.cells #[.int .i64 (up : Nat), .slice a m c] 76)) ∧ (W.alloc (.cells #[.int .i64 (up : Nat), .slice a m c] 76)).heap[W.heap.size]? = some (.cells #[.int .i64 (up : Nat), .slice a m c] 76 (0, 0)) ∧ w1.heap.size ≤ W.heap.size) := fun W h1 h2 hb => ⟨hb.alloc (by omega) _, heap_alloc_new _ _, by omega⟩
    have q0d : w1.drew.cell? ⟨bx, 0, none⟩ = some (.slice (some ⟨g, 0, none⟩) len nc) := q0
    have c1d : w1.drew.cell? ⟨bx, 1, none⟩ = some (.int .i64 ((k + 1 : Nat) : Int)) := c1
    have q2d : w1.drew.cell? ⟨g, k * 2, none⟩ = some (.int .i64 (up : Nat)) := q2
    have q3d : w1.drew.cell? ⟨g, k * 2 + 1, none⟩ = some (.slice a m c) := q3
    have KS : Hid (∀ W, Below w1.heap.size w1 W → W.cell? ⟨bx, 0, none⟩ = some (.slice (some ⟨g, 0, none⟩) len nc) ∧ W.cell? ⟨bx, 1, none⟩ = some (.int .i64 ((k + 1 : Nat) : Int)) ∧ W.cell? ⟨g, k * 2, none⟩ = some (.int .i64 (up : Nat)) ∧ W.cell? ⟨g, k * 2 + 1, none⟩ = some (.slice a m c)) := fun W hW => ⟨(hW.cell (p := ⟨bx, 0, none⟩) bl).trans q0, (hW.cell (p := ⟨bx, 1, none⟩) bl).trans c1, (hW.cell (p := ⟨g, k * 2, none⟩) q1).trans q2, (hW.cell (p := ⟨g, k * 2 + 1, none⟩) q1).trans q3⟩
    have HR0 : Hid (Below w1.heap.size w1 w1) := Below.refl _ _
    have HR1 : Hid (Below w1.heap.size w1 w1.drew) := (Below.refl _ _).drew
    go_region_held3 (fun w' => w'.cell? ⟨bx, 0, none⟩ = some (.slice (some ⟨g, 0, none⟩) len nc) ∧ w'.cell? ⟨bx, 1, none⟩ = some (.int .i64 ((k + 1 : Nat) : Int)) ∧ w'.cell? ⟨g, k * 2, none⟩ = some (.int .i64 (up : Nat)) ∧ w'.cell? ⟨g, k * 2 + 1, none⟩ = some (.slice a m c))
      (first
        | exact KS.out _ HR0.out
        | exact KS.out _ HR1.out
        | exact KS.out _ (HR1.out.alloc HR1.out.size _)
        | exact KS.out _ (HR0.out.alloc HR0.out.size _)
        | exact KS.out _ (HR0.out.alloc HR0.out.size _).drew)
      (fail)
    all_goals
      go_wp2_with fail
      go_meet
      first
        | exact ⟨_, rfl, HFIN.out w1.drew rfl rfl HR1.out⟩
        | exact ⟨_, rfl, HFIN.out w1 rfl rfl HR0.out⟩
        | exact ⟨_, rfl, (HFIN.out w1 rfl rfl HR0.out).1.drew, (HFIN.out w1 rfl rfl HR0.out).2⟩
  case rest =>
    obtain ⟨gn, rfl, hst⟩ := hcut
    obtain ⟨hb, hgn, hge⟩ := hst.out
    have n0 := cell_row hgn 0
    have n1 := cell_row hgn 1
    have nl := heap_lt hgn
    have hTc := HT.out.below hb
    obtain ⟨-, -, -, -, -, c1', -, -, -, z1', -, -, bl'⟩ := hTc.cells
    obtain ⟨w2, hw2⟩ : ∃ w2, wc.setCell ⟨bx, 1, none⟩ (.int .i64 (up : Nat)) = w2 := ⟨_, rfl⟩
    have hne : gn ≠ bx := by have := HT.out.lt bx HT.out.inP; omega
    have hgn2 : w2.heap[gn]? = some (.cells #[.int .i64 (up : Nat), .slice a m c] 76 (0, 0)) := by
      have hf : Fr (fun k => k = bx) wc w2 := by rw [← hw2]; exact (Fr.refl _ wc).setCell ⟨bx, 1, none⟩ _ (fun _ => rfl)
      exact (hf.block gn nl hne).trans hgn
    have hT2 : TreeR P' F' w2 bx { t with here := up } := by rw [← hw2]; exact hTc.setHere up
    have hF2 : Fr P' w1 w2 := by rw [← hw2]; exact (Fr.of_below P' hb).setCell ⟨bx, 1, none⟩ _ (fun _ => HT.out.inP)
    have hR2 : RdCs F' w2 a m c (t.chs (k + 1)) := by
      refine (HR.out.below hb).frF (G := fun k => k = bx) ?_ (fun k hk e => HT.out.outF (e ▸ hk))
      rw [← hw2]
      exact (Fr.refl _ wc).setCell ⟨bx, 1, none⟩ _ (fun _ => rfl)
    have HBK : Hid (Calls Try.prog 47 #[.slice a m c] w2 fun e w' => ∃ a' c', e = .returned (.slice a' m c') ∧ Hid (Fr P' w1 w' ∧ TreeR P' F' w' bx { t with here := up } ∧ MyCs w1.heap.size w' a' m c' (backC (t.chs (k + 1))))) := by
      have hs2 := hF2.size
      refine (rback_any F' a m c (t.chs (k + 1)) w2 hR2 HG.out.2 hm20).mono ?_
      rintro e w' ⟨a', c', rfl, hmy, hb3⟩
      refine ⟨a', c', rfl, hF2.trans (Fr.of_below P' hb3) (fun _ _ h => h), hT2.below hb3, ?_⟩
      obtain ⟨F3, o1, o2⟩ := hmy
      exact ⟨F3, o1.mono hs2 (fun _ h => h), fun k hk => ⟨by have := (o2 k hk).1; omega, (o2 k hk).2⟩⟩
    have m1 := cell_row hgn2 1
    have ml := heap_lt hgn2
    have HW2 := Lib.hid hw2
    have HFIN : Hid (∀ a' c' w', Fr P' w1 w' ∧ TreeR P' F' w' bx { t with here := up } ∧ MyCs w1.heap.size w' a' m c' (backC (t.chs (k + 1))) → ∃ (a : Option Addr) (m2 c : Nat) (P' F' : Nat → Prop) (w1 : World), Ending.returned (.tuple #[.slice a' m c', .int .i64 0]) = .returned (.tuple #[.slice a m2 c, .int .i64 0]) ∧ m2 = m ∧ TreeR P' F' w1 bx t ∧ Q P' F' w1 ∧ Fr P' w1 w' ∧ TreeR P' F' w' bx { t with here := up } ∧ MyCs w1.heap.size w' a m2 c (backC (t.chs (k + 1)))) := fun a' c' w' h => ⟨a', m, c', P', F', w1, rfl, rfl, HT.out, HQ.out, h.1, h.2.1, h.2.2⟩
    clear hst hb hgn hge hTc hw2 hgn2 hT2 hF2 hR2 q0 q1 q2 q3 c1 z1 bl hne
    go_upto_region 6 with fail
    rw [HW2.out]
    clear n0 n1 nl c1' z1' bl'
    go_wp2_with fail
    refine HBK.out.mono ?_
    rintro e w3 ⟨a', c', rfl, hfin⟩
    clear HBK m1 ml
    go_wp2_with fail
    go_ret2
    unfold UndoneR
    rw [HHE.out, HUPE.out, HM.out]
    exact HFIN.out _ _ _ hfin.out
end Go.Proofs.Ytalhiedbhcklgaa.U
