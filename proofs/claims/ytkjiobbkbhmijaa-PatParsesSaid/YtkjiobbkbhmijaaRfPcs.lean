/-
  The document's reader: the pieces of an alternative.
-/
import Derived.Test.YtkjiobbkbhmijaaRfRow
namespace Go.Proofs.Ytkjiobbkbhmijaa.U
open Go.RowKit
set_option linter.unusedVariables false
set_option linter.unusedSimpArgs false
set_option maxRecDepth 100000

/-- at the head of the loop over pieces -/
def OutN (rec : Rec) (w1 wr : World) (br B : Nat) (p : List Int) (o : Nat) (r0 : Rs (List Re × List Int × Nat)) (a : Option Addr) (k c : Nat) : Prop :=
  ∃ acc l n f, RowN wr B a k c acc ∧ RfN wr br p l n o ∧ Fr (fun j => j = br ∨ B ≤ j) w1 wr ∧ l.length < f ∧ headF rec o f acc l n = r0 ∧ k + l.length ≤ p.length
/-- the same, behind a fault -/
def OutE (w1 wr : World) (br B : Nat) (p : List Int) (r0 : Rs (List Re × List Int × Nat)) (a : Option Addr) (k c : Nat) : Prop :=
  ∃ e vs, e ≠ 0 ∧ r0 = .error e ∧ wr.ownsRow B 26 7 (.slice a k c) k vs ∧ (k = 1 → Rev7 vs) ∧ 1 ≤ k ∧ RfX wr br p e ∧ Fr (fun j => j = br ∨ B ≤ j) w1 wr
/-- at the head of the loop over repetitions: a part in its box X -/
def InnN (wz wr : World) (br X : Nat) (p : List Int) (o n2 : Nat) (r1 : Rs (Re × List Int)) : Prop :=
  ∃ x l, (∃ k4 r4 sa4 sn4 sc4 nt4 l4 h4 pa4 pn4 pc4, wr.heap[X]? = some (.cells #[.int .i64 k4, .int .i32 r4, .slice sa4 sn4 sc4, .bool nt4, .int .i64 l4, .int .i64 h4, .slice pa4 pn4 pc4] 26 (0, 0)) ∧ ReAt (fun k => wz.heap.size ≤ k ∧ k ≠ X ∧ k < wr.heap.size) wr [.int .i64 k4, .int .i32 r4, .slice sa4 sn4 sc4, .bool nt4, .int .i64 l4, .int .i64 h4, .slice pa4 pn4 pc4] x) ∧ RfN wr br p l n2 o ∧ Fr (fun j => j = br ∨ wz.heap.size ≤ j) wz wr ∧
    ((x.kd = 4 ∧ r1 = .ok (x, l)) ∨ (x.kd ≠ 4 ∧ ∃ f, l.length < f ∧ reps f x l = r1))
def InnE (wz wr : World) (br X : Nat) (p : List Int) (r1 : Rs (Re × List Int)) : Prop :=
  ∃ e, e ≠ 0 ∧ r1 = .error e ∧ (∃ k4 r4 sa4 sn4 sc4 nt4 l4 h4 pa4 pn4 pc4, wr.heap[X]? = some (.cells #[.int .i64 k4, .int .i32 r4, .slice sa4 sn4 sc4, .bool nt4, .int .i64 l4, .int .i64 h4, .slice pa4 pn4 pc4] 26 (0, 0))) ∧ RfX wr br p e ∧ Fr (fun j => j = br ∨ wz.heap.size ≤ j) wz wr
/-- the part that was read in the box -/
theorem inn_start {wz W w5 : World} {br : Nat} {p : List Int} {o : Nat} {r : Rs (Re × List Int × Nat)} {r1 : Rs (Re × List Int)} {n2 : Nat} {e : Ending} (hW : Below wz.heap.size wz W) (hbr : br < wz.heap.size) (hr : (∃ c, c ≠ 0 ∧ r = .error c ∧ r1 = .error c) ∨ (∃ x l, r = .ok (x, l, n2) ∧ r1 = rpX x l)) (h : RfAns W br p o r e w5) :
    ∃ k4 r4 sa4 sn4 sc4 nt4 l4 h4 pa4 pn4 pc4 w6, e = .returned (.agg #[.int .i64 k4, .int .i32 r4, .slice sa4 sn4 sc4, .bool nt4, .int .i64 l4, .int .i64 h4, .slice pa4 pn4 pc4]) ∧ w5.alloc (.cells #[.int .i64 k4, .int .i32 r4, .slice sa4 sn4 sc4, .bool nt4, .int .i64 l4, .int .i64 h4, .slice pa4 pn4 pc4] 26) = w6 ∧ Hid (wz.heap.size ≤ w5.heap.size) ∧ Hid (InnN wz w6 br w5.heap.size p o n2 r1 ∨ InnE wz w6 br w5.heap.size p r1) := by
  rcases hr with ⟨c, hc, rfl, rfl⟩ | ⟨x, l, rfl, rfl⟩
  · obtain ⟨k4, r4, sa4, sn4, sc4, nt4, l4, h4, pa4, pn4, pc4, rfl, hx, hf⟩ := h
    have hb6 := bal w5 (.cells #[.int .i64 k4, .int .i32 r4, .slice sa4 sn4 sc4, .bool nt4, .int .i64 l4, .int .i64 h4, .slice pa4 pn4 pc4] 26)
    have hfz : Fr (fun j => j = br ∨ wz.heap.size ≤ j) wz w5 := (Fr.of_below _ hW).trans hf (fun _ _ h => Or.inl h)
    exact ⟨k4, r4, sa4, sn4, sc4, nt4, l4, h4, pa4, pn4, pc4, _, rfl, rfl, hfz.size, Or.inr ⟨c, hc, rfl, ⟨k4, r4, sa4, sn4, sc4, nt4, l4, h4, pa4, pn4, pc4, heap_alloc_new w5 _⟩, hx.below hb6, hfz.trans (Fr.of_below (fun _ => False) hb6) (fun _ _ h => h.elim)⟩⟩
  · obtain ⟨k4, r4, sa4, sn4, sc4, nt4, l4, h4, pa4, pn4, pc4, rfl, hre, hx, hf⟩ := h
    have hb6 := bal w5 (.cells #[.int .i64 k4, .int .i32 r4, .slice sa4 sn4 sc4, .bool nt4, .int .i64 l4, .int .i64 h4, .slice pa4 pn4 pc4] 26)
    have hfz : Fr (fun j => j = br ∨ wz.heap.size ≤ j) wz w5 := (Fr.of_below _ hW).trans hf (fun _ _ h => Or.inl h)
    have hs6 := hb6.size
    have hsW := hW.size
    refine ⟨k4, r4, sa4, sn4, sc4, nt4, l4, h4, pa4, pn4, pc4, _, rfl, rfl, hfz.size, Or.inl ⟨x, l, ⟨k4, r4, sa4, sn4, sc4, nt4, l4, h4, pa4, pn4, pc4, heap_alloc_new w5 _, ReAt.mono (fun k hk => ?_) x (ReAt.frF (Fr.of_below (fun _ => False) hb6) (fun _ _ h => h) x hre)⟩, hx.below hb6, hfz.trans (Fr.of_below (fun _ => False) hb6) (fun _ _ h => h.elim), ?_⟩⟩
    · have := hk.1
      have := hk.2
      exact ⟨by omega, by omega, by omega⟩
    · unfold rpX
      by_cases h4 : x.kd = 4
      · exact Or.inl ⟨h4, by rw [if_pos h4]⟩
      · exact Or.inr ⟨h4, l.length + 1, by omega, by rw [if_neg h4]⟩
/-- a repetition more, in the box -/
theorem inn_next {wz wr WA w8 : World} {br X : Nat} {p l : List Int} {o n2 f : Nat} {x : Re} {r1 : Rs (Re × List Int)} {e : Ending} (hWA : Below wr.heap.size wr WA) (hf : Fr (fun j => j = br ∨ wz.heap.size ≤ j) wz wr) (hbr : br < wz.heap.size) (hX : wz.heap.size ≤ X) {C : Array Value} (hXg : wr.heap[X]? = some (.cells C 26 (0, 0))) (hpre : pre [42] l = true ∨ pre [92, 123] l = true) (hlf : l.length < f) (hr : reps f x l = r1) (hrf : RfN wr br p l n2 o)
    (h : RpA WA br p n2 o (fun k => wz.heap.size ≤ k ∧ k ≠ X ∧ k < wr.heap.size) (rep1 x l) e w8) :
    ∃ k4 r4 sa4 sn4 sc4 nt4 l4 h4 pa4 pn4 pc4, e = .returned (.agg #[.int .i64 k4, .int .i32 r4, .slice sa4 sn4 sc4, .bool nt4, .int .i64 l4, .int .i64 h4, .slice pa4 pn4 pc4]) ∧ w8.heap[X]? = some (.cells C 26 (0, 0)) ∧ Hid (∀ W, W.heap[X]? = some (.cells #[.int .i64 k4, .int .i32 r4, .slice sa4 sn4 sc4, .bool nt4, .int .i64 l4, .int .i64 h4, .slice pa4 pn4 pc4] 26 (0, 0)) → Fr (fun j => j = X) w8 W → (InnN wz W br X p o n2 r1 ∨ InnE wz W br X p r1) ∧ msR W br p.length < msR wr br p.length) := by
  have hXl := heap_lt hXg
  have hms := hrf.ms
  obtain ⟨g, rfl⟩ : ∃ g, f = g + 1 := ⟨f - 1, by omega⟩
  rw [reps_go g x l hpre] at hr
  cases hq : rep1 x l with
  | error c =>
    rw [hq] at h hr
    obtain ⟨k4, r4, sa4, sn4, sc4, nt4, l4, h4, pa4, pn4, pc4, rfl, hx, hf8⟩ := h
    have hfz : Fr (fun j => j = br ∨ wz.heap.size ≤ j) wz w8 := (hf.trans (Fr.of_below (fun _ => False) hWA) (fun _ _ h => h.elim)).trans hf8 (fun _ _ h => Or.inl h)
    refine ⟨k4, r4, sa4, sn4, sc4, nt4, l4, h4, pa4, pn4, pc4, rfl, ?_, fun W hW1 hW2 => ?_⟩
    · rw [hf8.block X (by have := hWA.size; omega) (by omega), hWA.block X hXl]; exact hXg
    · have hx9 := hx.fr hW2 (fun k e => by omega)
      refine ⟨Or.inr ⟨c, rep1_nz hq, hr.symm, ⟨k4, r4, sa4, sn4, sc4, nt4, l4, h4, pa4, pn4, pc4, hW1⟩, hx9, hfz.trans hW2 (fun k _ e => Or.inr (by omega))⟩, ?_⟩
      rw [hx9.ms (rep1_nz hq), hms]
      omega
  | ok qa =>
    obtain ⟨y, l3⟩ := qa
    rw [hq] at h hr
    obtain ⟨hk4, hl3⟩ := rep1_ok hpre hq
    obtain ⟨k4, r4, sa4, sn4, sc4, nt4, l4, h4, pa4, pn4, pc4, rfl, hre, hx, hf8⟩ := h
    have hfz : Fr (fun j => j = br ∨ wz.heap.size ≤ j) wz w8 := (hf.trans (Fr.of_below (fun _ => False) hWA) (fun _ _ h => h.elim)).trans hf8 (fun _ _ h => Or.inl h)
    have hs1 := hWA.size
    have hs2 := hf8.size
    refine ⟨k4, r4, sa4, sn4, sc4, nt4, l4, h4, pa4, pn4, pc4, rfl, ?_, fun W hW1 hW2 => ?_⟩
    · rw [hf8.block X (by omega) (by omega), hWA.block X hXl]; exact hXg
    · have hx9 := hx.fr hW2 (fun k e => by omega)
      have hs3 := hW2.size
      refine ⟨Or.inl ⟨y, l3, ⟨k4, r4, sa4, sn4, sc4, nt4, l4, h4, pa4, pn4, pc4, hW1, ReAt.mono (fun k hk => ?_) y (ReAt.frF hW2 (fun k hk e => ?_) y hre)⟩, hx9, hfz.trans hW2 (fun k _ e => Or.inr (by omega)), Or.inr ⟨hk4, g, by omega, hr⟩⟩, ?_⟩
      · rcases hk with hk | hk
        · exact ⟨hk.1, hk.2.1, by have := hk.2.2; omega⟩
        · have h1 := hk.1
          have h2 := hk.2
          have := hf.size
          exact ⟨by omega, by omega, by omega⟩
      · rcases hk with hk | hk
        · exact hk.2.1 e
        · have := hk.1; omega
      · rw [hx9.ms, hms]
        omega
/-- the part is put behind the others -/
theorem out_next {rec : Rec} {w1 wz wr WA : World} {br B X : Nat} {p l1 l : List Int} {o n2 k c : Nat} {a : Option Addr} {acc : List Re} {x : Re} {r0 : Rs (List Re × List Int × Nat)} (hWA : Below wr.heap.size wr WA) (hrow : RowN wz B a k c acc) (hBz : B ≤ wz.heap.size) (hbrB : br < B) (hf1 : Fr (fun j => j = br ∨ B ≤ j) w1 wz) (hf : Fr (fun j => j = br ∨ wz.heap.size ≤ j) wz wr) {k4 r4 : Int} {sa4 : Option Addr} {sn4 sc4 : Nat} {nt4 : Bool} {l4 h4 : Int} {pa4 : Option Addr} {pn4 pc4 : Nat}
    (hXg : wr.heap[X]? = some (.cells #[.int .i64 k4, .int .i32 r4, .slice sa4 sn4 sc4, .bool nt4, .int .i64 l4, .int .i64 h4, .slice pa4 pn4 pc4] 26 (0, 0))) (hre : ReAt (fun k => wz.heap.size ≤ k ∧ k ≠ X ∧ k < wr.heap.size) wr [.int .i64 k4, .int .i32 r4, .slice sa4 sn4 sc4, .bool nt4, .int .i64 l4, .int .i64 h4, .slice pa4 pn4 pc4] x) (hrf : RfN wr br p l n2 o) (hp : p.length ≤ 100000) (hkl : k + l1.length ≤ p.length) (hll : l.length < l1.length) (hst : ∃ f', l.length < f' ∧ headF rec o f' (acc ++ [x]) l n2 = r0) :
    WA.heap[X]? = some (.cells #[.int .i64 k4, .int .i32 r4, .slice sa4 sn4 sc4, .bool nt4, .int .i64 l4, .int .i64 h4, .slice pa4 pn4 pc4] 26 (0, 0)) ∧ ∃ a' c' w7, (∀ ty, (Builtin.append_ #[24, 24] ty #[.slice a k c, .slice (some ⟨WA.heap.size, 0, none⟩) 1 1]).run Try.prog (WA.alloc (.cells #[.int .i64 k4, .int .i32 r4, .slice sa4 sn4 sc4, .bool nt4, .int .i64 l4, .int .i64 h4, .slice pa4 pn4 pc4] 26)) = .ok (.slice a' (k + 1) c') w7) ∧ Hid (OutN rec w1 w7 br B p o r0 a' (k + 1) c' ∧ msR w7 br p.length < l1.length + 1) := by
  have hXl := heap_lt hXg
  have hfz : Fr (fun j => j = br ∨ wz.heap.size ≤ j) wz WA := hf.trans (Fr.of_below (fun _ => False) hWA) (fun _ _ h => h.elim)
  have hrowA := hrow.fr hfz (fun j hj => by omega)
  have hs1 := hfz.size
  have hs2 := hWA.size
  have hs3 := hf.size
  obtain ⟨a', c', w7, hrun, hrow7, hf7⟩ := hrowA.app (x := x) (v := [.int .i64 k4, .int .i32 r4, .slice sa4 sn4 sc4, .bool nt4, .int .i64 l4, .int .i64 h4, .slice pa4 pn4 pc4]) (by omega) (by omega) (ReAt.frF (Fr.of_below (fun _ => False) hWA) (fun _ _ h => h) x hre) (fun j hj => by
    refine ⟨by have := hj.1; omega, by have := hj.2.2; omega, fun ad e ej => ?_⟩
    obtain ⟨_, vs, h1, _⟩ := hrow
    have h2 := (own_ad h1).1 ad e
    have h3 := (h1.lt _ h2).2
    have := hj.1
    omega)
  obtain ⟨f', hlf, hhd⟩ := hst
  have hrf7 := (hrf.below hWA).fr hf7 (fun j hj => by omega)
  refine ⟨(hWA.block X hXl).trans hXg, a', c', w7, hrun, ⟨acc ++ [x], l, n2, f', hrow7, hrf7, (hf1.trans hfz (fun j _ hj => by omega)).trans hf7 (fun j _ hj => Or.inr hj), hlf, hhd, by omega⟩, ?_⟩
  rw [hrf7.ms]
  omega
theorem out_err {w1 wz wr : World} {br B : Nat} {p : List Int} {k c : Nat} {a : Option Addr} {acc : List Re} {e : Int} {r0 : Rs (List Re × List Int × Nat)} (hrow : RowN wz B a k c acc) (hBz : B ≤ wz.heap.size) (hbrB : br < B) (hf1 : Fr (fun j => j = br ∨ B ≤ j) w1 wz) (hf : Fr (fun j => j = br ∨ wz.heap.size ≤ j) wz wr) {k4 r4 : Int} {sa4 : Option Addr} {sn4 sc4 : Nat} {nt4 : Bool} {l4 h4 : Int} {pa4 : Option Addr} {pn4 pc4 : Nat}
    (hx : RfX wr br p e) (he : e ≠ 0) (hr0 : r0 = .error e) (hk : k ≤ 100000) :
    ∃ a' c' w7, (∀ ty, (Builtin.append_ #[24, 24] ty #[.slice a k c, .slice (some ⟨wr.heap.size, 0, none⟩) 1 1]).run Try.prog (wr.alloc (.cells #[.int .i64 k4, .int .i32 r4, .slice sa4 sn4 sc4, .bool nt4, .int .i64 l4, .int .i64 h4, .slice pa4 pn4 pc4] 26)) = .ok (.slice a' (k + 1) c') w7) ∧ Hid (OutE w1 w7 br B p r0 a' (k + 1) c' ∧ msR w7 br p.length = 0) := by
  have hrowA := hrow.fr hf (fun j hj => by omega)
  have hs1 := hf.size
  obtain ⟨a', c', w7, vs, hrun, hown, hJ, hf7⟩ := hrowA.appJ (v := [.int .i64 k4, .int .i32 r4, .slice sa4 sn4 sc4, .bool nt4, .int .i64 l4, .int .i64 h4, .slice pa4 pn4 pc4]) (by omega) hk ⟨k4, r4, sa4, sn4, sc4, nt4, l4, h4, pa4, pn4, pc4, rfl⟩
  have hx7 := hx.fr hf7 (fun j hj => by omega)
  exact ⟨a', c', w7, hrun, ⟨e, vs, he, hr0, hown, hJ, by omega, hx7, (hf1.trans hf (fun j _ hj => by omega)).trans hf7 (fun j _ hj => Or.inr hj)⟩, hx7.ms he⟩

set_option maxHeartbeats 8000000 in
theorem rpieces_any (rec : Rec) (br : Nat) (p l : List Int) (n o : Nat) (w : World) (hs : RecS rec) (hrec : o < 16 → AltsD rec (o + 1)) (hnz : o ≠ 16 → RecNZ rec (o + 1)) (hend : RecEnd rec) (hp5 : p.length ≤ 99999) (h : RfN w br p l n o) :
    Calls Try.prog 25 #[.pointer (some ⟨br, 0, none⟩)] w (RfAns w br p o (altR rec l n o)) := by
  have hbr := h.lt
  obtain ⟨w1, hw1, hb1, hg1⟩ := res7 w
  obtain ⟨B, hB⟩ : ∃ B, w1.heap.size = B := ⟨_, rfl⟩
  have hwB : w.heap.size < B := by rw [← hB]; exact heap_lt hg1
  have hbrB : br < B := by omega
  have HGR : Hid (∀ W, Fr (fun j => j = br ∨ B ≤ j) w1 W → W.heap[w.heap.size]? = some (.cells #[.int .i64 0, .int .i32 0, .slice none 0 0, .bool false, .int .i64 0, .int .i64 0, .slice none 0 0] 26 (0, 0))) := fun W hW => (hW.block _ (heap_lt hg1) (fun e => by omega)).trans hg1
  obtain ⟨r0, hr0⟩ : ∃ r0, pcs0 rec l n o = r0 := ⟨_, rfl⟩
  obtain ⟨R0, hR0⟩ : ∃ R0, altR rec l n o = R0 := ⟨_, rfl⟩
  rw [hR0]
  have HRE : Hid (∀ e, r0 = .error e → R0 = .error e) := by rintro e rfl; rw [← hR0, altR, hr0]
  have HRO : Hid (∀ xs l' n', r0 = .ok (xs, l', n') → R0 = .ok (joinR 8 xs, l', n')) := by rintro xs l' n' rfl; rw [← hR0, altR, hr0]
  have HST : Hid (OutN rec w1 w1 br B p o r0 none 0 0) := ⟨[], l, n, l.length + 1, RowN.nil _ _, h.below hb1, Fr.refl _ _, by omega, by rw [← pcs0_head]; exact hr0, by have := h.len; omega⟩
  have HS := Lib.hid hs
  have HREC := Lib.hid hrec
  have HNZ := Lib.hid hnz
  have HEND := Lib.hid hend
  have HBR := Lib.hid hbr
  have HB1 := Lib.hid hb1
  have HW1 := Lib.hid hw1
  have HBS := Lib.hid hB
  obtain ⟨q, hq⟩ : ∃ q, p.length = q := ⟨_, rfl⟩
  have HQ := Lib.hid hq
  have hq5 : q ≤ 99999 := by omega
  clear hw1 hb1 hg1 hB hr0 hR0 hs hrec hnz hend h hq hp5
  go_enter Try.func25, Try.ntmps25
  go_upto_region 1 with fail
  rw [HW1.out]
  go_wp2_with fail
  go_loopw [3] (fun v3 wr => ∃ (a : Option Addr) (k c : Nat), v3 = .slice a k c ∧ k ≤ 1000000 ∧ Hid (OutN rec w1 wr br B p o r0 a k c ∨ OutE w1 wr br B p r0 a k c)) (fun _ wr => msR wr br p.length)
  case atStart => exact ⟨none, 0, 0, rfl, by omega, Or.inl HST.out⟩
  case round =>
    obtain ⟨a, k, c, rfl, hkb, HR⟩ := hrel
    clear HST
    obtain ⟨wz, hwz⟩ : ∃ wz, wz = wr := ⟨_, rfl⟩
    subst hwz
    rcases HR.out with HN | HE
    rotate_left
    · -- behind a fault
      obtain ⟨e, vs, he, hr0, hown, hJ, hk1, hx, hf⟩ := HE
      have HR9 := Lib.hid (HRE.out e hr0)
      have hc4 := hx.cell4
      have ge : (e == 0) = false := by simpa using he
      have gk0 : ((k : Int) == 0) = false := by simp; omega
      have hgr := HGR.out wz hf
      obtain ⟨a0, a1, a2, a3, a4, a5, a6, z0, z1, z2, z3, z4, z5, z6⟩ := row7 hgr
      have HGW := Lib.hid hgr
      have HPX : Hid (∀ W, Fr (fun j => j = w.heap.size) wz W → RfX W br p e ∧ Fr (· = br) w W) := fun W hW => RfAns.putX ((Fr.of_below (fun k => k = br ∨ w.heap.size ≤ k) HB1.out).trans hf (fun k _ h => by omega)) hx HBR.out hW
      by_cases hk : k = 1
      · have gk1 : ((k : Int) == 1) = true := by simp; omega
        obtain ⟨k4, r4, sa4, sn4, sc4, nt4, l4, h4, pa4, pn4, pc4, hvs⟩ := hJ hk
        obtain ⟨g, rfl, hBg, hgl, hcell⟩ := row_first hown (by omega) (v := [.int .i64 k4, .int .i32 r4, .slice sa4 sn4 sc4, .bool nt4, .int .i64 l4, .int .i64 h4, .slice pa4 pn4 pc4]) (fun j _ => by rw [hvs]; rfl) ⟨k4, r4, sa4, sn4, sc4, nt4, l4, h4, pa4, pn4, pc4, rfl⟩
        have c0 := hcell 0 _ rfl
        have c1 := hcell 1 _ rfl
        have c2 := hcell 2 _ rfl
        have c3 := hcell 3 _ rfl
        have c4 := hcell 4 _ rfl
        have c5 := hcell 5 _ rfl
        have c6 := hcell 6 _ rfl
        have gp : (0 : Int) < (k : Int) := by omega
        have gpN : 0 < k := by omega
        have HPUT := Lib.hid (put7 HGW.out (.int .i64 k4) (.int .i32 r4) (.slice sa4 sn4 sc4) (.bool nt4) (.int .i64 l4) (.int .i64 h4) (.slice pa4 pn4 pc4))
        clear hown hJ hx hf hcell hvs hgr hr0 he hk HR
        go_wp2
        refine bodyPost_ret (v := .agg #[.int .i64 k4, .int .i32 r4, .slice sa4 sn4 sc4, .bool nt4, .int .i64 l4, .int .i64 h4, .slice pa4 pn4 pc4]) ?_ rfl ?_
        · rw [results_cell1 rfl]
          go_simp
        · show RfAns w br p o R0 _ _
          rw [HR9.out]
          exact RfAns.err (HPX.out _ HPUT.out.2)
      · have gk1 : ((k : Int) == 1) = false := by simp; omega
        have HPUT := Lib.hid (put7 HGW.out (.int .i64 8) (.int .i32 0) (.slice none 0 0) (.bool false) (.int .i64 0) (.int .i64 0) (.slice a k c))
        clear hown hJ hx hf hgr hr0 he hk HR
        go_wp2
        refine bodyPost_ret (v := .agg #[.int .i64 8, .int .i32 0, .slice none 0 0, .bool false, .int .i64 0, .int .i64 0, .slice a k c]) ?_ rfl ?_
        · rw [results_cell1 rfl]
          go_simp
        · show RfAns w br p o R0 _ _
          rw [HR9.out]
          exact RfAns.err (HPX.out _ HPUT.out.2)
    obtain ⟨acc, l1, n1, f, hrow, hrf, hf1, hlf, hhd, hkl⟩ := HN
    obtain ⟨pa, pcap, i, e0, e1, e2, e3, e4, fz, hr, hsi, hl, hi, hn, hp, ho⟩ := hrf.cells
    rw [HQ.out] at e0 hi
    have hzB : B ≤ wz.heap.size := by have := hf1.size; have := HBS.out; omega
    have hkq : k ≤ 100000 := by have := HQ.out; omega
    have hk0 : k = acc.length := hrow.1
    have HENDS : Hid (Calls Try.prog 28 #[.pointer (some ⟨br, 0, none⟩), .int .i64 (i : Nat)] wz fun e w' => e = .returned (.bool (ended l1)) ∧ Below wz.heap.size wz w') := by
      have := ends_any br p i n1 o 0 i wz hsi (by omega)
      rw [← hl] at this
      exact this
    cases hen : ended l1 with
    | true =>
      rw [hen] at HENDS
      have HR9 := Lib.hid (HRO.out _ _ _ (hhd.symm.trans (head_end rec o f acc l1 n1 hen hlf)))
      have HFZ : Hid (∀ W, Below wz.heap.size wz W → Fr (fun j => j = br ∨ B ≤ j) w1 W ∧ RowN W B a k c acc ∧ RfN W br p l1 n1 o) := fun W hW => ⟨hf1.trans (Fr.of_below (fun _ => False) hW) (fun _ _ h => h.elim), hrow.fr (Fr.of_below (fun _ => False) hW) (fun _ h => h.elim), hrf.below hW⟩
      have HPO : Hid (∀ (W W' : World) (y : Re) (v : List Value), Below wz.heap.size wz W → ReAt (fun j => B ≤ j ∧ j < W.heap.size) W v y → Fr (fun j => j = w.heap.size) W W' → ReAt (New w W') W' v y ∧ RfN W' br p l1 n1 o ∧ Fr (· = br) w W') := by
        intro W W' y v hW hre hW'
        obtain ⟨g1, g2, g3⟩ := HFZ.out W hW
        exact RfAns.put (by have := g1.size; have := HBS.out; omega) ((Fr.of_below (fun k => k = br ∨ w.heap.size ≤ k) HB1.out).trans g1 (fun k _ h => by omega)) (ReAt.mono (fun j hj => ⟨by have := hj.1; omega, hj.2⟩) y hre) g3 HBR.out hW'
      clear hr hsi hl hi hn hp fz e0 e2 e3 hen hhd hlf hrf hf1 hrow HR
      have HEX : Hid ((k = 0 ∧ R0 = .ok (Re.one 0, l1, n1)) ∨ (∃ x, k = 1 ∧ R0 = .ok (x, l1, n1) ∧ ∀ W, Below wz.heap.size wz W → ∃ g k4 r4 sa4 sn4 sc4 nt4 l4 h4 pa4 pn4 pc4, a = some ⟨g, 0, none⟩ ∧ g < W.heap.size ∧ ReAt (Lb W B a) W [.int .i64 k4, .int .i32 r4, .slice sa4 sn4 sc4, .bool nt4, .int .i64 l4, .int .i64 h4, .slice pa4 pn4 pc4] x ∧ ∀ j u, [Value.int .i64 k4, .int .i32 r4, .slice sa4 sn4 sc4, .bool nt4, .int .i64 l4, .int .i64 h4, .slice pa4 pn4 pc4][j]? = some u → W.cell? ⟨g, j, none⟩ = some u) ∨ (2 ≤ k ∧ R0 = .ok (.mk 8 0 [] false 0 0 acc, l1, n1))) := by
        have h1 := HR9.out
        have h2 := HFZ.out
        clear HR9 HFZ HPO
        match acc, hk0, h1, h2 with
        | [], hk0, h1, h2 => exact Or.inl ⟨hk0, h1⟩
        | [x], hk0, h1, h2 => exact Or.inr (Or.inl ⟨x, hk0, h1, fun W hW => (h2 W hW).2.1.first⟩)
        | x :: y :: xs, hk0, h1, h2 => exact Or.inr (Or.inr ⟨by rw [hk0]; simp, h1⟩)
      clear hk0 HR9
      rcases HEX.out with ⟨hk0, hR9⟩ | ⟨x, hk0, hR9, hfst⟩ | ⟨hk0, hR9⟩
      · have gk0 : ((k : Int) == 0) = true := by simp; omega
        have HR9 := Lib.hid hR9
        clear hk0 hR9 HEX
        go_wp2_with (go_at_call 28; refine HENDS.out.mono ?_; rintro e w9 ⟨rfl, hb9⟩; have HB9 := Lib.hid hb9; have HG9 := Lib.hid (HGR.out w9 (HFZ.out w9 hb9).1); clear hb9; obtain ⟨a0, a1, a2, a3, a4, a5, a6, z0, z1, z2, z3, z4, z5, z6⟩ := row7 HG9.out)
        have HPUT := Lib.hid (put7 HG9.out (.int .i64 0) (.int .i32 0) (.slice none 0 0) (.bool false) (.int .i64 0) (.int .i64 0) (.slice none 0 0))
        refine bodyPost_ret (v := .agg #[.int .i64 0, .int .i32 0, .slice none 0 0, .bool false, .int .i64 0, .int .i64 0, .slice none 0 0]) ?_ rfl ?_
        · rw [results_cell1 rfl]
          go_simp
        · show RfAns w br p o R0 _ _
          rw [HR9.out]
          refine RfAns.ok ?_
          exact HPO.out w9 _ (Re.one 0) [.int .i64 0, .int .i32 0, .slice none 0 0, .bool false, .int .i64 0, .int .i64 0, .slice none 0 0] HB9.out (ReAt.zero _ _) HPUT.out.2
      · have gk1 : ((k : Int) == 1) = true := by simp; omega
        have gk0 : ((k : Int) == 0) = false := by simp; omega
        have gp : (0 : Int) < (k : Int) := by omega
        have gpN : 0 < k := by omega
        have HR9 := Lib.hid hR9
        clear hk0 hR9 HEX
        have HFST := Lib.hid hfst
        clear hfst
        go_upto_region 8 with (go_at_call 28; refine HENDS.out.mono ?_; rintro e w9 ⟨rfl, hb9⟩; have HB9 := Lib.hid hb9; have HG9 := Lib.hid (HGR.out w9 (HFZ.out w9 hb9).1); clear hb9; obtain ⟨a0, a1, a2, a3, a4, a5, a6, z0, z1, z2, z3, z4, z5, z6⟩ := row7 HG9.out)
        obtain ⟨g, k4, r4, sa4, sn4, sc4, nt4, l4, h4, pa4, pn4, pc4, rfl, -, hre, hcell⟩ := HFST.out w9 HB9.out
        have c0 := hcell 0 _ rfl
        have c1 := hcell 1 _ rfl
        have c2 := hcell 2 _ rfl
        have c3 := hcell 3 _ rfl
        have c4 := hcell 4 _ rfl
        have c5 := hcell 5 _ rfl
        have c6 := hcell 6 _ rfl
        have HRE9 := Lib.hid hre
        have HPUT := Lib.hid (put7 HG9.out (.int .i64 k4) (.int .i32 r4) (.slice sa4 sn4 sc4) (.bool nt4) (.int .i64 l4) (.int .i64 h4) (.slice pa4 pn4 pc4))
        clear hre hcell
        go_wp2
        refine bodyPost_ret (v := .agg #[.int .i64 k4, .int .i32 r4, .slice sa4 sn4 sc4, .bool nt4, .int .i64 l4, .int .i64 h4, .slice pa4 pn4 pc4]) ?_ rfl ?_
        · rw [results_cell1 rfl]
          go_simp
        · show RfAns w br p o R0 _ _
          rw [HR9.out]
          refine RfAns.ok ?_
          exact HPO.out w9 _ x [.int .i64 k4, .int .i32 r4, .slice sa4 sn4 sc4, .bool nt4, .int .i64 l4, .int .i64 h4, .slice pa4 pn4 pc4] HB9.out (ReAt.mono (fun j hj => ⟨hj.1, hj.2.1⟩) _ HRE9.out) HPUT.out.2
      · have gk1 : ((k : Int) == 1) = false := by simp; omega
        have gk0 : ((k : Int) == 0) = false := by simp; omega
        have HR9 := Lib.hid hR9
        clear hk0 hR9 HEX
        go_wp2_with (go_at_call 28; refine HENDS.out.mono ?_; rintro e w9 ⟨rfl, hb9⟩; have HB9 := Lib.hid hb9; have HG9 := Lib.hid (HGR.out w9 (HFZ.out w9 hb9).1); clear hb9; obtain ⟨a0, a1, a2, a3, a4, a5, a6, z0, z1, z2, z3, z4, z5, z6⟩ := row7 HG9.out)
        have HPUT := Lib.hid (put7 HG9.out (.int .i64 8) (.int .i32 0) (.slice none 0 0) (.bool false) (.int .i64 0) (.int .i64 0) (.slice a k c))
        refine bodyPost_ret (v := .agg #[.int .i64 8, .int .i32 0, .slice none 0 0, .bool false, .int .i64 0, .int .i64 0, .slice a k c]) ?_ rfl ?_
        · rw [results_cell1 rfl]
          go_simp
        · show RfAns w br p o R0 _ _
          rw [HR9.out]
          refine RfAns.ok ?_
          exact HPO.out w9 _ (.mk 8 0 [] false 0 0 acc) [.int .i64 8, .int .i32 0, .slice none 0 0, .bool false, .int .i64 0, .int .i64 0, .slice a k c] HB9.out ((HFZ.out w9 HB9.out).2.1.join 8) HPUT.out.2
    | false =>
      rw [hen] at HENDS
      obtain ⟨b1, hb1⟩ : ∃ b1, ((k : Int) == 0) = b1 := ⟨_, rfl⟩
      have HATM : Hid (∀ W b2, Below wz.heap.size wz W → Calls Try.prog 29 #[.pointer (some ⟨br, 0, none⟩), .bool b1, .bool b2] W (RfAns W br p o (pce rec o acc l1 n1))) := by
        intro W b2 hW
        have hrW := hrf.below hW
        unfold pce
        cases hab : atBeg acc l1 with
        | true =>
          have hab2 := hab
          simp only [atBeg, Bool.and_eq_true] at hab2
          have ha : acc = [] := List.isEmpty_iff.1 hab2.1
          have hbt : b1 = true := by rw [← hb1, hk0, ha]; rfl
          have hpd := pre_drop hab2.2
          rw [hbt]
          rw [hpd] at hrW
          have := ratom_beg br p (l1.drop [94].length) n1 o W b2 hrW
          exact this
        | false =>
          match l1, hen, hrW, hab with
          | [], hen, _, _ => cases hen
          | d :: l2, hen, hrW, hab =>
            refine ratom_any rec br p l2 d n1 o W b1 b2 HREC.out HNZ.out HEND.out (by have := HQ.out; omega) hrW ?_
            by_cases ha : acc = []
            · refine Or.inr ?_
              rintro rfl
              subst ha
              simp [atBeg, pre, List.isPrefixOf] at hab
            · refine Or.inl ?_
              have : 0 < acc.length := List.length_pos_iff.2 ha
              rw [← hb1]; simp; omega
      have hr1 : ∃ (r1 : Rs (Re × List Int)) (n2 : Nat), (((∃ c, c ≠ 0 ∧ pce rec o acc l1 n1 = .error c ∧ r1 = .error c) ∨ (∃ x l, pce rec o acc l1 n1 = .ok (x, l, n2) ∧ r1 = rpX x l)) ∧ (∀ e, r1 = .error e → r0 = .error e) ∧ (∀ y l3, r1 = .ok (y, l3) → (∃ f', l3.length < f' ∧ headF rec o f' (acc ++ [y]) l3 n2 = r0) ∧ l3.length < l1.length)) := by
        cases hpc : pce rec o acc l1 n1 with
        | error c =>
          refine ⟨.error c, 0, Or.inl ⟨c, pce_nz HNZ.out hen hpc, rfl, rfl⟩, fun e he => ?_, fun y l3 h => by cases h⟩
          simp only [Except.error.injEq] at he
          subst he
          rw [← hhd]
          exact head_err rec o f acc l1 n1 hen hlf c hpc
        | ok qa =>
          obtain ⟨x, l2, n2⟩ := qa
          refine ⟨rpX x l2, n2, Or.inr ⟨x, l2, rfl, rfl⟩, fun e he => ?_, fun y l3 h => ?_⟩
          · rw [← hhd]
            exact head_go_err hen hlf hpc he
          · obtain ⟨⟨f', h1, h2⟩, h3⟩ := head_go_ok HS.out hen hlf hpc h
            exact ⟨⟨f', h1, h2.symm.trans hhd⟩, h3⟩
      obtain ⟨r1, n2, hr1a, hr1b, hr1c⟩ := hr1
      have HRA := Lib.hid hr1a
      have HRB := Lib.hid hr1b
      have HRC := Lib.hid hr1c
      have hbrz : br < wz.heap.size := hrf.lt
      have HMS : Hid (msR wz br p.length = l1.length + 1) := hrf.ms
      have HROW := Lib.hid hrow
      have HF1 := Lib.hid hf1
      have HKL := Lib.hid hkl
      have HB0 := Lib.hid hb1
      have HKA := Lib.hid hk0
      have HK01 : Hid (k = 0 ∨ (k = 1 ∧ ∀ W, Below wz.heap.size wz W → ∃ g kk, a = some ⟨g, 0, none⟩ ∧ W.cell? ⟨g, 0, none⟩ = some (.int .i64 kk)) ∨ 2 ≤ k) := by
        have hrow' := hrow
        match acc, hk0, hrow' with
        | [], hk0, _ => exact Or.inl hk0
        | [x], hk0, hrow' =>
          refine Or.inr (Or.inl ⟨hk0, fun W hW => ?_⟩)
          obtain ⟨g, k4, r4, sa4, sn4, sc4, nt4, l4, h4, pa4, pn4, pc4, e, -, -, hc⟩ := (hrow'.fr (Fr.of_below (fun _ => False) hW) (fun _ h => h.elim)).first
          exact ⟨g, k4, e, hc 0 _ rfl⟩
        | x :: y :: xs, hk0, _ => exact Or.inr (Or.inr (by rw [hk0]; simp))
      clear hr hsi hl hi hn hp fz e0 e2 e3 hen hhd hlf hrf hf1 hrow HR hr1a hr1b hr1c hkl hk0 hb1
      go_upto_region 3 with (go_at_call 28; refine HENDS.out.mono ?_; rintro e w9 ⟨rfl, hb9⟩; have HB9 := Lib.hid hb9; clear hb9)
      go_cut [4] from 20 to 34 (fun v4 wx => ∃ b2, v4 = .bool b2 ∧ wx = w9)
      case first =>
        rcases HK01.out with h0 | ⟨h0, hg⟩ | h0
        · have gk0 : ((k : Int) == 0) = true := by simp; omega
          clear h0
          go_wp2
          go_meet
          exact ⟨_, rfl, rfl⟩
        · obtain ⟨g, kk, rfl, hcc⟩ := hg w9 HB9.out
          have gk0 : ((k : Int) == 0) = false := by simp; omega
          have gk1 : ((k : Int) == 1) = true := by simp; omega
          have gp : (0 : Int) < (k : Int) := by omega
          have gpN : 0 < k := by omega
          clear h0 hg
          go_wp2
          go_meet
          exact ⟨_, rfl, rfl⟩
        · have gk0 : ((k : Int) == 0) = false := by simp; omega
          have gk1 : ((k : Int) == 1) = false := by simp; omega
          clear h0
          go_wp2
          go_meet
          exact ⟨_, rfl, rfl⟩
      case rest =>
      obtain ⟨b2, rfl, hwx⟩ := hcut
      have hwx2 := hwx.symm
      subst hwx2
      have gb1 := HB0.out
      go_upto_region 5 with (go_at_call 29; refine (HATM.out _ b2 HB9.out).mono ?_; intro e w5 hh; obtain ⟨k4, r4, sa4, sn4, sc4, nt4, l4, h4, pa4, pn4, pc4, w6, he, hw6, HZ5, HI6⟩ := inn_start HB9.out hbrz HRA.out hh; subst he; clear hh)
      (try rw [hw6])
      obtain ⟨X, hX⟩ : ∃ X, w5.heap.size = X := ⟨_, rfl⟩
      rw [hX] at HI6 HZ5
      (try rw [hX])
      clear hw6 hX gb1 e1 e4
      go_loopw [] (fun wr => Hid (InnN wz wr br X p o n2 r1 ∨ InnE wz wr br X p r1)) (fun wr => msR wr br p.length)
      case atStart => exact HI6
      case round =>
        have HI := hrel
        clear hrel HI6
        rcases HI.out with HN | HE
        rotate_left
        · obtain ⟨e, he, hre, ⟨k4, r4, sa4, sn4, sc4, nt4, l4, h4, pa4, pn4, pc4, hX9⟩, hx, hf⟩ := HE
          have hc4 := hx.cell4
          have ge : (e == 0) = false := by simpa using he
          obtain ⟨a', c', w7, hrun, HO7⟩ := out_err (k4 := k4) (r4 := r4) (sa4 := sa4) (sn4 := sn4) (sc4 := sc4) (nt4 := nt4) (l4 := l4) (h4 := h4) (pa4 := pa4) (pn4 := pn4) (pc4 := pc4) HROW.out hzB hbrB HF1.out hf hx he (HRB.out e hre) hkq
          clear hf hx he hre HI
          obtain ⟨x0, x1, x2, x3, x4, x5, x6, -⟩ := row7 hX9
          have HRUN := Lib.hid hrun
          clear hrun hX9
          go_wp2_with (at_builtin; with_reducible refine Lib.wpList_append_run _ rfl (.tmp 70) (.tmp 72) _ _ rfl _ _ rfl rfl _ _ (HRUN.out _) ?_)
          go_roundw
          case rel => exact ⟨a', k + 1, c', rfl, by omega, Or.inr HO7.out.1⟩
          case measure => have h1 := HO7.out.2; have h2 := HMS.out; omega
        obtain ⟨x, l2, ⟨k4, r4, sa4, sn4, sc4, nt4, l4, h4, pa4, pn4, pc4, hXg, hre⟩, hrf, hf, hcase⟩ := HN
        have hk4 : k4 = x.kd := by obtain ⟨st, ps, rfl, _⟩ := ReAt.full hre; rfl
        obtain ⟨pa, pcap, i, e0, e1, e2, e3, e4, fz, hr, hsi, hl, hi, hn, hp, ho⟩ := hrf.cells
        have hiq : i ≤ 100000 := by have := HQ.out; omega
        rcases hcase with ⟨hkd, hr1⟩ | ⟨hkd, f2, hlf2, hr1⟩
        · -- a beginning: nothing repeats it
          have g4 : (k4 != 4) = false := by rw [hk4, hkd]; decide
          obtain ⟨hst, hll⟩ := HRC.out x l2 hr1
          obtain ⟨hX9, a', c', w7, hrun, HO7⟩ := out_next (Below.refl _ wr) HROW.out hzB hbrB HF1.out hf hXg hre hrf (by have := HQ.out; omega) HKL.out hll hst
          clear hre hrf hf hkd hr1 hk4 e0 e1 e2 e3 fz hr hsi hl hi hn hp hXg hst hll HI
          obtain ⟨x0, x1, x2, x3, x4, x5, x6, -⟩ := row7 hX9
          have HRUN := Lib.hid hrun
          clear hrun hX9
          go_wp2_with (at_builtin; with_reducible refine Lib.wpList_append_run _ rfl (.tmp 70) (.tmp 72) _ _ rfl _ _ rfl rfl _ _ (HRUN.out _) ?_)
          go_roundw
          case rel => exact ⟨a', k + 1, c', rfl, by omega, Or.inl HO7.out.1⟩
          case measure => have h1 := HO7.out.2; have h2 := HMS.out; omega
        have g4 : (k4 != 4) = true := by rw [hk4]; simpa using hkd
        have HI42 : Hid (Calls Try.prog 26 #[.pointer (some ⟨br, 0, none⟩), .int .i64 (i : Nat), .string ⟨#[42]⟩] wr fun e w' => e = .returned (.bool (pre [42] l2)) ∧ Below wr.heap.size wr w') := by
          have := is_42 br p i n2 o 0 i wr hsi (by omega)
          rw [← hl] at this
          exact this
        have HI123 : Hid (∀ W, Below wr.heap.size wr W → Calls Try.prog 26 #[.pointer (some ⟨br, 0, none⟩), .int .i64 (i : Nat), .string ⟨#[92, 123]⟩] W fun e w' => e = .returned (.bool (pre [92, 123] l2)) ∧ Below W.heap.size W w') := by
          intro W hW
          have := is_123 br p i n2 o 0 i W (hsi.fr (Fr.of_below (fun _ => False) hW) (fun _ h => h.elim)) (by omega)
          rw [← hl] at this
          exact this
        have HLKA : Hid (∀ W, Below wr.heap.size wr W → W.cell? ⟨br, 1, none⟩ = some (.int .i64 (i : Nat))) := fun W hW => (hW.cell (p := ⟨br, 1, none⟩) hrf.lt).trans e1
        have hxz : wz.heap.size ≤ X := HZ5.out
        have HXG := Lib.hid hXg
        have HRE8 := Lib.hid hre
        have HRF := Lib.hid hrf
        have HFF := Lib.hid hf
        have HLF := Lib.hid hlf2
        have HR1 := Lib.hid hr1
        obtain ⟨x0, -⟩ := row7 hXg
        have HREP : Hid (∀ W, Below wr.heap.size wr W → (pre [42] l2 = true ∨ pre [92, 123] l2 = true) → Calls Try.prog 30 #[.pointer (some ⟨br, 0, none⟩), .agg #[.int .i64 k4, .int .i32 r4, .slice sa4 sn4 sc4, .bool nt4, .int .i64 l4, .int .i64 h4, .slice pa4 pn4 pc4]] W (RpA W br p n2 o (fun k => wz.heap.size ≤ k ∧ k ≠ X ∧ k < wr.heap.size) (rep1 x l2))) := by
          intro W hW hpre
          exact repeat_any br p l2 n2 o W (HRF.out.below hW) x _ k4 r4 sa4 sn4 sc4 nt4 l4 h4 pa4 pn4 pc4 (ReAt.frF (Fr.of_below (fun _ => False) hW) (fun _ _ h => h) x HRE8.out) (fun j hj => by have := hW.size; have := hj.2.2; omega) (fun hj => by have := hj.1; omega) hpre
        clear hre hrf hf hkd hr1 hk4 e0 e2 e3 fz hr hsi hl hi hn hp hXg hlf2 HI
        cases h42 : pre [42] l2 with
        | true =>
          rw [h42] at HI42
          have HPRE : Hid (pre [42] l2 = true ∨ pre [92, 123] l2 = true) := Or.inl h42
          clear h42
          go_upto_region 6 with (go_at_call 26; refine HI42.out.mono ?_; rintro e wa ⟨rfl, hba⟩; have HBA := Lib.hid hba; clear hba)
          have hxa := (HBA.out.block X (heap_lt HXG.out)).trans HXG.out
          obtain ⟨y0, y1, y2, y3, y4, y5, y6, -⟩ := row7 hxa
          clear hxa x0
          go_wp2_with (go_at_call 30; refine (HREP.out _ HBA.out HPRE.out).mono ?_; intro e w8 hh; obtain ⟨k5, r5, sa5, sn5, sc5, nt5, l5, h5, pa5, pn5, pc5, he, hx8, HFIN⟩ := inn_next HBA.out HFF.out hbrz hxz HXG.out HPRE.out HLF.out HR1.out HRF.out hh; subst he; clear hh; obtain ⟨b0, b1', b2', b3, b4, b5, b6, z0, z1, z2, z3, z4, z5, z6⟩ := row7 hx8; have HPUT := Lib.hid (put7 hx8 (.int .i64 k5) (.int .i32 r5) (.slice sa5 sn5 sc5) (.bool nt5) (.int .i64 l5) (.int .i64 h5) (.slice pa5 pn5 pc5)); clear hx8)
          have HEND2 := Lib.hid (HFIN.out _ HPUT.out.1 HPUT.out.2)
          clear HPUT HFIN
          go_roundw
          case rel => exact HEND2.out.1
          case measure => exact HEND2.out.2
        | false =>
          rw [h42] at HI42
          have tk1 : True := trivial
          have tk2 : True := trivial
          cases h123 : pre [92, 123] l2 with
          | true =>
            have HPRE : Hid (pre [42] l2 = true ∨ pre [92, 123] l2 = true) := Or.inr h123
            rw [h123] at HI123
            clear h42 h123
            go_upto_region 6 with (first
              | (go_at_call 26; have _t := tk1; refine HI42.out.mono ?_; clear tk1 _t; rintro e wy ⟨rfl, hba⟩; have d1 := HLKA.out wy hba; have HBY := Lib.hid hba; clear hba)
              | (go_at_call 26; have _t := tk2; refine (HI123.out _ HBY.out).mono ?_; clear tk2 _t; rintro e wa ⟨rfl, hba⟩; have HBA := Lib.hid (HBY.out.trans (hba.mono HBY.out.size)); clear hba))
            clear d1
            have hxa := (HBA.out.block X (heap_lt HXG.out)).trans HXG.out
            obtain ⟨y0, y1, y2, y3, y4, y5, y6, -⟩ := row7 hxa
            clear hxa x0
            go_wp2_with (go_at_call 30; refine (HREP.out _ HBA.out HPRE.out).mono ?_; intro e w8 hh; obtain ⟨k5, r5, sa5, sn5, sc5, nt5, l5, h5, pa5, pn5, pc5, he, hx8, HFIN⟩ := inn_next HBA.out HFF.out hbrz hxz HXG.out HPRE.out HLF.out HR1.out HRF.out hh; subst he; clear hh; obtain ⟨b0, b1', b2', b3, b4, b5, b6, z0, z1, z2, z3, z4, z5, z6⟩ := row7 hx8; have HPUT := Lib.hid (put7 hx8 (.int .i64 k5) (.int .i32 r5) (.slice sa5 sn5 sc5) (.bool nt5) (.int .i64 l5) (.int .i64 h5) (.slice pa5 pn5 pc5)); clear hx8)
            have HEND2 := Lib.hid (HFIN.out _ HPUT.out.1 HPUT.out.2)
            clear HPUT HFIN
            go_roundw
            case rel => exact HEND2.out.1
            case measure => exact HEND2.out.2
          | false =>
            rw [h123] at HI123
            obtain ⟨g2, hg2⟩ : ∃ g2, f2 = g2 + 1 := ⟨f2 - 1, by have := HLF.out; omega⟩
            have hr1' : r1 = .ok (x, l2) := by rw [← HR1.out, hg2]; exact reps_stop g2 x l2 h42 h123
            obtain ⟨hst, hll⟩ := HRC.out x l2 hr1'
            have HAPP : Hid (∀ WA, Below wr.heap.size wr WA → WA.heap[X]? = some (.cells #[.int .i64 k4, .int .i32 r4, .slice sa4 sn4 sc4, .bool nt4, .int .i64 l4, .int .i64 h4, .slice pa4 pn4 pc4] 26 (0, 0)) ∧ ∃ a' c' w7, (∀ ty, (Builtin.append_ #[24, 24] ty #[.slice a k c, .slice (some ⟨WA.heap.size, 0, none⟩) 1 1]).run Try.prog (WA.alloc (.cells #[.int .i64 k4, .int .i32 r4, .slice sa4 sn4 sc4, .bool nt4, .int .i64 l4, .int .i64 h4, .slice pa4 pn4 pc4] 26)) = .ok (.slice a' (k + 1) c') w7) ∧ Hid (OutN rec w1 w7 br B p o r0 a' (k + 1) c' ∧ msR w7 br p.length < l1.length + 1)) := fun WA hWA => out_next hWA HROW.out hzB hbrB HF1.out HFF.out HXG.out HRE8.out HRF.out (by have := HQ.out; omega) HKL.out hll hst
            clear h42 h123 hr1' hst hll hg2
            go_upto_region 7 with (first
              | (go_at_call 26; have _t := tk1; refine HI42.out.mono ?_; clear tk1 _t; rintro e wy ⟨rfl, hba⟩; have d1 := HLKA.out wy hba; have HBY := Lib.hid hba; clear hba)
              | (go_at_call 26; have _t := tk2; refine (HI123.out _ HBY.out).mono ?_; clear tk2 _t; rintro e wa ⟨rfl, hba⟩; have HBA := Lib.hid (HBY.out.trans (hba.mono HBY.out.size)); clear hba))
            obtain ⟨hX9, a', c', w7, hrun, HO7⟩ := HAPP.out wa HBA.out
            clear x0 d1 e1 e4
            obtain ⟨x0, x1, x2, x3, x4, x5, x6, -⟩ := row7 hX9
            have HRUN := Lib.hid hrun
            clear hrun hX9
            go_wp2_with (at_builtin; with_reducible refine Lib.wpList_append_run _ rfl (.tmp 70) (.tmp 72) _ _ rfl _ _ rfl rfl _ _ (HRUN.out _) ?_)
            go_roundw
            case rel => exact ⟨a', k + 1, c', rfl, by omega, Or.inl HO7.out.1⟩
            case measure => have h1 := HO7.out.2; have h2 := HMS.out; omega
end Go.Proofs.Ytkjiobbkbhmijaa.U
