/-
  The document's reader: alternatives.
-/
import Derived.Test.YtkjiobbkbhmijaaRfPcs
namespace Go.Proofs.Ytkjiobbkbhmijaa.U
open Go.RowKit
set_option linter.unusedVariables false
set_option linter.unusedSimpArgs false
set_option maxRecDepth 100000

/-- at the head of the loop over alternatives -/
def AltN (rec : Rec) (w1 wr : World) (br B : Nat) (p : List Int) (o : Nat) (r0 : Rs (List Re × List Int × Nat)) (a : Option Addr) (k c : Nat) : Prop :=
  ∃ acc l n f, RowN wr B a k c acc ∧ RfN wr br p l n o ∧ Fr (fun j => j = br ∨ B ≤ j) w1 wr ∧ l.length < f ∧ altsL rec o f acc l n = r0 ∧ k + l.length ≤ p.length + 1 ∧ 1 ≤ k
theorem row_one {w : World} {B : Nat} {G : Nat → Prop} {v : List Value} {x : Re} (hB : B ≤ w.heap.size) (hx : ReAt G w v x) (hG : ∀ k, G k → B ≤ k ∧ k < w.heap.size) : RowN (w.alloc (.cells v.toArray 26)) B (some ⟨w.heap.size, 0, none⟩) 1 1 [x] := by
  have hb := bal w (.cells v.toArray 26)
  have ho := own_of (B := B) (n := 1) (cap := 1) (size := 7) (heap_alloc_new w (.cells v.toArray 26)) hB (Nat.le_refl _) (by unfold maxLen; omega) (by simp [hx.rev7.len])
  refine ⟨rfl, _, ho, ?_⟩
  have e : (v.toArray.toList.take (1 * 7)) = v := by
    rw [List.take_of_length_le (by simp [hx.rev7.len])]
  rw [e]
  refine PsAt.one (ReAt.mono (fun k hk => ?_) x (ReAt.frF (Fr.of_below (fun _ => False) hb) (fun _ _ h => h) x hx))
  have h1 := hG k hk
  refine ⟨h1.1, by have := hb.size; omega, fun ad e => ?_⟩
  cases e
  show k ≠ w.heap.size
  omega
/-- the first alternative -/
theorem alt_start {rec : Rec} {w1 w5 : World} {br B : Nat} {p l : List Int} {n o : Nat} {e : Ending} {r0 : Rs (List Re × List Int × Nat)} (hs : RecS rec) (hB : w1.heap.size = B) (hbrB : br < B) (hl : l.length ≤ p.length) (hr0 : alts0 rec l n o = r0) (hnz : altR rec l n o ≠ .error 0) (h : RfAns w1 br p o (altR rec l n o) e w5) :
    ∃ k4 r4 sa4 sn4 sc4 nt4 l4 h4 pa4 pn4 pc4 w6, e = .returned (.agg #[.int .i64 k4, .int .i32 r4, .slice sa4 sn4 sc4, .bool nt4, .int .i64 l4, .int .i64 h4, .slice pa4 pn4 pc4]) ∧ w5.alloc (.cells #[.int .i64 k4, .int .i32 r4, .slice sa4 sn4 sc4, .bool nt4, .int .i64 l4, .int .i64 h4, .slice pa4 pn4 pc4] 26) = w6 ∧ Hid (AltN rec w1 w6 br B p o r0 (some ⟨w5.heap.size, 0, none⟩) 1 1 ∨ OutE w1 w6 br B p r0 (some ⟨w5.heap.size, 0, none⟩) 1 1) := by
  unfold alts0 at hr0
  cases hq : altR rec l n o with
  | error c =>
    rw [hq] at h hr0 hnz
    obtain ⟨k4, r4, sa4, sn4, sc4, nt4, l4, h4, pa4, pn4, pc4, rfl, hx, hf⟩ := h
    have hb6 := bal w5 (.cells #[.int .i64 k4, .int .i32 r4, .slice sa4 sn4 sc4, .bool nt4, .int .i64 l4, .int .i64 h4, .slice pa4 pn4 pc4] 26)
    have hsz := hf.size
    refine ⟨k4, r4, sa4, sn4, sc4, nt4, l4, h4, pa4, pn4, pc4, _, rfl, rfl, Or.inr ⟨c, [.int .i64 k4, .int .i32 r4, .slice sa4 sn4 sc4, .bool nt4, .int .i64 l4, .int .i64 h4, .slice pa4 pn4 pc4], by rintro rfl; exact hnz rfl, hr0.symm, ?_, fun _ => ⟨k4, r4, sa4, sn4, sc4, nt4, l4, h4, pa4, pn4, pc4, rfl⟩, by omega, hx.below hb6, (hf.mono (fun _ _ h => Or.inl h)).trans (Fr.of_below (fun _ => False) hb6) (fun _ _ h => h.elim)⟩⟩
    exact own_of (B := B) (n := 1) (cap := 1) (size := 7) (heap_alloc_new w5 _) (by omega) (Nat.le_refl _) (by unfold maxLen; omega) rfl
  | ok qa =>
    obtain ⟨x, l', n'⟩ := qa
    rw [hq] at h hr0
    obtain ⟨k4, r4, sa4, sn4, sc4, nt4, l4, h4, pa4, pn4, pc4, rfl, hre, hx, hf⟩ := h
    have hb6 := bal w5 (.cells #[.int .i64 k4, .int .i32 r4, .slice sa4 sn4 sc4, .bool nt4, .int .i64 l4, .int .i64 h4, .slice pa4 pn4 pc4] 26)
    have hsz := hf.size
    have hle := (altR_suffix hs hq).length_le
    exact ⟨k4, r4, sa4, sn4, sc4, nt4, l4, h4, pa4, pn4, pc4, _, rfl, rfl, Or.inl ⟨[x], l', n', l'.length + 1, row_one (by omega) hre (fun k hk => ⟨by have := hk.1; omega, hk.2⟩), hx.below hb6, (hf.mono (fun _ _ h => Or.inl h)).trans (Fr.of_below (fun _ => False) hb6) (fun _ _ h => h.elim), by omega, hr0, by omega, by omega⟩⟩
/-- an alternative more -/
theorem alt_next {rec : Rec} {w1 wr W w5 : World} {br B : Nat} {p l : List Int} {n o f k c : Nat} {a : Option Addr} {acc : List Re} {e : Ending} {r0 : Rs (List Re × List Int × Nat)} (hs : RecS rec) (hrow : RowN wr B a k c acc) (hBr : B ≤ wr.heap.size) (hbrB : br < B) (hf1 : Fr (fun j => j = br ∨ B ≤ j) w1 wr) (hW : Fr (fun j => j = br) wr W) (hp : p.length ≤ 99999) (hkl : k + l.length ≤ p.length + 1) (hlf : l.length < f) (hr0 : altsL rec o f acc l n = r0) (hpre : pre [92, 124] l = true) (hnz : altR rec (l.drop 2) n o ≠ .error 0) (h : RfAns W br p o (altR rec (l.drop 2) n o) e w5) :
    ∃ k4 r4 sa4 sn4 sc4 nt4 l4 h4 pa4 pn4 pc4 a' c' w7, e = .returned (.agg #[.int .i64 k4, .int .i32 r4, .slice sa4 sn4 sc4, .bool nt4, .int .i64 l4, .int .i64 h4, .slice pa4 pn4 pc4]) ∧ (∀ ty, (Builtin.append_ #[24, 24] ty #[.slice a k c, .slice (some ⟨w5.heap.size, 0, none⟩) 1 1]).run Try.prog (w5.alloc (.cells #[.int .i64 k4, .int .i32 r4, .slice sa4 sn4 sc4, .bool nt4, .int .i64 l4, .int .i64 h4, .slice pa4 pn4 pc4] 26)) = .ok (.slice a' (k + 1) c') w7) ∧ Hid ((AltN rec w1 w7 br B p o r0 a' (k + 1) c' ∨ OutE w1 w7 br B p r0 a' (k + 1) c') ∧ msR w7 br p.length < l.length + 1) := by
  obtain ⟨g, rfl⟩ : ∃ g, f = g + 1 := ⟨f - 1, by omega⟩
  unfold altsL at hr0
  rw [if_pos hpre] at hr0
  have hpl := pre_len hpre
  simp only [List.length_cons, List.length_nil] at hpl
  cases hq : altR rec (l.drop 2) n o with
  | error e2 =>
    rw [hq] at h hr0 hnz
    obtain ⟨k4, r4, sa4, sn4, sc4, nt4, l4, h4, pa4, pn4, pc4, rfl, hx, hf⟩ := h
    have hfz : Fr (fun j => j = br ∨ wr.heap.size ≤ j) wr w5 := (hW.mono (fun _ _ h => Or.inl h)).trans hf (fun _ _ h => Or.inl h)
    obtain ⟨a', c', w7, hrun, HO⟩ := out_err (k4 := k4) (r4 := r4) (sa4 := sa4) (sn4 := sn4) (sc4 := sc4) (nt4 := nt4) (l4 := l4) (h4 := h4) (pa4 := pa4) (pn4 := pn4) (pc4 := pc4) hrow hBr hbrB hf1 hfz hx (by rintro rfl; exact hnz rfl) hr0.symm (by omega)
    exact ⟨k4, r4, sa4, sn4, sc4, nt4, l4, h4, pa4, pn4, pc4, a', c', w7, rfl, hrun, Or.inr HO.out.1, by have := HO.out.2; omega⟩
  | ok qa =>
    obtain ⟨x, l', n'⟩ := qa
    rw [hq] at h hr0
    obtain ⟨k4, r4, sa4, sn4, sc4, nt4, l4, h4, pa4, pn4, pc4, rfl, hre, hx, hf⟩ := h
    have hfz : Fr (fun j => j = br ∨ wr.heap.size ≤ j) wr w5 := (hW.mono (fun _ _ h => Or.inl h)).trans hf (fun _ _ h => Or.inl h)
    have hrow5 := hrow.fr hfz (fun j hj => by omega)
    have hs1 := hfz.size
    have hs2 := hW.size
    have hle := (altR_suffix hs hq).length_le
    simp only [List.length_drop] at hle
    obtain ⟨a', c', w7, hrun, hrow7, hf7⟩ := hrow5.app (x := x) (v := [.int .i64 k4, .int .i32 r4, .slice sa4 sn4 sc4, .bool nt4, .int .i64 l4, .int .i64 h4, .slice pa4 pn4 pc4]) (by omega) (by omega) hre (fun j hj => by
      refine ⟨by have := hj.1; omega, hj.2, fun ad e ej => ?_⟩
      obtain ⟨_, vs, h1, _⟩ := hrow
      have h2 := (own_ad h1).1 ad e
      have h3 := (h1.lt _ h2).2
      have := hj.1
      omega)
    have hx7 := hx.fr hf7 (fun j hj => by omega)
    refine ⟨k4, r4, sa4, sn4, sc4, nt4, l4, h4, pa4, pn4, pc4, a', c', w7, rfl, hrun, Or.inl ⟨acc ++ [x], l', n', g, hrow7, hx7, (hf1.trans hfz (fun j _ hj => by omega)).trans hf7 (fun j _ hj => Or.inr hj), by omega, hr0, by omega, by omega⟩, ?_⟩
    rw [hx7.ms]
    omega
set_option maxHeartbeats 4000000 in
theorem ralts_step (rec : Rec) (o : Nat) (hs : RecS rec) (hnz : o ≠ 16 → RecNZ rec (o + 1)) (br : Nat) (p l : List Int) (n : Nat) (w : World) (hpcs : ∀ (l : List Int) (n : Nat) (w : World), RfN w br p l n o → Calls Try.prog 25 #[.pointer (some ⟨br, 0, none⟩)] w (RfAns w br p o (altR rec l n o))) (hp5 : p.length ≤ 99999) (h : RfN w br p l n o) :
    Calls Try.prog 20 #[.pointer (some ⟨br, 0, none⟩)] w (RfAns w br p o (altsR rec l n o)) := by
  have hbr := h.lt
  obtain ⟨w1, hw1, hb1, hg1⟩ := res7 w
  obtain ⟨B, hB⟩ : ∃ B, w1.heap.size = B := ⟨_, rfl⟩
  have hwB : w.heap.size < B := by rw [← hB]; exact heap_lt hg1
  have hbrB : br < B := by omega
  have HGR : Hid (∀ W, Fr (fun j => j = br ∨ B ≤ j) w1 W → W.heap[w.heap.size]? = some (.cells #[.int .i64 0, .int .i32 0, .slice none 0 0, .bool false, .int .i64 0, .int .i64 0, .slice none 0 0] 26 (0, 0))) := fun W hW => (hW.block _ (heap_lt hg1) (fun e => by omega)).trans hg1
  obtain ⟨r0, hr0⟩ : ∃ r0, alts0 rec l n o = r0 := ⟨_, rfl⟩
  obtain ⟨R0, hR0⟩ : ∃ R0, altsR rec l n o = R0 := ⟨_, rfl⟩
  rw [hR0]
  have HRE : Hid (∀ e, r0 = .error e → R0 = .error e) := by rintro e rfl; rw [← hR0, altsR, hr0]
  have HRO : Hid (∀ xs l' n', r0 = .ok (xs, l', n') → R0 = .ok (joinR 9 xs, l', n')) := by rintro xs l' n' rfl; rw [← hR0, altsR, hr0]
  have HP1 : Hid (Calls Try.prog 25 #[.pointer (some ⟨br, 0, none⟩)] w1 (RfAns w1 br p o (altR rec l n o))) := hpcs l n w1 (h.below hb1)
  have HSTART : Hid (∀ e w5, RfAns w1 br p o (altR rec l n o) e w5 → ∃ k4 r4 sa4 sn4 sc4 nt4 l4 h4 pa4 pn4 pc4 w6, e = .returned (.agg #[.int .i64 k4, .int .i32 r4, .slice sa4 sn4 sc4, .bool nt4, .int .i64 l4, .int .i64 h4, .slice pa4 pn4 pc4]) ∧ w5.alloc (.cells #[.int .i64 k4, .int .i32 r4, .slice sa4 sn4 sc4, .bool nt4, .int .i64 l4, .int .i64 h4, .slice pa4 pn4 pc4] 26) = w6 ∧ Hid (AltN rec w1 w6 br B p o r0 (some ⟨w5.heap.size, 0, none⟩) 1 1 ∨ OutE w1 w6 br B p r0 (some ⟨w5.heap.size, 0, none⟩) 1 1)) := fun e w5 h5 => alt_start hs hB hbrB h.len hr0 (altR_nz hs hnz l n) h5
  have HS := Lib.hid hs
  have HNZ := Lib.hid hnz
  have HPC := Lib.hid hpcs
  have HBR := Lib.hid hbr
  have HB1 := Lib.hid hb1
  have HW1 := Lib.hid hw1
  have HBS := Lib.hid hB
  obtain ⟨q, hq⟩ : ∃ q, p.length = q := ⟨_, rfl⟩
  have HQ := Lib.hid hq
  have hq5 : q ≤ 99999 := by omega
  clear hw1 hb1 hg1 hB hr0 hR0 hs hnz h hq hp5 hpcs
  go_enter Try.func20, Try.ntmps20
  go_upto_region 1 with fail
  rw [HW1.out]
  go_upto_region 2 with (go_at_call 25; refine HP1.out.mono ?_; intro e w5 hh; obtain ⟨k4, r4, sa4, sn4, sc4, nt4, l4, h4, pa4, pn4, pc4, w6, he, hw6, H6⟩ := HSTART.out e w5 hh; subst he; clear hh)
  (try rw [hw6])
  clear hw6
  go_loopw [3] (fun v3 wr => ∃ (a : Option Addr) (k c : Nat), v3 = .slice a k c ∧ k ≤ 1000000 ∧ Hid (AltN rec w1 wr br B p o r0 a k c ∨ OutE w1 wr br B p r0 a k c)) (fun _ wr => msR wr br p.length)
  case atStart => exact ⟨_, 1, 1, rfl, by omega, H6⟩
  case round =>
    obtain ⟨a, k, c, rfl, hkb, HR⟩ := hrel
    clear H6
    rcases HR.out with HN | HE
    rotate_left
    · -- behind a fault
      obtain ⟨e, vs, he, hr0, hown, hJ, hk1, hx, hf⟩ := HE
      have HR9 := Lib.hid (HRE.out e hr0)
      have hc4 := hx.cell4
      have ge : (e == 0) = false := by simpa using he
      have hgr := HGR.out wr hf
      obtain ⟨a0, a1, a2, a3, a4, a5, a6, z0, z1, z2, z3, z4, z5, z6⟩ := row7 hgr
      have HGW := Lib.hid hgr
      have HPX : Hid (∀ W, Fr (fun j => j = w.heap.size) wr W → RfX W br p e ∧ Fr (· = br) w W) := fun W hW => RfAns.putX ((Fr.of_below (fun k => k = br ∨ w.heap.size ≤ k) HB1.out).trans hf (fun k _ h => by omega)) hx HBR.out hW
      by_cases hk : k = 1
      · have gk1 : ((k : Int) == 1) = true := by simp; omega
        obtain ⟨k4, r4, sa4, sn4, sc4, nt4, l4, h4, pa4, pn4, pc4, hvs⟩ := hJ hk
        obtain ⟨g, rfl, hBg, hgl, hcell⟩ := row_first hown (by omega) (v := [.int .i64 k4, .int .i32 r4, .slice sa4 sn4 sc4, .bool nt4, .int .i64 l4, .int .i64 h4, .slice pa4 pn4 pc4]) (fun j _ => by rw [hvs]; rfl) ⟨k4, r4, sa4, sn4, sc4, nt4, l4, h4, pa4, pn4, pc4, rfl⟩
        have c0 := hcell 0 _ rfl
        have c1 := hcell 1 _ rfl
        have c2 := hcell 2 _ rfl
        have c3 := hcell 3 _ rfl
        have c4 := hcell 4 _ rfl
        have c5 := hcell 5 _ rfl
        have c6 := hcell 6 _ rfl
        have gp : (0 : Int) < (k : Int) := by omega
        have gpN : 0 < k := by omega
        have HPUT := Lib.hid (put7 HGW.out (.int .i64 k4) (.int .i32 r4) (.slice sa4 sn4 sc4) (.bool nt4) (.int .i64 l4) (.int .i64 h4) (.slice pa4 pn4 pc4))
        clear hown hJ hx hf hcell hvs hgr hr0 he hk HR
        go_wp2
        refine bodyPost_ret (v := .agg #[.int .i64 k4, .int .i32 r4, .slice sa4 sn4 sc4, .bool nt4, .int .i64 l4, .int .i64 h4, .slice pa4 pn4 pc4]) ?_ rfl ?_
        · rw [results_cell1 rfl]
          go_simp
        · show RfAns w br p o R0 _ _
          rw [HR9.out]
          exact RfAns.err (HPX.out _ HPUT.out.2)
      · have gk1 : ((k : Int) == 1) = false := by simp; omega
        have HPUT := Lib.hid (put7 HGW.out (.int .i64 9) (.int .i32 0) (.slice none 0 0) (.bool false) (.int .i64 0) (.int .i64 0) (.slice a k c))
        clear hown hJ hx hf hgr hr0 he hk HR
        go_wp2
        refine bodyPost_ret (v := .agg #[.int .i64 9, .int .i32 0, .slice none 0 0, .bool false, .int .i64 0, .int .i64 0, .slice a k c]) ?_ rfl ?_
        · rw [results_cell1 rfl]
          go_simp
        · show RfAns w br p o R0 _ _
          rw [HR9.out]
          exact RfAns.err (HPX.out _ HPUT.out.2)
    obtain ⟨acc, l1, n1, f, hrow, hrf, hf1, hlf, hhd, hkl, hk1⟩ := HN
    obtain ⟨pa, pcap, i, e0, e1, e2, e3, e4, fz, hr, hsi, hl, hi, hn, hp, ho⟩ := hrf.cells
    have hiq : i ≤ 99999 := by have := HQ.out; omega
    have hrB : B ≤ wr.heap.size := by have := hf1.size; have := HBS.out; omega
    have hk0 : k = acc.length := hrow.1
    have HIS : Hid (Calls Try.prog 26 #[.pointer (some ⟨br, 0, none⟩), .int .i64 (i : Nat), .string ⟨#[92, 124]⟩] wr fun e w' => e = .returned (.bool (pre [92, 124] l1)) ∧ Below wr.heap.size wr w') := by
      have := is_124 br p i n1 o 0 i wr hsi (by omega)
      rw [← hl] at this
      exact this
    have gp : (0 : Int) < (k : Int) := by omega
    have gpN : 0 < k := by omega
    cases hen : pre [92, 124] l1 with
    | false =>
      rw [hen] at HIS
      have hr0e : r0 = .ok (acc, l1, n1) := by
        rw [← hhd]
        obtain ⟨g, rfl⟩ : ∃ g, f = g + 1 := ⟨f - 1, by omega⟩
        rw [altsL, hen]
        rfl
      have HR9 := Lib.hid (HRO.out _ _ _ hr0e)
      have HFZ : Hid (∀ W, Below wr.heap.size wr W → Fr (fun j => j = br ∨ B ≤ j) w1 W ∧ RowN W B a k c acc ∧ RfN W br p l1 n1 o) := fun W hW => ⟨hf1.trans (Fr.of_below (fun _ => False) hW) (fun _ _ h => h.elim), hrow.fr (Fr.of_below (fun _ => False) hW) (fun _ h => h.elim), hrf.below hW⟩
      have HPO : Hid (∀ (W W' : World) (y : Re) (v : List Value), Below wr.heap.size wr W → ReAt (fun j => B ≤ j ∧ j < W.heap.size) W v y → Fr (fun j => j = w.heap.size) W W' → ReAt (New w W') W' v y ∧ RfN W' br p l1 n1 o ∧ Fr (· = br) w W') := by
        intro W W' y v hW hre hW'
        obtain ⟨g1, g2, g3⟩ := HFZ.out W hW
        exact RfAns.put (by have := g1.size; have := HBS.out; omega) ((Fr.of_below (fun k => k = br ∨ w.heap.size ≤ k) HB1.out).trans g1 (fun k _ h => by omega)) (ReAt.mono (fun j hj => ⟨by have := hj.1; omega, hj.2⟩) y hre) g3 HBR.out hW'
      clear hr hsi hl hi hn hp fz e0 e2 e3 hen hhd hlf hrf hf1 hrow HR hr0e
      have HEX : Hid ((k = 0 ∧ R0 = .ok (Re.one 0, l1, n1)) ∨ (∃ x, k = 1 ∧ R0 = .ok (x, l1, n1) ∧ ∀ W, Below wr.heap.size wr W → ∃ g k4 r4 sa4 sn4 sc4 nt4 l4 h4 pa4 pn4 pc4, a = some ⟨g, 0, none⟩ ∧ g < W.heap.size ∧ ReAt (Lb W B a) W [.int .i64 k4, .int .i32 r4, .slice sa4 sn4 sc4, .bool nt4, .int .i64 l4, .int .i64 h4, .slice pa4 pn4 pc4] x ∧ ∀ j u, [Value.int .i64 k4, .int .i32 r4, .slice sa4 sn4 sc4, .bool nt4, .int .i64 l4, .int .i64 h4, .slice pa4 pn4 pc4][j]? = some u → W.cell? ⟨g, j, none⟩ = some u) ∨ (2 ≤ k ∧ R0 = .ok (.mk 9 0 [] false 0 0 acc, l1, n1))) := by
        have h1 := HR9.out
        have h2 := HFZ.out
        clear HR9 HFZ HPO
        match acc, hk0, h1, h2 with
        | [], hk0, h1, h2 => exact Or.inl ⟨hk0, h1⟩
        | [x], hk0, h1, h2 => exact Or.inr (Or.inl ⟨x, hk0, h1, fun W hW => (h2 W hW).2.1.first⟩)
        | x :: y :: xs, hk0, h1, h2 => exact Or.inr (Or.inr ⟨by rw [hk0]; simp, h1⟩)
      clear hk0 HR9
      rcases HEX.out with ⟨hk0, hR9⟩ | ⟨x, hk0, hR9, hfst⟩ | ⟨hk0, hR9⟩
      · exfalso; omega
      · have gk1 : ((k : Int) == 1) = true := by simp; omega
        have gp : (0 : Int) < (k : Int) := by omega
        have gpN : 0 < k := by omega
        have HR9 := Lib.hid hR9
        clear hk0 hR9 HEX
        have HFST := Lib.hid hfst
        clear hfst
        go_upto_region 5 with (go_at_call 26; refine HIS.out.mono ?_; rintro e w9 ⟨rfl, hb9⟩; have HB9 := Lib.hid hb9; have HG9 := Lib.hid (HGR.out w9 (HFZ.out w9 hb9).1); clear hb9; obtain ⟨a0, a1, a2, a3, a4, a5, a6, z0, z1, z2, z3, z4, z5, z6⟩ := row7 HG9.out)
        obtain ⟨g, k4, r4, sa4, sn4, sc4, nt4, l4, h4, pa4, pn4, pc4, rfl, -, hre, hcell⟩ := HFST.out w9 HB9.out
        have c0 := hcell 0 _ rfl
        have c1 := hcell 1 _ rfl
        have c2 := hcell 2 _ rfl
        have c3 := hcell 3 _ rfl
        have c4 := hcell 4 _ rfl
        have c5 := hcell 5 _ rfl
        have c6 := hcell 6 _ rfl
        have HRE9 := Lib.hid hre
        have HPUT := Lib.hid (put7 HG9.out (.int .i64 k4) (.int .i32 r4) (.slice sa4 sn4 sc4) (.bool nt4) (.int .i64 l4) (.int .i64 h4) (.slice pa4 pn4 pc4))
        clear hre hcell
        go_wp2
        refine bodyPost_ret (v := .agg #[.int .i64 k4, .int .i32 r4, .slice sa4 sn4 sc4, .bool nt4, .int .i64 l4, .int .i64 h4, .slice pa4 pn4 pc4]) ?_ rfl ?_
        · rw [results_cell1 rfl]
          go_simp
        · show RfAns w br p o R0 _ _
          rw [HR9.out]
          refine RfAns.ok ?_
          exact HPO.out w9 _ x [.int .i64 k4, .int .i32 r4, .slice sa4 sn4 sc4, .bool nt4, .int .i64 l4, .int .i64 h4, .slice pa4 pn4 pc4] HB9.out (ReAt.mono (fun j hj => ⟨hj.1, hj.2.1⟩) _ HRE9.out) HPUT.out.2
      · have gk1 : ((k : Int) == 1) = false := by simp; omega
        have HR9 := Lib.hid hR9
        clear hk0 hR9 HEX
        go_wp2_with (go_at_call 26; refine HIS.out.mono ?_; rintro e w9 ⟨rfl, hb9⟩; have HB9 := Lib.hid hb9; have HG9 := Lib.hid (HGR.out w9 (HFZ.out w9 hb9).1); clear hb9; obtain ⟨a0, a1, a2, a3, a4, a5, a6, z0, z1, z2, z3, z4, z5, z6⟩ := row7 HG9.out)
        have HPUT := Lib.hid (put7 HG9.out (.int .i64 9) (.int .i32 0) (.slice none 0 0) (.bool false) (.int .i64 0) (.int .i64 0) (.slice a k c))
        refine bodyPost_ret (v := .agg #[.int .i64 9, .int .i32 0, .slice none 0 0, .bool false, .int .i64 0, .int .i64 0, .slice a k c]) ?_ rfl ?_
        · rw [results_cell1 rfl]
          go_simp
        · show RfAns w br p o R0 _ _
          rw [HR9.out]
          refine RfAns.ok ?_
          exact HPO.out w9 _ (.mk 9 0 [] false 0 0 acc) [.int .i64 9, .int .i32 0, .slice none 0 0, .bool false, .int .i64 0, .int .i64 0, .slice a k c] HB9.out ((HFZ.out w9 HB9.out).2.1.join 9) HPUT.out.2
    | true =>
      rw [hen] at HIS
      have hpl := pre_len hen
      simp only [List.length_cons, List.length_nil] at hpl
      have hll : l1.length = p.length - i := by rw [hl]; simp
      obtain ⟨i2, hi2⟩ : ∃ i2, i + 2 = i2 := ⟨_, rfl⟩
      have k2 : (i : Int) + 2 = (i2 : Int) := by omega
      have hms := hrf.ms
      have HDO : Hid (∀ wa, Below wr.heap.size wr wa → ∃ W, wa.setCell ⟨br, 1, none⟩ (.int .i64 (i2 : Nat)) = W ∧ wa.cell? ⟨br, 1, none⟩ = some (.int .i64 (i : Nat)) ∧ wa.frozen? ⟨br, 1, none⟩ = false ∧ Hid (Calls Try.prog 25 #[.pointer (some ⟨br, 0, none⟩)] W (RfAns W br p o (altR rec (l1.drop 2) n1 o))) ∧
          Hid (∀ e w5, RfAns W br p o (altR rec (l1.drop 2) n1 o) e w5 → ∃ k4 r4 sa4 sn4 sc4 nt4 l4 h4 pa4 pn4 pc4 a' c' w7, e = .returned (.agg #[.int .i64 k4, .int .i32 r4, .slice sa4 sn4 sc4, .bool nt4, .int .i64 l4, .int .i64 h4, .slice pa4 pn4 pc4]) ∧ (∀ ty, (Builtin.append_ #[24, 24] ty #[.slice a k c, .slice (some ⟨w5.heap.size, 0, none⟩) 1 1]).run Try.prog (w5.alloc (.cells #[.int .i64 k4, .int .i32 r4, .slice sa4 sn4 sc4, .bool nt4, .int .i64 l4, .int .i64 h4, .slice pa4 pn4 pc4] 26)) = .ok (.slice a' (k + 1) c') w7) ∧ Hid ((AltN rec w1 w7 br B p o r0 a' (k + 1) c' ∨ OutE w1 w7 br B p r0 a' (k + 1) c') ∧ msR w7 br p.length < msR wr br p.length))) := by
        intro wa hwa
        have hsa := hsi.fr (Fr.of_below (fun _ => False) hwa) (fun _ h => h.elim)
        obtain ⟨_, _, hlk⟩ := hsa.look
        obtain ⟨_, f1, _, _, _, ff, _, _⟩ := hlk (fun _ => False) wa (Fr.refl _ _) (fun _ h => h.elim)
        have hT := RfN.take hsa hl hi hn hp ho 2 (by omega) (i2 : Nat) (by omega)
        refine ⟨_, rfl, f1, ff 1, HPC.out _ _ _ hT.1, fun e w5 h5 => ?_⟩
        rw [hms]
        exact alt_next HS.out hrow hrB hbrB hf1 ((Fr.of_below (fun j => j = br) hwa).trans hT.2 (fun _ _ h => h)) (by have := HQ.out; omega) hkl hlf hhd hen (altR_nz HS.out HNZ.out _ _) h5
      have HKL : Hid (k + l1.length ≤ p.length + 1) := hkl
      clear hr hsi hl hi hn hp fz e0 e2 e3 hen hhd hlf hrf hf1 hrow HR hms hpl hll hi2 hkl hk0
      go_upto_region 3 with (go_at_call 26; refine HIS.out.mono ?_; rintro e wa ⟨rfl, hba⟩; obtain ⟨W, hWe, f1, ff, HC, HNX⟩ := HDO.out wa hba; clear hba)
      have HWE := Lib.hid hWe
      clear hWe e1 e4
      go_upto_region 4 with fail
      rw [HWE.out]
      clear f1 ff
      go_wp2_with (first
        | (go_at_call 25; refine HC.out.mono ?_; intro e w5 hh; obtain ⟨k4, r4, sa4, sn4, sc4, nt4, l4, h4, pa4, pn4, pc4, a', c', w7, he, hrun, HO7⟩ := HNX.out e w5 hh; subst he; clear hh; have HRUN := Lib.hid hrun; clear hrun)
        | (at_builtin; with_reducible refine Lib.wpList_append_run _ rfl (.tmp 27) (.tmp 30) _ _ rfl _ _ rfl rfl _ _ (HRUN.out _) ?_))
      go_roundw
      case rel => exact ⟨a', k + 1, c', rfl, by have := HKL.out; have := HQ.out; omega, HO7.out.1⟩
      case measure => exact HO7.out.2
theorem ralts_all : ∀ (d o : Nat), o + d = 16 → AltsD (alts (d + 1)) o
  | 0, o, h => fun br p l n w hp hr => ralts_step (alts 0) o (alts_suffix 0) (fun h16 => by omega) br p l n w (fun l n w h => rpieces_any (alts 0) br p l n o w (alts_suffix 0) (fun ho => by omega) (fun h16 => by omega) (alts_end 0) hp h) hp hr
  | d + 1, o, h => fun br p l n w hp hr => ralts_step (alts (d + 1)) o (alts_suffix (d + 1)) (fun h16 => alts_nz (d + 1) (o + 1) (by omega) (by omega)) br p l n w (fun l n w h => rpieces_any (alts (d + 1)) br p l n o w (alts_suffix (d + 1)) (fun ho => ralts_all d (o + 1) (by omega)) (fun h16 => alts_nz (d + 1) (o + 1) (by omega) (by omega)) (alts_end (d + 1)) hp h) hp hr
end Go.Proofs.Ytkjiobbkbhmijaa.U
