/-
  The walk of WordWalk. (MADE by wip/tools/gen_walk9.py.)
-/
import Derived.Test.YtnegijbdgefaoaaNAwake
import Derived.Test.YtnegijbdgefaoaaRHand
import Derived.Deep.QuietTactic
import Derived.BigQuiet
namespace Go.Proofs.Ytnegijbdgefaoaa.U
open Go.RowKit
set_option linter.unusedVariables false
set_option linter.unusedSimpArgs false
set_option maxRecDepth 100000

/-- on the way: the box b8 holds p, the row of what is wanted lies below it -/
def Jw (W : World) (b8 : Nat) (aw : Option Addr) (nW cW : Nat) (WL : List Pl) (w : World) (p : Pl) : Prop :=
  Below W.heap.size W w ∧ W.heap.size ≤ b8 ∧ w.heap[b8]? = some (.cells #[.int .i64 (p.1 : Nat), .int .i64 (p.2 : Nat)] 24 (0, 0)) ∧ RdP w aw nW cW WL ∧ InF (fun k => k < b8) aw nW
theorem Jw.below {W : World} {b8 : Nat} {aw : Option Addr} {nW cW : Nat} {WL : List Pl} {w w' : World} {p : Pl} (h : Jw W b8 aw nW cW WL w p) (hb : Below w.heap.size w w') : Jw W b8 aw nW cW WL w' p :=
  ⟨h.1.trans (hb.mono h.1.size), h.2.1, (hb.block _ (heap_lt h.2.2.1)).trans h.2.2.1, h.2.2.2.1.below hb, h.2.2.2.2⟩
theorem Jw.set {W : World} {b8 : Nat} {aw : Option Addr} {nW cW : Nat} {WL : List Pl} {w : World} {p : Pl} (h : Jw W b8 aw nW cW WL w p) (q : Pl) :
    Jw W b8 aw nW cW WL ((w.setCell ⟨b8, 0, none⟩ (.int .i64 (q.1 : Nat))).setCell ⟨b8, 1, none⟩ (.int .i64 (q.2 : Nat))) q ∧ Fr (· = b8) w ((w.setCell ⟨b8, 0, none⟩ (.int .i64 (q.1 : Nat))).setCell ⟨b8, 1, none⟩ (.int .i64 (q.2 : Nat))) := by
  have hf : Fr (· = b8) w ((w.setCell ⟨b8, 0, none⟩ (.int .i64 (q.1 : Nat))).setCell ⟨b8, 1, none⟩ (.int .i64 (q.2 : Nat))) := ((Fr.refl (· = b8) w).setCell ⟨b8, 0, none⟩ _ (fun _ => rfl)).setCell ⟨b8, 1, none⟩ _ (fun _ => rfl)
  refine ⟨⟨setCell_below (setCell_below h.1 _ _ _ h.2.1) _ _ _ h.2.1, h.2.1, ?_, Rc.frF h.2.2.2.1 h.2.2.2.2 hf (fun k hk e => by omega), h.2.2.2.2⟩, hf⟩
  have k3 := heap_set h.2.2.1 0 (.int .i64 (q.1 : Nat))
  exact heap_set k3 1 (.int .i64 (q.2 : Nat))
theorem Forth.stepQ {L : List (List Int)} (h : L ≠ []) {kd : Int} {i : Nat} {p q : Pl} (hf : Forth L kd i p) (hq : (wantP L kd)[i]? = some q) : behindP L kd p = q ∧ Forth L kd (i + 1) q := by
  obtain ⟨hi, rfl⟩ := List.getElem?_eq_some_iff.1 hq
  exact Forth.step h hf hi
theorem Back.skipQ {L : List (List Int)} {kd : Int} {i : Nat} {p : Pl} (hb : Back L kd (i + 1) p) (hq : (wantP L kd)[i]? = some (lastP L)) : Back L kd i p := by
  obtain ⟨hi, e⟩ := List.getElem?_eq_some_iff.1 hq
  exact Back.skip hb hi e
theorem Back.stepQ {L : List (List Int)} (h : L ≠ []) {kd : Int} {i : Nat} {p q : Pl} (hb : Back L kd (i + 1) p) (hq : (wantP L kd)[i]? = some q) (e : q ≠ lastP L) : beforeP L kd p = q ∧ Back L kd i q := by
  obtain ⟨hi, rfl⟩ := List.getElem?_eq_some_iff.1 hq
  exact Back.step h hb hi e
theorem upW {f : FuncId} {args : Array Value} {v : Value} {w1 W : World} (hb : Below w1.heap.size w1 W) (h : Calls Try.prog f args W fun e w' => e = .returned v ∧ Below W.heap.size W w') : Calls Try.prog f args W fun e w' => e = .returned v ∧ Below w1.heap.size w1 w' :=
  h.mono (fun e w' h => ⟨h.1, hb.trans (h.2.mono hb.size)⟩)
theorem tail_take {P : List Pl} {i : Nat} {x : Pl} (hi : 1 ≤ i) (h : P[i]? = some x) : (P.take (i + 1)).tail = (P.take i).tail ++ [x] := by
  have hl := (List.getElem?_eq_some_iff.1 h).1
  rw [List.take_succ_eq_append_getElem hl, (List.getElem?_eq_some_iff.1 h).2]
  match P, i, hi with
  | y :: P, i + 1, _ => simp

set_option maxHeartbeats 8000000 in
theorem wordWalk_wide (a : Option Addr) (n c : Nat) (L : List (List Int)) (big : Bool) (W : World) (h : RdL (fun k => k < W.heap.size) W a n c L) (hw : WideL L) :
    Calls Try.prog 6 #[.slice a n c, .bool big] W fun e w' => e = .returned (.bool true) ∧ Below W.heap.size W w' := by
  have hsm := h.small
  have hl := h.len
  have hL : ∀ w' : World, Below W.heap.size W w' → RdL (fun k => k < W.heap.size) w' a n c L := fun w' hb => h.below hb
  have HSM : Hid (Calls Try.prog 10 #[.slice a n c] W fun e w2 => e = .returned (.bool (smallL L)) ∧ W = w2) := small_wide _ a n c L W h hw
  have HAW : Hid (∀ w' : World, Calls Try.prog 15 #[] w' fun e w2 => e = .returned (.bool true) ∧ Below w'.heap.size w' w2) := fun w' => awake_any w'
  obtain ⟨sm, hsmall⟩ : ∃ sm, smallL L = sm := ⟨_, rfl⟩
  rw [hsmall] at HSM
  cases sm with
  | false =>
    clear h hl hL hsmall
    go_enter Try.func6, Try.ntmps6
    go_wp2_with (first
      | (go_at_call 10; refine HSM.out.mono ?_; rintro e w2 ⟨rfl, hw2⟩; subst hw2)
      | (go_at_call 15; refine (HAW.out _).mono ?_; rintro e w2 ⟨rfl, hb2⟩))
    go_ret
    exact ⟨rfl, hb2⟩
  | true =>
  have hsz := smallL_wide hsmall
  by_cases h0 : n = 0
  · have q1 : ((n : Int) == 0) = true := by simp [h0]
    clear h hl hL hsmall hsz h0
    go_enter Try.func6, Try.ntmps6
    go_wp2_with (first
      | (go_at_call 10; refine HSM.out.mono ?_; rintro e w2 ⟨rfl, hw2⟩; subst hw2)
      | (go_at_call 15; refine (HAW.out _).mono ?_; rintro e w2 ⟨rfl, hb2⟩))
    go_ret
    exact ⟨rfl, hb2⟩
  have q1 : ((n : Int) == 0) = false := by simp; omega
  have hne : L ≠ [] := by rintro rfl; simp at hl; omega
  obtain ⟨kd, hkd⟩ : ∃ kd : Int, (if big then 1 else 0) = kd := ⟨_, rfl⟩
  have hbg : ∀ x : Pl, begins big (lnL L x.1) x.2 = isK L kd x := fun x => by rw [← hkd]; cases big <;> rfl
  have hnext : ∀ p : Pl, p ∈ places L → clipP L (p.1 : Int) (p.2 : Int) = p := fun p hp => clipP_id (places_mem.1 hp)
  have hint : ∀ p : Pl, p ∈ places L → i64p ⟨(p.1 : Int), (p.2 : Int)⟩ := fun p hp => by
    have h1 := places_mem.1 hp
    have h2 := size_take_le L (p.1 + 1)
    have h3 := h1.1
    have h4 : (lnL L p.1).length ≤ sizeN (lens L) := by
      have : L[p.1]? = some (lnL L p.1) := by unfold lnL; rw [List.getD_eq_getElem?_getD, List.getElem?_eq_getElem h3]; rfl
      have := size_take this
      omega
    have h5 := h1.2
    have h6 := size_count L
    exact ⟨⟨by simp only; omega, by simp only; omega⟩, by simp only; omega, by simp only; omega⟩
  have HPC : Hid (Calls Try.prog 25 #[.slice a n c] W fun e w' => ∃ a' n' c', e = .returned (.slice a' n' c') ∧ Hid (RdP w' a' n' c' (places L) ∧ Below W.heap.size W w')) := rplaces_any _ a n c L W h hsz
  have HBG : Hid (∀ (x : Pl) (w' : World), x ∈ places L → Below W.heap.size W w' → Calls Try.prog 26 #[.slice a n c, plV x, .bool big] w' fun e w2 => e = .returned (.bool (isK L kd x)) ∧ Below w'.heap.size w' w2) := fun x w' hx hb => by
    have := rbegins_any _ a n c L x big w' (hL w' hb) (places_mem.1 hx)
    rw [hbg] at this
    exact this
  have HNX : Hid (∀ (p : Pl) (w' : World), Below W.heap.size W w' → p ∈ places L → Calls Try.prog 16 #[.slice a n c, .agg #[.int .i64 (p.1 : Nat), .int .i64 (p.2 : Nat)], .bool big] w' fun e w2 => e = .returned (plV (behindP L kd p)) ∧ Below w'.heap.size w' w2) := fun p w' hb hp => by
    have := wnext_any _ a n c L ⟨(p.1 : Int), (p.2 : Int)⟩ big w' (hL w' hb) (hint p hp) hsz
    rw [hnext p hp, hkd] at this
    exact this
  have HPV : Hid (∀ (p : Pl) (w' : World), Below W.heap.size W w' → p ∈ places L → Calls Try.prog 18 #[.slice a n c, .agg #[.int .i64 (p.1 : Nat), .int .i64 (p.2 : Nat)], .bool big] w' fun e w2 => e = .returned (plV (beforeP L kd p)) ∧ Below w'.heap.size w' w2) := fun p w' hb hp => by
    have := wprev_any _ a n c L ⟨(p.1 : Int), (p.2 : Int)⟩ big w' (hL w' hb) (hint p hp) hsz
    rw [hnext p hp, hkd] at this
    exact this
  have HLS : Hid (∀ w' : World, Below W.heap.size W w' → Calls Try.prog 12 #[.slice a n c] w' fun e w2 => e = .returned (plV (lastP L)) ∧ Below w'.heap.size w' w2) := fun w' hb => rlast_any _ a n c L w' (hL w' hb) hsz
  have hplen := places_len L
  have HNE := Lib.hid hne
  have HFO : Hid (Forth L kd 0 (0, 0)) := Forth.start hne kd
  obtain ⟨P, hP⟩ : ∃ P, places L = P := ⟨_, rfl⟩
  obtain ⟨WL, hWL⟩ : ∃ WL, wantP L kd = WL := ⟨_, rfl⟩
  have hWLd : P.tail.filter (isK L kd) = WL := by rw [← hWL, ← hP]; rfl
  have hP1 : 1 ≤ P.length := by
    obtain ⟨T, hT⟩ := places_ne hne
    rw [← hP, hT]; simp
  rw [hP] at hplen HPC
  have HP := Lib.hid hP
  have HWL := Lib.hid hWL
  have HWLD := Lib.hid hWLd
  have hPs : P.length ≤ 262144 := by omega
  have HPB : Hid (1 ≤ P.length ∧ P.length ≤ 262144) := ⟨hP1, hPs⟩
  clear h hl hL hsmall hsz h0 hne hkd hbg hnext hint hplen hP hWL hWLd hP1 hPs
  go_enter Try.func6, Try.ntmps6
  go_wp2_with (first
    | (go_at_call 10; refine HSM.out.mono ?_; rintro e w2 ⟨rfl, hw2⟩; subst hw2)
    | (go_at_call 25; refine HPC.out.mono ?_; rintro e w1 ⟨a1, N, c1, rfl, H1⟩; have hN := H1.out.1.len; have hNs : N ≤ 262144 := (hN ▸ HPB.out.2); have hN1 : 1 ≤ N := (hN ▸ HPB.out.1); have HN := Lib.hid hN; clear hN))
  go_loopw [5, 7] (fun v iv wr => ∃ (aw : Option Addr) (nW cW i : Nat), v = .slice aw nW cW ∧ iv = .int .i64 (i : Nat) ∧ 1 ≤ i ∧ i ≤ N ∧ Hid (Below w1.heap.size w1 wr ∧ wr.ownsRow w1.heap.size 24 2 (.slice aw nW cW) nW (plcs ((P.take i).tail.filter (isK L kd))))) (fun _ iv _ => N - (intOf iv).toNat)
  case atStart =>
    refine ⟨none, 0, 0, 1, rfl, rfl, Nat.le_refl _, hN1, Below.refl _ _, ?_⟩
    have : (P.take 1).tail = [] := by cases P <;> simp
    rw [this]
    exact World.ownsRow_nil _ _ _ _
  case round =>
    obtain ⟨aw, nW, cW, i, rfl, rfl, hi1, hiN, HI⟩ := hrel
    have hbW : Below W.heap.size W wr := H1.out.2.trans (HI.out.1.mono H1.out.2.size)
    have HBW := Lib.hid hbW
    have hnW : nW = ((P.take i).tail.filter (isK L kd)).length := by
      have := HI.out.2.1
      rw [plcs_len] at this
      omega
    have hnWs : nW ≤ 262144 := by
      have h1 := List.length_filter_le (isK L kd) ((P.take i).tail)
      have h2 : (P.take i).tail.length ≤ P.length := by simp; omega
      have := HPB.out.2
      omega
    clear hbW hnW
    by_cases hlt : i < N
    · obtain ⟨x, hx⟩ : ∃ x, P[i]? = some x := ⟨P[i]'(by have := HN.out; omega), List.getElem?_eq_getElem _⟩
      obtain ⟨b, off, rfl, hbl, c0, c1'⟩ := H1.out.1.get HI.out.1 hx
      have htt := tail_take hi1 hx
      have hxm : x ∈ places L := by rw [HP.out]; exact List.mem_of_getElem? hx
      have HBX := Lib.hid (HBG.out x wr hxm HBW.out)
      obtain ⟨b2, hb2⟩ : ∃ b2, isK L kd x = b2 := ⟨_, rfl⟩
      rw [hb2] at HBX
      have hblr : b < wr.heap.size := block_lt_of_cell c0
      obtain ⟨xi, xj⟩ := x
      simp only at c0 c1'
      cases b2 with
      | false =>
        have HN2 : Hid (∀ w2 : World, Below wr.heap.size wr w2 → Below w1.heap.size w1 w2 ∧ w2.ownsRow w1.heap.size 24 2 (.slice aw nW cW) nW (plcs ((P.take (i + 1)).tail.filter (isK L kd)))) := fun w2 hb => by
          refine ⟨HI.out.1.trans (hb.mono HI.out.1.size), ?_⟩
          rw [htt, List.filter_append, List.filter_cons, hb2]
          simp only [Bool.false_eq_true, if_false, List.filter_nil, List.append_nil]
          exact own_fr HI.out.2 (Fr.of_below (fun _ => False) hb) (fun _ _ h => h)
        clear htt hxm hx hb2 hbl
        go_wp2_with (go_at_call 26; refine HBX.out.mono ?_; rintro e w2 ⟨rfl, hb2⟩)
        go_roundw
        case rel => exact ⟨aw, nW, cW, i + 1, by first | rfl | go_num, by first | rfl | go_num, by omega, by omega, HN2.out w2 hb2⟩
        case measure => simp [intOf]; omega
      | true =>
        have HAP : Hid (∀ w2 : World, Below wr.heap.size wr w2 → ∃ a' c' w3, (w2.cell? ⟨b, off + i * 2, none⟩ = some (.int .i64 (xi : Nat)) ∧ w2.cell? ⟨b, off + i * 2 + 1, none⟩ = some (.int .i64 (xj : Nat))) ∧ Hid (∀ ty, (Builtin.append_ #[35, 35] ty #[.slice aw nW cW, .slice (some ⟨w2.heap.size, 0, none⟩) 1 1]).run Try.prog (w2.alloc (.cells #[.int .i64 (xi : Nat), .int .i64 (xj : Nat)] 24)) = .ok (.slice a' (nW + 1) c') w3) ∧ Hid (Below w1.heap.size w1 w3 ∧ w3.ownsRow w1.heap.size 24 2 (.slice a' (nW + 1) c') (nW + 1) (plcs ((P.take (i + 1)).tail.filter (isK L kd))))) := fun w2 hb => by
          have hbb := HI.out.1.trans (hb.mono HI.out.1.size)
          obtain ⟨a', c', w3, hrun, hown, hb3⟩ := app_pl w2 w1.heap.size (.slice aw nW cW) nW _ (xi, xj) (own_fr HI.out.2 (Fr.of_below (fun _ => False) hb) (fun _ _ h => h)) hbb.size (by omega)
          refine ⟨a', c', w3, ⟨(hb.cell (p := ⟨b, off + i * 2, none⟩) hblr).trans c0, (hb.cell (p := ⟨b, off + i * 2 + 1, none⟩) hblr).trans c1'⟩, hrun, hbb.trans hb3, ?_⟩
          rw [htt, List.filter_append, List.filter_cons, hb2]
          exact hown
        clear htt hxm hx hb2 hbl
        go_wp2_with (first
          | (go_at_call 26; refine HBX.out.mono ?_; rintro e w2 ⟨rfl, hb2⟩; obtain ⟨a', c', w3, ⟨d0, d1⟩, HRUN, HN2⟩ := HAP.out w2 hb2)
          | (at_builtin; go_must (with_reducible refine Lib.wpList_append_run _ rfl _ _ _ _ rfl _ _ rfl rfl _ _ (HRUN.out _) ?_)))
        go_roundw
        case rel => exact ⟨a', nW + 1, c', i + 1, by first | rfl | go_num, by first | rfl | go_num, by omega, by omega, HN2⟩
        case measure => simp [intOf]; omega
    · obtain rfl : i = N := by omega
      obtain ⟨wq, hwq⟩ : ∃ y, y = wr := ⟨_, rfl⟩
      subst hwq
      have hown := HI.out.2
      rw [List.take_of_length_le (by have := HN.out; omega), HWLD.out] at hown
      have hinF : InF (fun k => k < wq.heap.size) aw nW := InF.own hown (fun k hk => (hown.lt k hk).2)
      have hWn : WL.length = nW := by
        have := hown.1
        rw [plcs_len] at this
        omega
      have HWN := Lib.hid hWn
      have HJ0 : Hid (Jw W wq.heap.size aw nW cW WL (wq.alloc (.cells #[.int .i64 0, .int .i64 0] 24)) (0, 0) ∧ Forth L kd 0 (0, 0)) :=
        ⟨⟨HBW.out.trans ((bal wq _).mono HBW.out.size), HBW.out.size, heap_alloc_new wq _, (Rc.own hown).below (bal wq _), hinF⟩, HFO.out⟩
      have HSTG : Hid (∀ (wr : World) (p q : Pl) (k : Nat), Jw W wq.heap.size aw nW cW WL wr p → WL[k]? = some q → ∀ (e : Ending) (w2 : World), e = .returned (plV q) → Below wr.heap.size wr w2 → ∃ (b off : Nat) (w3 : World), aw = some ⟨b, off, none⟩ ∧ e = .returned (.agg #[.int .i64 (q.1 : Nat), .int .i64 (q.2 : Nat)]) ∧ (w2.setCell ⟨wq.heap.size, 0, none⟩ (.int .i64 (q.1 : Nat))).setCell ⟨wq.heap.size, 1, none⟩ (.int .i64 (q.2 : Nat)) = w3 ∧
          (w2.frozen? ⟨wq.heap.size, 0, none⟩ = false ∧ w2.frozen? ⟨wq.heap.size, 1, none⟩ = false ∧ w2.cell? ⟨wq.heap.size, 0, none⟩ = some (.int .i64 (p.1 : Nat)) ∧ w2.cell? ⟨wq.heap.size, 1, none⟩ = some (.int .i64 (p.2 : Nat))) ∧
          (w3.cell? ⟨wq.heap.size, 0, none⟩ = some (.int .i64 (q.1 : Nat)) ∧ w3.cell? ⟨wq.heap.size, 1, none⟩ = some (.int .i64 (q.2 : Nat)) ∧ w3.cell? ⟨b, off + k * 2, none⟩ = some (.int .i64 (q.1 : Nat)) ∧ w3.cell? ⟨b, off + k * 2 + 1, none⟩ = some (.int .i64 (q.2 : Nat))) ∧
          Hid (Jw W wq.heap.size aw nW cW WL w3 q ∧ Fr (· = wq.heap.size) w2 w3)) := fun wr p q k hJ hq e w2 he hb => by
        have hJ2 := hJ.below hb
        have hs := hJ2.set q
        obtain ⟨x0, x1, x2, x3⟩ := row2 hJ2.2.2.1
        obtain ⟨y0, y1, -, -⟩ := row2 hs.1.2.2.1
        obtain ⟨b, off, ha, -, t0, t1⟩ := hs.1.2.2.2.1.get (Below.refl _ _) hq
        exact ⟨b, off, _, ha, he, rfl, ⟨x2, x3, x0, x1⟩, ⟨y0, y1, t0, t1⟩, hs.1, hs.2⟩
      clear hown hinF hWn
      go_wp2_with fail
      go_loopw [9] (fun iv wr => ∃ (i : Nat) (p : Pl), i ≤ nW ∧ iv = .int .i64 (i : Nat) ∧ Hid (Jw W wq.heap.size aw nW cW WL wr p ∧ Forth L kd i p)) (fun iv _ => nW - (intOf iv).toNat)
      case atStart => exact ⟨0, (0, 0), Nat.zero_le _, rfl, HJ0⟩
      case round =>
        obtain ⟨k, p, hkn, rfl, HJ⟩ := hrel
        clear HJ0
        obtain ⟨d0, d1, -, -⟩ := row2 HJ.out.1.2.2.1
        have HBr : Hid (Below W.heap.size W wr) := HJ.out.1.1
        have hpm : p ∈ places L := HJ.out.2.1
        by_cases hlt2 : k < nW
        · obtain ⟨q, hq⟩ : ∃ q, WL[k]? = some q := ⟨WL[k]'(by have := HWN.out; omega), List.getElem?_eq_getElem _⟩
          have hstep := HJ.out.2.stepQ HNE.out (q := q) (by rw [HWL.out]; exact hq)
          have HST := Lib.hid (HSTG.out wr p q k HJ.out.1 hq)
          have HNC := Lib.hid (HNX.out p wr HBr.out hpm)
          rw [hstep.1] at HNC
          have HFN : Hid (Forth L kd (k + 1) q) := hstep.2
          obtain ⟨pi, pj⟩ := p
          obtain ⟨qi, qj⟩ := q
          simp only at d0 d1 HST HNC
          clear hstep hq hpm
          go_wp2_with (go_at_call 16; refine HNC.out.mono ?_; rintro e w2 ⟨he, hb2⟩; obtain ⟨b, off, w3, ha, he2, hw3, ⟨y0, y1, y2, y3⟩, ⟨y4, y5, y6, y7⟩, H3⟩ := HST.out e w2 he hb2; subst ha; subst he2; clear he hb2)
          go_quiet (fail)
          go_wp2_with fail
          go_roundw
          case rel => exact ⟨k + 1, (qi, qj), by omega, by first | rfl | go_num, H3.out.1.below (bdrewN (Below.refl _ _) _), HFN.out⟩
          case measure => simp [intOf]; omega
        · obtain rfl : k = nW := by omega
          have hfd : behindP L kd p = lastP L := by
            have h1 := HJ.out.2
            have h2 := HWN.out
            rw [← HWL.out] at h2
            rw [← h2] at h1
            exact h1.done HNE.out
          have hlpm : lastP L ∈ places L := lastP_mem HNE.out
          have hbk0 : Back L kd k (lastP L) := by
            have h1 := Back.start HNE.out kd
            rw [HWL.out, HWN.out] at h1
            exact h1
          have HLC := Lib.hid (HLS.out wr HBr.out)
          have HBK0 := Lib.hid hbk0
          have HLM := Lib.hid hlpm
          obtain ⟨lp, hlp⟩ : ∃ lp, lastP L = lp := ⟨_, rfl⟩
          rw [hlp] at HLC HBK0 HLM hfd
          have HLP := Lib.hid hlp
          have HPM := Lib.hid hpm
          have HFD := Lib.hid hfd
          obtain ⟨pi, pj⟩ := p
          obtain ⟨li, lj⟩ := lp
          simp only at d0 d1
          clear hlp hfd hlpm hbk0 hpm
          go_wp2_with (go_at_call 12; refine HLC.out.mono ?_; rintro e w2 ⟨he, hb2⟩; rw [show plV (li, lj) = .agg #[.int .i64 (li : Nat), .int .i64 (lj : Nat)] from rfl] at he; subst he; have HB2 := Lib.hid hb2; clear hb2)
          obtain ⟨w3, hw3⟩ : ∃ w3, w2.alloc (.cells #[.int .i64 (li : Nat), .int .i64 (lj : Nat)] 24) = w3 := ⟨_, rfl⟩
          rw [hw3]
          have hJ3 : Jw W wq.heap.size aw k cW WL w3 (pi, pj) := by rw [← hw3]; exact (HJ.out.1.below HB2.out).below (bal w2 _)
          have hL3 : w3.heap[w2.heap.size]? = some (.cells #[.int .i64 (li : Nat), .int .i64 (lj : Nat)] 24 (0, 0)) := by rw [← hw3]; exact heap_alloc_new w2 _
          have hlt10 : wq.heap.size < w2.heap.size := by have := heap_lt HJ.out.1.2.2.1; have := HB2.out.size; omega
          obtain ⟨k0, k1, -, -⟩ := row2 hJ3.2.2.1
          obtain ⟨l0, l1, -, -⟩ := row2 hL3
          have HS : Hid (∀ w' : World, Below w3.heap.size w3 w' → (fun w' => w'.cell? ⟨wq.heap.size, 0, none⟩ = some (.int .i64 (pi : Nat)) ∧ w'.cell? ⟨wq.heap.size, 1, none⟩ = some (.int .i64 (pj : Nat)) ∧ w'.cell? ⟨w2.heap.size, 0, none⟩ = some (.int .i64 (li : Nat)) ∧ w'.cell? ⟨w2.heap.size, 1, none⟩ = some (.int .i64 (lj : Nat))) w') := fun w' hb => by
            have hj := hJ3.below hb
            obtain ⟨x0, x1, -, -⟩ := row2 hj.2.2.1
            obtain ⟨x2, x3, -, -⟩ := row2 ((hb.block _ (heap_lt hL3)).trans hL3)
            exact ⟨x0, x1, x2, x3⟩
          have HND : Hid (∀ w' : World, Below w3.heap.size w3 w' → Calls Try.prog 16 #[.slice a n c, .agg #[.int .i64 (pi : Nat), .int .i64 (pj : Nat)], .bool big] w' fun e x => e = .returned (.agg #[.int .i64 (li : Nat), .int .i64 (lj : Nat)]) ∧ Below w3.heap.size w3 x) := fun w' hb => upW hb (by
            have := HNX.out (pi, pj) w' (hJ3.1.trans (hb.mono hJ3.1.size)) HPM.out
            rw [HFD.out] at this
            exact this)
          have HJ3 := Lib.hid hJ3
          have HL3 := Lib.hid hL3
          have H10 := Lib.hid hlt10
          clear hJ3 hL3 hw3 hlt10 d0 d1
          refine wp_region_held (S := fun w' => w'.cell? ⟨wq.heap.size, 0, none⟩ = some (.int .i64 (pi : Nat)) ∧ w'.cell? ⟨wq.heap.size, 1, none⟩ = some (.int .i64 (pj : Nat)) ∧ w'.cell? ⟨w2.heap.size, 0, none⟩ = some (.int .i64 (li : Nat)) ∧ w'.cell? ⟨w2.heap.size, 1, none⟩ = some (.int .i64 (lj : Nat))) (by kernel_rfl) ?_
          change wpAnyH _ _ _ _ _ _ _ _ (World.drew _)
          have hHeld : (fun w' => w'.cell? ⟨wq.heap.size, 0, none⟩ = some (.int .i64 (pi : Nat)) ∧ w'.cell? ⟨wq.heap.size, 1, none⟩ = some (.int .i64 (pj : Nat)) ∧ w'.cell? ⟨w2.heap.size, 0, none⟩ = some (.int .i64 (li : Nat)) ∧ w'.cell? ⟨w2.heap.size, 1, none⟩ = some (.int .i64 (lj : Nat))) (World.drew w3) := ⟨k0, k1, l0, l1⟩
          refine takeH 0 (some 62) (v := ?_) rfl rfl (by kernel_rfl) (by kernel_rfl) (by kernel_rfl) (fun _ _ _ h => h) (Or.inl ⟨by kernel_rfl, ?_⟩) hHeld ?_
          rotate_left
          · intro w' hSw
            (try dsimp only at hSw)
            go_simp
            try with_reducible rfl
          (try simp only [Act.put, List.setIfInBounds_toArray, List.set_cons_zero, List.set_cons_succ])
          refine takeH 1 (some 63) (v := ?_) rfl rfl (by kernel_rfl) (by kernel_rfl) (by kernel_rfl) (fun _ _ _ h => h) (Or.inl ⟨by kernel_rfl, ?_⟩) hHeld ?_
          rotate_left
          · intro w' hSw
            (try dsimp only at hSw)
            go_simp
            try with_reducible rfl
          (try simp only [Act.put, List.setIfInBounds_toArray, List.set_cons_zero, List.set_cons_succ])
          refine takeH 2 (some 64) (v := ?_) rfl rfl (by kernel_rfl) (by kernel_rfl) (by kernel_rfl) (fun _ _ _ h => h) (Or.inl ⟨by kernel_rfl, ?_⟩) hHeld ?_
          rotate_left
          · intro w' hSw
            (try dsimp only at hSw)
            go_simp
            try with_reducible rfl
          (try simp only [Act.put, List.setIfInBounds_toArray, List.set_cons_zero, List.set_cons_succ])
          refine takeH 4 (some 66) (v := ?_) rfl rfl (by kernel_rfl) (by kernel_rfl) (by kernel_rfl) (fun _ _ _ h => h) (Or.inl ⟨by kernel_rfl, ?_⟩) hHeld ?_
          rotate_left
          · intro w' hSw
            (try dsimp only at hSw)
            go_simp
            try with_reducible rfl
          (try simp only [Act.put, List.setIfInBounds_toArray, List.set_cons_zero, List.set_cons_succ])
          refine callH 3 (some 65) (f := 16) (args := #[.slice a n c, .agg #[.int .i64 (pi : Nat), .int .i64 (pj : Nat)], .bool big]) rfl rfl (by kernel_rfl) (by kernel_rfl) (by kernel_rfl) ?_
          refine (HND.out _ (Below.refl _ _).drew).mono ?_; rintro e x1 ⟨rfl, hb1⟩
          have hHeld1 := HS.out _ hb1
          refine ⟨_, rfl, hHeld1, ?_⟩
          (try simp only [Act.put, List.setIfInBounds_toArray, List.set_cons_zero, List.set_cons_succ])
          refine takeH 5 (some 67) (v := ?_) rfl rfl (by kernel_rfl) (by kernel_rfl) (by kernel_rfl) (fun _ _ _ h => h) (Or.inl ⟨by kernel_rfl, ?_⟩) hHeld1 ?_
          rotate_left
          · intro w' hSw
            (try dsimp only at hSw)
            go_simp
            try with_reducible rfl
          (try simp only [Act.put, List.setIfInBounds_toArray, List.set_cons_zero, List.set_cons_succ])
          refine wpAnyH_done (by kernel_rfl) ?_ _
          have g8 := ((HJ3.out.below hb1).2.2.1)
          have g10 := ((hb1.block _ (heap_lt HL3.out)).trans HL3.out)
          obtain ⟨v0, v1, v2, v3⟩ := row2 g8
          obtain ⟨u0, u1, u2, u3⟩ := row2 g10
          have hset := (HJ3.out.below hb1).set (li, lj)
          obtain ⟨w5, hw5⟩ : ∃ w5, (x1.setCell ⟨wq.heap.size, 0, none⟩ (.int .i64 (li : Nat))).setCell ⟨wq.heap.size, 1, none⟩ (.int .i64 (lj : Nat)) = w5 := ⟨_, rfl⟩
          have HJ5 : Hid (Jw W wq.heap.size aw k cW WL w5 (li, lj) ∧ w5.heap[w2.heap.size]? = some (.cells #[.int .i64 (li : Nat), .int .i64 (lj : Nat)] 24 (0, 0))) := by
            rw [← hw5]
            exact ⟨hset.1, (hset.2.block _ (heap_lt g10) (fun e => by have := H10.out; omega)).trans g10⟩
          clear hset g8 g10 k0 k1 l0 l1
          go_wp2_with fail
          go_loopw [11] (fun iv wr => ∃ (t : Int) (p : Pl), iv = .int .i64 t ∧ Hid (Jw W wq.heap.size aw k cW WL wr p ∧ wr.heap[w2.heap.size]? = some (.cells #[.int .i64 (li : Nat), .int .i64 (lj : Nat)] 24 (0, 0)) ∧ ((t = -1 ∧ Back L kd 0 p) ∨ ∃ j : Nat, j < k ∧ t = (j : Nat) ∧ Back L kd (j + 1) p))) (fun iv _ => (intOf iv + 1).toNat)
          case atStart =>
            refine ⟨_, (li, lj), rfl, HJ5.out.1, HJ5.out.2, ?_⟩
            have hbk := HBK0.out
            by_cases h0 : k = 0
            · left; refine ⟨by omega, ?_⟩; rw [h0] at hbk; exact hbk
            · right; refine ⟨k - 1, by omega, by omega, ?_⟩; rw [show k - 1 + 1 = k by omega]; exact hbk
          case round =>
            obtain ⟨t, p, rfl, HK⟩ := hrel
            clear HJ5 v0 v1 v2 v3 u0 u1 u2 u3 hw5
            obtain ⟨d0, d1, -, -⟩ := row2 HK.out.1.2.2.1
            obtain ⟨l0, l1, -, -⟩ := row2 HK.out.2.1
            have hJ := HK.out.1
            have hp3 := HK.out.2.2
            have h10 := HK.out.2.1
            rcases hp3 with ⟨rfl, hbk⟩ | ⟨j, hjk, rfl, hbk⟩
            rotate_left
            · obtain ⟨q, hq⟩ : ∃ q, WL[j]? = some q := ⟨WL[j]'(by have := HWN.out; omega), List.getElem?_eq_getElem _⟩
              obtain ⟨b, off, ha, hbl, t0, t1⟩ := hJ.2.2.2.1.get (Below.refl _ _) hq
              have hjn : ∀ p' : Pl, Back L kd j p' → ((j : Int) - 1 = -1 ∧ Back L kd 0 p') ∨ ∃ j' : Nat, j' < k ∧ (j : Int) - 1 = (j' : Nat) ∧ Back L kd (j' + 1) p' := fun p' h => by
                by_cases h0 : j = 0
                · left; refine ⟨by omega, ?_⟩; rw [h0] at h; exact h
                · right; refine ⟨j - 1, by omega, by omega, ?_⟩; rw [show j - 1 + 1 = j by omega]; exact h
              by_cases e : q = (li, lj)
              · have hsk := Back.skipQ hbk (by rw [HWL.out, HLP.out, hq, e])
                rw [e] at t0 t1
                simp only at t0 t1
                subst ha
                have HN := Lib.hid (And.intro hJ (And.intro h10 (hjn p hsk)))
                clear hsk hjn hq e hbk hJ h10 hbl
                go_wp2_with fail
                go_quiet (fail)
                go_wp2_with fail
                go_roundw
                case rel => exact ⟨_, p, rfl, HN.out.1.below (bdrewN (Below.refl _ _) _), HN.out.2.1, HN.out.2.2⟩
                case measure => first | (simp [intOf]; omega) | simp [intOf]
              · have hsp := Back.stepQ HNE.out hbk (q := q) (by rw [HWL.out]; exact hq) (by rw [HLP.out]; exact e)
                have HST := Lib.hid (HSTG.out)
                have HPC3 : Hid (∀ w' : World, Below wr.heap.size wr w' → Calls Try.prog 18 #[.slice a n c, .agg #[.int .i64 (p.1 : Nat), .int .i64 (p.2 : Nat)], .bool big] w' fun e x => e = .returned (plV q) ∧ Below wr.heap.size wr x) := fun w' hb => upW hb (by
                  have := HPV.out p w' (hJ.1.trans (hb.mono hJ.1.size)) hbk.1
                  rw [hsp.1] at this
                  exact this)
                have HST : Hid (∀ (e : Ending) (w6 : World), e = .returned (plV q) → Below wr.heap.size wr w6 → ∃ (b off : Nat) (w7 : World), aw = some ⟨b, off, none⟩ ∧ e = .returned (.agg #[.int .i64 (q.1 : Nat), .int .i64 (q.2 : Nat)]) ∧ (w6.setCell ⟨wq.heap.size, 0, none⟩ (.int .i64 (q.1 : Nat))).setCell ⟨wq.heap.size, 1, none⟩ (.int .i64 (q.2 : Nat)) = w7 ∧
                    (w6.frozen? ⟨wq.heap.size, 0, none⟩ = false ∧ w6.frozen? ⟨wq.heap.size, 1, none⟩ = false ∧ w6.cell? ⟨wq.heap.size, 0, none⟩ = some (.int .i64 (p.1 : Nat)) ∧ w6.cell? ⟨wq.heap.size, 1, none⟩ = some (.int .i64 (p.2 : Nat))) ∧
                    (w7.cell? ⟨wq.heap.size, 0, none⟩ = some (.int .i64 (q.1 : Nat)) ∧ w7.cell? ⟨wq.heap.size, 1, none⟩ = some (.int .i64 (q.2 : Nat)) ∧ w7.cell? ⟨b, off + j * 2, none⟩ = some (.int .i64 (q.1 : Nat)) ∧ w7.cell? ⟨b, off + j * 2 + 1, none⟩ = some (.int .i64 (q.2 : Nat))) ∧
                    Hid (Jw W wq.heap.size aw k cW WL w7 q ∧ w7.heap[w2.heap.size]? = some (.cells #[.int .i64 (li : Nat), .int .i64 (lj : Nat)] 24 (0, 0)))) := fun e w6 he hb => by
                  obtain ⟨b', off', w7, r1, r2, r3, r4, r5, r6⟩ := HSTG.out wr p q j hJ hq e w6 he hb
                  exact ⟨b', off', w7, r1, r2, r3, r4, r5, r6.out.1, (r6.out.2.block _ (by have := heap_lt h10; have := hb.size; omega) (fun e => by have := H10.out; omega)).trans ((hb.block _ (heap_lt h10)).trans h10)⟩
                have HFN := Lib.hid (hjn q hsp.2)
                obtain ⟨pi', pj'⟩ := p
                obtain ⟨qi, qj⟩ := q
                simp only at d0 d1 t0 t1 HST HPC3
                have hor : ¬ qi = li ∨ (qi = li ∧ ¬ qj = lj) := by
                  by_cases h1 : qi = li
                  · exact Or.inr ⟨h1, fun h2 => e (by rw [h1, h2])⟩
                  · exact Or.inl h1
                clear hsp hjn hq e hbk hJ h10 hbl HSTG
                subst ha
                rcases hor with n1 | ⟨n0, n1⟩
                · have n2 : ¬ (qi : Int) = (li : Int) := by omega
                  go_wp2_with fail
                  go_quiet (fail)
                  go_wp2_with (go_at_call 18; refine (HPC3.out _ (by first | exact Below.refl _ _ | exact (Below.refl _ _).drew | exact bdrewN (Below.refl _ _) _)).mono ?_; rintro e w6 ⟨he, hb6⟩; obtain ⟨b', off', w7, r1, he2, hw7, ⟨y0, y1, y2, y3⟩, ⟨y4, y5, y6, y7⟩, H7⟩ := HST.out e w6 he hb6; cases r1; subst he2; clear he hb6)
                  go_quiet (fail)
                  go_wp2_with fail
                  go_roundw
                  case rel => exact ⟨_, (qi, qj), rfl, H7.out.1.below (bdrewN (Below.refl _ _) _), H7.out.2, HFN.out⟩
                  case measure => first | (simp [intOf]; omega) | simp [intOf]
                · subst n0
                  have n2 : ¬ (qj : Int) = (lj : Int) := by omega
                  go_wp2_with fail
                  go_quiet (fail)
                  go_wp2_with (go_at_call 18; refine (HPC3.out _ (by first | exact Below.refl _ _ | exact (Below.refl _ _).drew | exact bdrewN (Below.refl _ _) _)).mono ?_; rintro e w6 ⟨he, hb6⟩; obtain ⟨b', off', w7, r1, he2, hw7, ⟨y0, y1, y2, y3⟩, ⟨y4, y5, y6, y7⟩, H7⟩ := HST.out e w6 he hb6; cases r1; subst he2; clear he hb6)
                  go_quiet (fail)
                  go_wp2_with fail
                  go_roundw
                  case rel => exact ⟨_, (qi, qj), rfl, H7.out.1.below (bdrewN (Below.refl _ _) _), H7.out.2, HFN.out⟩
                  case measure => first | (simp [intOf]; omega) | simp [intOf]
            · have hdn := hbk.done HNE.out
              have HPE : Hid (Calls Try.prog 18 #[.slice a n c, .agg #[.int .i64 (p.1 : Nat), .int .i64 (p.2 : Nat)], .bool big] wr fun e x => e = .returned (.agg #[.int .i64 0, .int .i64 0]) ∧ Below wr.heap.size wr x) := by
                have := HPV.out p wr hJ.1 hbk.1
                rw [hdn] at this
                exact this
              have HJ9 := Lib.hid hJ.1
              obtain ⟨pi', pj'⟩ := p
              simp only at d0 d1 HPE
              clear hdn hbk hJ h10
              go_wp2_with (first
                | (go_at_call 18; refine HPE.out.mono ?_; rintro e w6 ⟨rfl, hb6⟩; have HB6 := Lib.hid hb6; clear hb6)
                | (go_at_call 15; refine (HAW.out _).mono ?_; rintro e w7 ⟨rfl, hb7⟩; have HB7 := Lib.hid hb7; clear hb7))
              go_ret
              exact ⟨rfl, HJ9.out.trans ((btr HB6.out HB7.out).mono HJ9.out.size)⟩
end Go.Proofs.Ytnegijbdgefaoaa.U
