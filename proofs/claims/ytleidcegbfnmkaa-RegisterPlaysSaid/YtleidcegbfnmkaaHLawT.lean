/-
  The walk of RegisterShifts.
-/
import Derived.Test.YtleidcegbfnmkaaHLawS
namespace Go.Proofs.Ytleidcegbfnmkaa.U
open Go.RowKit
set_option linter.unusedVariables false
set_option linter.unusedSimpArgs false
set_option maxRecDepth 100000

theorem put_shift (s : List Nm) (x : List Int) (d : Bool) (hx : x.length ≤ 1000) : putR s 34 ⟨1, [x]⟩ d = ((if d then finR (shiftR 8 s) 49 ⟨1, [x]⟩ else finR s 48 ⟨1, [x]⟩), 0) := by
  have hr : regB 1 [x] = true := by unfold regB; rw [size_one]; simp; omega
  have hg := good_put s 34 1 [x] d (by decide) hr
  unfold putR
  rw [hg.1, if_neg (by simp), if_neg (by decide), if_neg (by decide), if_neg (by decide)]
  cases d with
  | false => rfl
  | true => rfl
theorem AwG.putF {w0 W : World} {b : Nat} {s : List Nm} {D : Nat → Prop} {F : Nat → Prop} {r k : Int} {a : Option Addr} {n c : Nat} {L : List (List Int)} {d : Bool} (h : AwG w0 W b s D) (hr : RdL F W a n c L) (hs : sizeR L ≤ 1048576) (hwr : (Lit.int .i32 r).wf = true) :
    Calls Try.prog 15 #[.pointer (some ⟨b, 0, none⟩), .int .i32 r, .agg #[.int .i64 k, .slice a n c], .bool d] W fun e w' => e = .returned (.int .i64 (putR s r ⟨k, L⟩ d).2) ∧ AwG w0 w' b (putR s r ⟨k, L⟩ d).1 D ∧ Fr (fun k => w0.heap.size ≤ k ∧ ¬ D k) W w' := by
  obtain ⟨h1, hd, P, h2, h3, h4⟩ := h
  refine (pput_whole F P b s r k a n c L d W h2 hr hs hwr).mono ?_
  rintro e w' ⟨he, ha⟩
  have hq := AwG.af h1 hd h3 h4 ha
  obtain ⟨P', q1, q2, q3⟩ := ha
  exact ⟨he, hq.1, q2.mono (fun x _ hp => ⟨h3 x hp, fun hd => h4 x hp hd⟩)⟩
theorem RgAt.bound {F : Nat → Prop} {w : World} : ∀ {s : List Rg} {vs : List Value}, RgAt F w s vs → RgAt (fun k => F k ∧ k < w.heap.size) w s vs
  | [], _, h => h
  | x :: s, _, ⟨ra, rc, us, h1, h2, h3⟩ => ⟨ra, rc, us, h1, h2.boundG, RgAt.bound h3⟩
theorem RdRg.bound {F : Nat → Prop} {w : World} {a : Option Addr} {n c : Nat} {s : List Rg} (h : RdRg F w a n c s) : RdRg (fun k => F k ∧ k < w.heap.size) w a n c s := by
  obtain ⟨vs, h1, h2, h3⟩ := h
  refine ⟨vs, h1, fun hp ad e => ⟨h2 hp ad e, ?_⟩, h3.bound⟩
  obtain ⟨b, off, e2, hb, _⟩ := h1.at_ hp
  rw [e] at e2
  cases e2
  exact hb
/-- the state between the rounds -/
def ShS (w wr : World) (b i n : Nat) (va : Option Addr) (vc : Nat) : Prop := ∃ Xs s D, RdRg (fun k => k < w.heap.size ∨ D k) wr va n vc Xs ∧ AwG w wr b s D ∧ Numb s Xs ∧ n ≤ i
/-- a line's own Reg laid: h is its row, the box behind it -/
structure ShM (w W2 : World) (b i n g : Nat) (va : Option Addr) (vc : Nat) (x : List Int) (Xs : List Rg) (s : List Nm) (D : Nat → Prop) : Prop where
  rg : RdRg (fun k => k < w.heap.size ∨ D k) W2 va n vc Xs
  aw : AwG w W2 b s D
  nb : Numb s Xs
  le : n ≤ i
  ln : RdL (fun k => k < w.heap.size ∨ D k) W2 (some ⟨g, 0, none⟩) 1 1 [x]
  bx : BoxS W2 (g + 1) 1 (some ⟨g, 0, none⟩) 1 1
  bd : D (g + 1)
theorem ShS.lay {w wr : World} {b i n m rc : Nat} {va ra : Option Addr} {vc : Nat} {x : List Int} {Xs : List Rg} {s : List Nm} {D : Nat → Prop} (h1 : RdRg (fun k => k < w.heap.size ∨ D k) wr va n vc Xs) (h2 : AwG w wr b s D) (h3 : Numb s Xs) (h4 : n ≤ i) (hr : Rd .i32 wr ra m rc x) (hF : InF (fun k => k < w.heap.size) ra m) :
    ShM w ((wr.alloc (.cells #[.slice ra m rc] 39)).alloc (.cells #[.int .i64 1, .slice (some ⟨wr.heap.size, 0, none⟩) 1 1] 31)) b i n wr.heap.size va vc x Xs s (fun k => D k ∨ k = wr.heap.size ∨ k = wr.heap.size + 1) := by
  have hb : Below wr.heap.size wr ((wr.alloc (.cells #[.slice ra m rc] 39)).alloc (.cells #[.int .i64 1, .slice (some ⟨wr.heap.size, 0, none⟩) 1 1] 31)) := below_two wr _ _
  have hm := hr.1
  subst hm
  have hg := heap_alloc_new wr (.cells #[.slice ra x.length rc] 39)
  have hg2 := heap_alloc_new (wr.alloc (.cells #[.slice ra x.length rc] 39)) (.cells #[.int .i64 1, .slice (some ⟨wr.heap.size, 0, none⟩) 1 1] 31)
  rw [show (wr.alloc (.cells #[.slice ra x.length rc] 39)).heap.size = wr.heap.size + 1 by simp] at hg2
  have hsz : ((wr.alloc (.cells #[.slice ra x.length rc] 39)).alloc (.cells #[.int .i64 1, .slice (some ⟨wr.heap.size, 0, none⟩) 1 1] 31)).heap.size = wr.heap.size + 2 := by simp
  have hl : RdL (fun k => k < w.heap.size ∨ k = wr.heap.size) (wr.alloc (.cells #[.slice ra x.length rc] 39)) (some ⟨wr.heap.size, 0, none⟩) 1 1 [x] := by
    refine ⟨[.slice ra x.length rc], ⟨rfl, Nat.le_refl _, by unfold maxLen; omega, (fun e => by cases e), fun _ => ⟨_, 0, rfl, heap_lt hg, fun j u hu => ?_⟩⟩, fun _ ad e => by cases e; exact .inr rfl, ?_⟩
    · rw [cell_row hg, Nat.zero_add]; simpa using hu
    · exact RowsAt.one (hr.alloc _) (hF.mono (fun k q => .inl q))
  refine ⟨(h1.below hb).mono (fun k q => ?_), h2.turn hb (fun k q => ?_), h3, h4, (hl.below ((Below.refl _ _).alloc (Nat.le_refl _) _)).mono (fun k q => ?_), BoxS.of hg2, .inr (.inr rfl)⟩
  · rcases q with q | q
    · exact .inl q
    · exact .inr (.inl q)
  · rcases q with q | q | q
    · exact ⟨.inl q, by have := (h2.2.1 k q).2; omega⟩
    · exact ⟨.inr (by omega), by omega⟩
    · exact ⟨.inr (by omega), by omega⟩
  · rcases q with q | q
    · exact .inl q
    · exact .inr (.inr (.inl q))
/-- it is put -/
theorem ShM.put {w W2 : World} {b i n g : Nat} {va : Option Addr} {vc : Nat} {x : List Int} {Xs : List Rg} {s : List Nm} {D : Nat → Prop} (h : ShM w W2 b i n g va vc x Xs s D) (hx : x.length ≤ 1000) (hi : i ≤ 30) (d : Bool) :
    Calls Try.prog 15 #[.pointer (some ⟨b, 0, none⟩), .int .i32 34, .agg #[.int .i64 1, .slice (some ⟨g, 0, none⟩) 1 1], .bool d] W2 fun e w3 => e = .returned (.int .i64 0) ∧ BoxS w3 (g + 1) 1 (some ⟨g, 0, none⟩) 1 1 ∧
      Hid (d = false → ShS w w3 b (i + 1) n va vc) ∧
      Hid (d = true → ∃ a' c' w5, (∀ ty, (Builtin.append_ #[50, 50] ty #[.slice (some ⟨w3.heap.size, 0, none⟩) 1 1, .slice va n vc]).run Try.prog (w3.alloc (.cells #[.int .i64 1, .slice (some ⟨g, 0, none⟩) 1 1] 31)) = .ok (.slice a' (1 + n) c') w5) ∧ ShS w w5 b (i + 1) (1 + n) a' c') := by
  refine (h.aw.putF h.ln (by rw [size_one]; omega) (by decide)).mono ?_
  rw [put_shift s x d hx]
  rintro e w3 ⟨rfl, ha, hf⟩
  have hdis : ∀ k, (k < w.heap.size ∨ D k) → ¬ (w.heap.size ≤ k ∧ ¬ D k) := by
    rintro k (q | q) ⟨q1, q2⟩
    · omega
    · exact q2 q
  have hrg := h.rg.frF hf hdis
  have hln := h.ln.frF hf hdis
  refine ⟨rfl, h.bx.fr hf (fun q => q.2 h.bd), fun hd => ?_, fun hd => ?_⟩
  · subst hd
    exact ⟨Xs, _, D, hrg, ha, numb_yank h.nb _, by have := h.le; omega⟩
  · subst hd
    obtain ⟨a', c', w5, hrun, hrd, hb⟩ := rg_front w3 _ va n vc Xs ⟨1, [x]⟩ (some ⟨g, 0, none⟩) 1 hrg hln (by have := h.le; omega)
    refine ⟨a', c', w5, hrun, ⟨1, [x]⟩ :: Xs, _, fun k => D k ∨ (w3.heap.size ≤ k ∧ k < w5.heap.size), ?_, ha.turn hb (fun k q => ?_), numb_del h.nb _, by have := h.le; omega⟩
    · refine hrd.bound.mono (fun k q => ?_)
      rcases q.1 with (q1 | q1) | q1
      · exact .inl q1
      · exact .inr (.inl q1)
      · exact .inr (.inr ⟨q1, q.2⟩)
    · rcases q with q | q
      · exact ⟨.inl q, Nat.lt_of_lt_of_le (ha.2.1 k q).2 hb.size⟩
      · exact ⟨.inr q.1, q.2⟩
set_option maxHeartbeats 8000000 in
theorem registerShifts_wide (a : Option Addr) (len cap : Nat) (L : List (List Int)) (a1 : Option Addr) (len1 cap1 : Nat) (B : Nat → Bool) (w : World) (h : RdL (fun k => k < w.heap.size) w a len cap L) (hW : WideL L) (h1 : RdV w a1 len1 cap1 (fun i => .bool (B i))) :
    Calls Try.prog 5 #[.slice a len cap, .slice a1 len1 cap1] w fun e w' => e = .returned (.bool true) ∧ Below w.heap.size w w' := by
  have hln := h.small
  have hln1 : len1 ≤ 9223372036854775807 := by have := h1.1; have := h1.2.1; unfold maxLen at this; omega
  have hll := h.len
  have HL := Lib.hid (And.intro h hll)
  have HB := Lib.hid h1
  clear h h1 hW hll
  have HNEW := Lib.hid (new_aw w w (Below.refl _ _))
  obtain ⟨b, hbe⟩ : ∃ b, w.heap.size = b := ⟨_, rfl⟩
  rw [hbe] at HNEW
  clear hbe
  go_enter Try.func5, Try.ntmps5
  go_upto_region 4 with (go_at_call 9; (with_reducible refine HNEW.out.mono ?_); rintro e w1 ⟨rfl, H1⟩)
  have HST : Hid (ShS w w1 b 0 0 none 0) := ⟨[], [], fun _ => False, RdRg.none0, H1.out.1, numb_nil, Nat.le_refl _⟩
  clear H1
  go_wp2_with fail
  go_loopw [6, 7] (fun v6 v7 wr => ∃ (i n : Nat) (va : Option Addr) (vc : Nat), v6 = .slice va n vc ∧ v7 = .int .i64 (i : Nat) ∧ i ≤ 30 ∧ i ≤ len ∧ Hid (ShS w wr b i n va vc)) (fun _ v7 _ => ((30 : Int) - intOf v7).toNat)
  case atStart => exact ⟨0, 0, none, 0, rfl, rfl, by omega, Nat.zero_le _, HST⟩
  case round =>
    obtain ⟨i, n, va, vc, rfl, rfl, hi30, hil, hst⟩ := hrel
    clear HST HNEW
    by_cases hboth : (i : Int) < (len : Int) ∧ (i : Int) < 30
    · obtain ⟨hlt, h30⟩ := hboth
      obtain ⟨Xs, s, D, o1, o2, o3, o4⟩ := hst.out
      have hbel := o2.bel
      obtain ⟨x, hx⟩ : ∃ x, L[i]? = some x := ⟨L[i]'(by have := HL.out.2; omega), List.getElem?_eq_getElem _⟩
      obtain ⟨lb, loff, ra, rc, rfl, hlb, -, k0, hrd, -, hin⟩ := HL.out.1.get hbel hx
      have hlw : lb < wr.heap.size := Nat.lt_of_lt_of_le hlb hbel.size
      obtain ⟨m, hm⟩ : ∃ m, x.length = m := ⟨_, rfl⟩
      rw [hm] at k0 hrd hin
      have hmx := hrd.small
      by_cases hsz : m ≤ 1000
      · have hlay := ShS.lay o1 o2 o3 o4 hrd hin
        have f1 : decide ((1000 : Int) < (m : Int)) = false := by simp; omega
        have f2 : decide (1000 < m) = false := by simp; omega
        have f3 : (m : Int) ≤ 1000 := by omega
        obtain ⟨W2, hW2⟩ : ∃ W2, (wr.alloc (.cells #[.slice ra m rc] 39)).alloc (.cells #[.int .i64 1, .slice (some ⟨wr.heap.size, 0, none⟩) 1 1] 31) = W2 := ⟨_, rfl⟩
        rw [hW2] at hlay
        have HPU := Lib.hid (fun d => hlay.put (by omega) (by omega) d)
        obtain ⟨q0, q1, q2, q3, q4⟩ := hlay.bx
        have hbW2 : Below w.heap.size w W2 := hlay.aw.bel
        have HB2 := Lib.hid hbW2
        obtain ⟨g, hg⟩ : ∃ g, wr.heap.size = g := ⟨_, rfl⟩
        rw [hg] at HPU q0 q1 q2 q3 q4
        have HW2 := Lib.hid hW2
        have HG := Lib.hid hg
        clear o1 o2 o3 o4 hst hx hm hrd hin hlay hsz hW2 hg hbel hbW2
        go_upto_region 10 with fail
        (try rw [HW2.out])
        (try rw [HG.out])
        clear k0 hlw HW2 HG
        by_cases hy : i < len1 ∧ B i = true
        · obtain ⟨hy1, hy2⟩ := hy
          obtain ⟨yb, yoff, rfl, hyb, y0⟩ := HB.out.get HB2.out (i := i) hy1
          rw [hy2] at y0
          have hyw : yb < W2.heap.size := Nat.lt_of_lt_of_le hyb HB2.out.size
          have g1 : (i : Int) < (len1 : Int) := by omega
          go_upto_region 11 with fail
          go_wp2_with (go_at_call 15; (with_reducible refine (HPU.out _).mono ?_); rintro e w3 ⟨rfl, ⟨r0, r1, r2, r3, r4⟩, HF, HT⟩)
          go_roundw
          case rel => exact ⟨i + 1, n, va, vc, rfl, by first | rfl | go_num, by omega, by omega, (by first | exact HF.out rfl | exact HF.out trivial)⟩
          case measure => first | (simp [intOf]; done) | (simp [intOf]; omega)
        · have hyd : Hid ((i < len1 → B i = false)) := fun q => by
            cases hb : B i with
            | false => rfl
            | true => exact absurd ⟨q, hb⟩ hy
          clear hy
          go_cut [9] from 16 to 59 (fun v9 wx => v9 = .bool false ∧ wx = W2)
          case first =>
            by_cases hy1 : i < len1
            · obtain ⟨yb, yoff, rfl, hyb, y0⟩ := HB.out.get HB2.out (i := i) hy1
              rw [hyd.out hy1] at y0
              have hyw : yb < W2.heap.size := Nat.lt_of_lt_of_le hyb HB2.out.size
              have g1 : (i : Int) < (len1 : Int) := by omega
              go_wp2_with fail
              go_meet
              exact ⟨rfl, rfl⟩
            · have g1 : ¬ (i : Int) < (len1 : Int) := by omega
              go_wp2_with fail
              go_meet
              exact ⟨rfl, rfl⟩
          case rest =>
            obtain ⟨rfl, rfl⟩ := hcut
            clear hyd
            go_upto_region 13 with (go_at_call 15; (with_reducible refine (HPU.out _).mono ?_); rintro e w3 ⟨rfl, ⟨r0, r1, r2, r3, r4⟩, HF, HT⟩)
            obtain ⟨a', c', w5, hrun, hn5⟩ : ∃ a' c' w5, (∀ ty, (Builtin.append_ #[50, 50] ty #[.slice (some ⟨w3.heap.size, 0, none⟩) 1 1, .slice va n vc]).run Try.prog (w3.alloc (.cells #[.int .i64 1, .slice (some ⟨g, 0, none⟩) 1 1] 31)) = .ok (.slice a' (1 + n) c') w5) ∧ ShS w w5 b (i + 1) (1 + n) a' c' := by first | exact HT.out rfl | exact HT.out trivial
            have HRUN := Lib.hid hrun
            have HN5 := Lib.hid hn5
            clear hrun hn5 HF HT q0 q1 q2 q3 q4
            go_wp2_with (at_builtin; go_must (with_reducible refine Lib.wpList_append_run _ rfl _ _ _ _ rfl _ _ rfl rfl _ _ (HRUN.out _) ?_))
            go_roundw
            case rel => exact ⟨i + 1, 1 + n, a', c', rfl, by first | rfl | go_num, by omega, by omega, HN5⟩
            case measure => first | (simp [intOf]; done) | (simp [intOf]; omega)
      · have hsI : (1000 : Int) < (m : Int) := by omega
        have f1 : decide ((1000 : Int) < (m : Int)) = true := by simp; omega
        have HN : Hid (ShS w wr b (i + 1) n va vc) := ⟨Xs, s, D, o1, o2, o3, by omega⟩
        clear o1 o2 o3 o4 hst hx hm hrd hin hsz
        go_wp2_with fail
        go_roundw
        case rel => exact ⟨i + 1, n, va, vc, rfl, by first | rfl | go_num, by omega, by omega, HN⟩
        case measure => first | (simp [intOf]; done) | (simp [intOf]; omega)
    · go_upto_region 6 with fail
      go_cut [23] from 16 to 59 (fun s wx => s = .bool false ∧ wx = wr)
      case first =>
        by_cases hq : (i : Int) < (len : Int)
        · have hq3 : decide ((i : Int) < 30) = false := by have hq2 : ¬ (i : Int) < 30 := fun h => hboth ⟨hq, h⟩; simpa using hq2
          go_wp2_with fail
          go_meet
          exact ⟨by first | rfl | exact congrArg Value.bool hq3, rfl⟩
        · go_wp2_with fail
          go_meet
          exact ⟨rfl, rfl⟩
      obtain ⟨rfl, rfl⟩ := hcut
      obtain ⟨Xs, s, D, o1, o2, o3, o4⟩ := hst.out
      have hxl := o1.len
      have HZ := Lib.hid (And.intro o1 (And.intro o2 (And.intro o3 hxl)))
      have hn30 : n ≤ 30 := by omega
      clear o1 o2 o3 o4 hst hboth hxl
      go_wp2_with fail
      go_loopw [10] (fun v10 wr => ∃ j : Nat, v10 = .int .i64 (j : Nat) ∧ j ≤ 9 ∧ Hid (Below wc.heap.size wc wr)) (fun v10 _ => ((9 : Int) - intOf v10).toNat)
      case atStart => exact ⟨0, rfl, by omega, Below.refl _ _⟩
      case round =>
        obtain ⟨j, rfl, hj9, HJ⟩ := hrel
        by_cases hj : j < 9
        · have hjI : (j : Int) < 9 := by omega
          have hjn : 49 + (j : Int) ≤ 57 := by omega
          have hnb : nmB (49 + (j : Int)) = true := by unfold nmB; simp; omega
          have haw := HZ.out.2.1.below HJ.out
          have hnum := HZ.out.2.2.1 j hj
          have w1' : IntKind.i32.wrap (j : Int) = (j : Int) := by rw [IntKind.wrap_i32]; omega
          have w2' : IntKind.i32.wrap (49 + (j : Int)) = 49 + (j : Int) := by rw [IntKind.wrap_i32]; omega
          by_cases hjl : j < n
          · have hx : Xs[j]? = some (Xs.getD j rg0) := by rw [List.getD_eq_getElem?_getD, List.getElem?_eq_getElem (by have := HZ.out.2.2.2; omega)]; rfl
            obtain ⟨⟨rk, rL⟩, hre⟩ : ∃ r, Xs.getD j rg0 = r := ⟨_, rfl⟩
            rw [hre] at hx
            rw [hx] at hnum
            obtain ⟨vb, voff, ra, rc, rfl, hvb, k0, k1, hrl⟩ := HZ.out.1.get (Below.refl _ _) hx
            simp only at k0 k1 hrl
            have HGT : Hid (Calls Try.prog 11 #[.pointer (some ⟨b, 0, none⟩), .int .i32 (49 + (j : Int))] wr fun e w2 => ∃ a2 c2, e = .returned (.tuple #[.agg #[.int .i64 rk, .slice a2 rL.length c2], .int .i64 0]) ∧ Hid (∀ o, Below wc.heap.size wc (w2.alloc o) ∧ ∃ F, RdL F (w2.alloc o) a2 rL.length c2 rL)) := by
              refine (haw.get (nmB_wf hnb) (nmB_some hnb hnum)).mono ?_
              rintro e w2 ⟨a2, c2, rfl, h⟩
              refine ⟨a2, c2, rfl, fun o => ⟨?_, _, (h.out.1.rdl h.out.2.1).below ((Below.refl _ _).alloc (Nat.le_refl _) _)⟩⟩
              have hb2 := HJ.out.trans (h.out.2.2.mono HJ.out.size)
              exact hb2.alloc hb2.size _
            obtain ⟨m, hm⟩ : ∃ m, rL.length = m := ⟨_, rfl⟩
            rw [hm] at HGT k1 hrl
            have HRL := Lib.hid hrl
            have g1 : ¬ (n : Int) ≤ (j : Int) := by omega
            have g2 : decide ((n : Int) ≤ (j : Int)) = false := by simp; omega
            have g3 : decide (n ≤ j) = false := by simp; omega
            clear hx hre hnum hrl haw hnb hm
            go_upto_region 19 with (go_at_call 11; (with_reducible refine HGT.out.mono ?_); rintro e w2 ⟨a2, c2, rfl, H2⟩)
            obtain ⟨w3, hw3⟩ : ∃ w3, w2.alloc (.cells #[.int .i64 rk, .slice a2 m c2] 31) = w3 := ⟨_, rfl⟩
            obtain ⟨g, hg⟩ : ∃ g, w2.heap.size = g := ⟨_, rfl⟩
            have hrow3 : w3.heap[g]? = some (.cells #[.int .i64 rk, .slice a2 m c2] 31 (0, 0)) := by rw [← hw3, ← hg]; exact heap_alloc_new w2 _
            obtain ⟨hb3, F3, hr3⟩ := H2.out (.cells #[.int .i64 rk, .slice a2 m c2] 31)
            rw [hw3] at hb3 hr3
            have HB3 : Hid (Below wc.heap.size wc w3) := hb3
            have HSM : Hid (∀ W, Hid (Below w3.heap.size w3 W) → Calls Try.prog 13 #[.agg #[.int .i64 rk, .slice a2 m c2], .agg #[.int .i64 rk, .slice ra m rc]] W fun e w' => e = .returned (.bool true) ∧ Hid (Below w3.heap.size w3 w')) := by
              intro W hW
              refine (rsameR_any _ _ rk rk a2 ra m m c2 rc rL rL W (hr3.below hW.out) (HRL.out.below (hb3.trans (hW.out.mono hb3.size)))).mono ?_
              rintro e w' ⟨rfl, hb⟩
              exact ⟨by simp, hW.out.trans (hb.mono hW.out.size)⟩
            have KS : Hid (∀ W, Below w3.heap.size w3 W → (W.cell? ⟨g, 0, none⟩ = some (.int .i64 rk) ∧ W.cell? ⟨g, 1, none⟩ = some (.slice a2 m c2) ∧ W.cell? ⟨vb, voff + j * 2, none⟩ = some (.int .i64 rk) ∧ W.cell? ⟨vb, voff + j * 2 + 1, none⟩ = some (.slice ra m rc))) := by
              intro W hW
              have e1 := (hW.block g (heap_lt hrow3)).trans hrow3
              have hbW := hb3.trans (hW.mono hb3.size)
              exact ⟨cell_row e1 0, cell_row e1 1, (hbW.cell (p := ⟨vb, voff + j * 2, none⟩) hvb).trans k0, (hbW.cell (p := ⟨vb, voff + j * 2 + 1, none⟩) hvb).trans k1⟩
            have HR0 : Hid (Below w3.heap.size w3 w3) := Below.refl _ _
            have HR1 : Hid (Below w3.heap.size w3 w3.drew) := (Below.refl _ _).drew
            rw [hw3, hg]
            obtain ⟨c0, c1, c2', c3⟩ := KS.out _ HR0.out
            have hjlI : (j : Int) < (n : Int) := by omega
            clear hw3 hg hrow3 hb3 hr3 H2 k0 k1
            go_upto_region 22 with fail
            go_region_held3 (fun W => (W.cell? ⟨g, 0, none⟩ = some (.int .i64 rk) ∧ W.cell? ⟨g, 1, none⟩ = some (.slice a2 m c2) ∧ W.cell? ⟨vb, voff + j * 2, none⟩ = some (.int .i64 rk) ∧ W.cell? ⟨vb, voff + j * 2 + 1, none⟩ = some (.slice ra m rc)))
              (first | exact KS.out _ HR0.out | exact KS.out _ HR1.out | exact KS.out _ HB5.out)
              (first | (go_at_call 13; (with_reducible refine (HSM.out _ (by first | exact HR1 | exact HR0)).mono ?_); rintro e w5 ⟨rfl, HB5⟩))
            all_goals
              have HN : Hid (Below wc.heap.size wc w5) := HB3.out.trans (HB5.out.mono HB3.out.size)
              go_wp2_with fail
              go_roundw
              case rel => exact ⟨j + 1, by first | rfl | go_num, by omega, HN⟩
              case measure => first | (simp [intOf]; done) | (simp [intOf]; omega)
          · have hx : Xs[j]? = none := List.getElem?_eq_none (by have := HZ.out.2.2.2; omega)
            rw [hx] at hnum
            have HGT : Hid (Calls Try.prog 11 #[.pointer (some ⟨b, 0, none⟩), .int .i32 (49 + (j : Int))] wr fun e w2 => ∃ a2 c2, e = .returned (.tuple #[.agg #[.int .i64 0, .slice a2 0 c2], .int .i64 26]) ∧ Hid (∀ o, Below wc.heap.size wc (w2.alloc o))) := by
              refine (haw.get (nmB_wf hnb) (nmB_none hnb hnum)).mono ?_
              rintro e w2 ⟨a2, c2, rfl, h⟩
              refine ⟨a2, c2, rfl, fun o => ?_⟩
              have hb2 := HJ.out.trans (h.out.2.2.mono HJ.out.size)
              exact hb2.alloc hb2.size _
            have g1 : (n : Int) ≤ (j : Int) := by omega
            have g2 : decide ((n : Int) ≤ (j : Int)) = true := by simp; omega
            have g3 : decide (n ≤ j) = true := by simp; omega
            clear hx hnum haw hnb
            go_upto_region 19 with (go_at_call 11; (with_reducible refine HGT.out.mono ?_); rintro e w2 ⟨a2, c2, rfl, H2⟩)
            obtain ⟨w3, hw3⟩ : ∃ w3, w2.alloc (.cells #[.int .i64 0, .slice a2 0 c2] 31) = w3 := ⟨_, rfl⟩
            have HN : Hid (Below wc.heap.size wc w3) := by rw [← hw3]; exact H2.out _
            rw [hw3]
            clear hw3 H2
            go_wp2_with fail
            go_roundw
            case rel => exact ⟨j + 1, by first | rfl | go_num, by omega, HN⟩
            case measure => first | (simp [intOf]; done) | (simp [intOf]; omega)
        · obtain rfl : j = 9 := by omega
          have HK : Hid (Calls Try.prog 19 #[] wr fun e w' => e = .returned (.bool true) ∧ Hid (Below w.heap.size w w')) := by
            refine (awake_any wr).mono ?_
            rintro e w' ⟨rfl, hb⟩
            have h2 := HZ.out.2.1.bel
            exact ⟨rfl, h2.trans ((HJ.out.trans (hb.mono HJ.out.size)).mono h2.size)⟩
          go_wp2_with (go_at_call 19; (with_reducible refine HK.out.mono ?_); rintro e w9 ⟨rfl, HB9⟩)
          go_ret
          exact ⟨rfl, HB9.out⟩
end Go.Proofs.Ytleidcegbfnmkaa.U
