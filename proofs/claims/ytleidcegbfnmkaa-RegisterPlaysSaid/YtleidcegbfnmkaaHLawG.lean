/-
  The walk of RegisterGrows.
-/
import Derived.Test.YtleidcegbfnmkaaHLawM
import Derived.Test.YtleidcegbfnmkaaHArg
namespace Go.Proofs.Ytleidcegbfnmkaa.U
open Go.RowKit
set_option linter.unusedVariables false
set_option linter.unusedSimpArgs false
set_option maxRecDepth 100000

/-- what q holds behind i texts -/
def HoldQ (s : List Nm) (xs : List Int) (i : Nat) : Prop := (i = 0 ∧ holdsR s 113 = none ∧ xs = []) ∨ (0 < i ∧ holdsR s 113 = some ⟨0, [xs]⟩)
theorem HoldQ.put {s : List Nm} {xs ys : List Int} {i : Nat} (h : HoldQ s xs i) (hs : xs.length + ys.length + 1 ≤ 65536) : putR s 81 ⟨0, [ys]⟩ false = (finR s 113 ⟨0, [xs ++ ys]⟩, 0) ∧ HoldQ (finR s 113 ⟨0, [xs ++ ys]⟩) (xs ++ ys) (i + 1) := by
  refine ⟨?_, .inr ⟨by omega, fin_holds _ _ _⟩⟩
  rcases h with ⟨rfl, h1, rfl⟩ | ⟨hi, h1⟩
  · have hr : regB 0 [ys] = true := by unfold regB; rw [size_one]; simp; omega
    have hg : grownR s (81 + 32) (normR ⟨0, [ys]⟩) = ⟨0, [ys]⟩ := by
      unfold grownR
      rw [show (81 : Int) + 32 = 113 by decide, h1]
      rfl
    rw [big_put s 81 0 [ys] false hr (by decide), hg, if_neg (by simp only [size_one]; omega)]
    rfl
  · rw [put_more s false (by decide) (by omega) h1, if_neg (by omega)]
    rfl
/-- a write into blocks of the caller's own, which may move on to new ones -/
theorem AwG.grow {w0 W W2 : World} {b : Nat} {s : List Nm} {D D2 : Nat → Prop} (h : AwG w0 W b s D) (hf : Fr D W W2) (hD : ∀ k, D2 k → (D k ∨ W.heap.size ≤ k) ∧ k < W2.heap.size) : AwG w0 W2 b s D2 := by
  obtain ⟨h1, hd, P, h2, h3, h4⟩ := h
  refine ⟨h1.trans (hf.below h1.size (fun k hk => (hd k hk).1)), fun k hk => ⟨?_, (hD k hk).2⟩, P, h2.fr hf h4, h3, fun k hp hk => ?_⟩
  · rcases (hD k hk).1 with q | q
    · exact (hd k q).1
    · exact Nat.le_trans h1.size q
  · rcases (hD k hk).1 with q | q
    · exact h4 k hp q
    · have := h2.lt k hp; omega
/-- the state between the rounds -/
def GrS (w wr : World) (b i n : Nat) (aa : Option Addr) (cc : Nat) : Prop := ∃ xs s, wr.ownsRow 0 21 1 (.slice aa n cc) n (ints xs) ∧ n ≤ 1000 * i ∧ (∀ x ∈ xs, (Lit.int .i32 x).wf = true) ∧ AwG w wr b s (fun k => (Value.slice aa n cc).ownBlock = some k) ∧ HoldQ s xs i ∧ xs.length = n
theorem GrS.step {w wr w2 w3 W3 : World} {b i n m g : Nat} {aa : Option Addr} {cc : Nat} {xs ys : List Int} {s2 : List Nm} {ra : Option Addr} (h1 : wr.ownsRow 0 21 1 (.slice aa n cc) n (ints xs)) (hn : n ≤ 1000 * i) (hi : i ≤ 20) (hx : ∀ x ∈ xs, (Lit.int .i32 x).wf = true) (hxl : xs.length = n) (hy : ∀ y ∈ ys, (Lit.int .i32 y).wf = true) (hm : m ≤ 1000) (hb : Below wr.heap.size wr w2)
    (hf : Fr (fun k => ¬ (Value.slice aa n cc).ownBlock = some k) w2 w3) (ha : AwG w w3 b s2 (fun k => (Value.slice aa n cc).ownBlock = some k)) (hq : HoldQ s2 (xs ++ ys) (i + 1)) (hb3 : Below w3.heap.size w3 W3) (hr : Rd .i32 W3 ra m g ys) :
    ∃ a5 c5 w5, (∀ ty, (Builtin.append_ #[39, 39] ty #[.slice aa n cc, .slice ra m g]).run Try.prog W3 = .ok (.slice a5 (n + m) c5) w5) ∧ GrS w w5 b (i + 1) (n + m) a5 c5 := by
  have hyl : ys.length = m := hr.1
  have o2 := own_fr h1 (Fr.of_below (fun _ => False) hb) (fun _ _ h => h)
  have o3 := own_fr o2 hf (fun k e h => h e)
  have o4 := own_fr o3 (Fr.of_below (fun _ => False) hb3) (fun _ _ h => h)
  obtain ⟨i0, hi0, hz0, hz1, hz2⟩ := info_parts infoI
  obtain ⟨v', w5, hrun, hown, hfr, hnear⟩ := run_append_own_k (P := Try.prog) W3 0 39 21 i0 _ 1 4 Try.underlying39 hi0 hz0 hz1 hz2 rfl (by decide) (.slice aa n cc) n (ints xs) o4 ra m g (ints ys) (by simp [ints, hyl])
    (fun hp => Rd_cells hr hp) (ints1 _ _) (by unfold maxLen; omega) (by omega) (Nat.zero_le _)
  obtain ⟨a5, c5, rfl⟩ := own_slice hown
  have ha4 := ha.below hb3
  refine ⟨a5, c5, w5, hrun, xs ++ ys, s2, by simpa [ints] using hown, by omega, fun x q => ?_, ha4.grow (hfr.mono (fun x _ e => e.symm)) (fun k e => ⟨?_, (hown.lt k e).2⟩), hq, by simp [hxl, hyl]⟩
  · rcases List.mem_append.1 q with e | e
    · exact hx x e
    · exact hy x e
  · rcases hnear with p | p
    · exact .inl (p ▸ e)
    · rw [p] at e
      exact .inr (Nat.le_of_eq (Option.some.inj e))
set_option maxHeartbeats 4000000 in
theorem registerGrows_wide (a : Option Addr) (len cap : Nat) (S : Nat → ByteArray) (w : World) (h : RdV w a len cap (fun i => .string (S i))) :
    Calls Try.prog 6 #[.slice a len cap] w fun e w' => e = .returned (.bool true) ∧ Below w.heap.size w w' := by
  have HD := Lib.hid h
  have hln : len ≤ 9223372036854775807 := by have := h.1; have := h.2.1; unfold maxLen at this; omega
  clear h
  have HNEW := Lib.hid (new_aw w w (Below.refl _ _))
  obtain ⟨b, hbe⟩ : ∃ b, w.heap.size = b := ⟨_, rfl⟩
  rw [hbe] at HNEW
  clear hbe
  go_enter Try.func6, Try.ntmps6
  go_upto_region 4 with (go_at_call 9; (with_reducible refine HNEW.out.mono ?_); rintro e w1 ⟨rfl, H1⟩)
  have HST : Hid (GrS w w1 b 0 0 none 0) := ⟨[], [], World.ownsRow_nil _ _ _ _, Nat.zero_le _, (fun x hx => by cases hx), H1.out.1.turn (Below.refl _ _) (fun k e => (by cases e)), .inl ⟨rfl, rfl, rfl⟩, rfl⟩
  clear H1
  go_wp2_with fail
  go_loopw [4, 5] (fun v4 v5 wr => ∃ (i n : Nat) (aa : Option Addr) (cc : Nat), v4 = .slice aa n cc ∧ v5 = .int .i64 (i : Nat) ∧ i ≤ 20 ∧ i ≤ len ∧ Hid (GrS w wr b i n aa cc)) (fun _ v5 _ => ((20 : Int) - intOf v5).toNat)
  case atStart => exact ⟨0, 0, none, 0, rfl, rfl, by omega, Nat.zero_le _, HST⟩
  case round =>
    obtain ⟨i, n, aa, cc, rfl, rfl, hi20, hil, hst⟩ := hrel
    clear HST HNEW
    by_cases hboth : (i : Int) < (len : Int) ∧ (i : Int) < 20
    · obtain ⟨hlt, h20⟩ := hboth
      obtain ⟨xs, s, o1, o2, o3, o4, o5, o6⟩ := hst.out
      obtain ⟨bb, off, rfl, hbl, k0⟩ := HD.out.get o4.bel (i := i) (by omega)
      have hbw : bb < wr.heap.size := Nat.lt_of_lt_of_le hbl o4.bel.size
      obtain ⟨si, hsi⟩ : ∃ si, S i = si := ⟨_, rfl⟩
      rw [hsi] at k0
      by_cases hsz : si.size ≤ 1000
      · obtain ⟨ys, y1, y2, y3⟩ := runes_of si
        obtain ⟨hp1, hp2⟩ := o5.put (ys := ys) (by omega)
        have HCH : Hid (Calls Try.prog 20 #[.string si] wr fun e w2 => ∃ a2 c2, e = .returned (.agg #[.int .i64 0, .slice a2 1 c2]) ∧ Hid ((∃ F, RdL F w2 a2 1 c2 [ys]) ∧ Below wr.heap.size wr w2)) := by
          refine (char_any si ys ys.length rfl y1 y2 (by omega) wr).mono ?_
          rintro e w2 ⟨a2, c2, rfl, h⟩
          exact ⟨a2, c2, rfl, ⟨_, h.out.1⟩, h.out.2⟩
        have HPU : Hid (∀ w2 a2 c2, Hid ((∃ F, RdL F w2 a2 1 c2 [ys]) ∧ Below wr.heap.size wr w2) → Calls Try.prog 15 #[.pointer (some ⟨b, 0, none⟩), .int .i32 81, .agg #[.int .i64 0, .slice a2 1 c2], .bool false] w2 fun e w3 => ∃ g W3 a5 c5 w5, e = .returned (.int .i64 0) ∧ w3.cell? ⟨bb, off + i, none⟩ = some (.string si) ∧ bb < w3.heap.size ∧ (convert 9 39 (.string si)).run Try.prog w3 = .ok (.slice (some ⟨w3.heap.size, 0, none⟩) ys.length g) W3 ∧
            Hid (∀ ty, (Builtin.append_ #[39, 39] ty #[.slice aa n cc, .slice (some ⟨w3.heap.size, 0, none⟩) ys.length g]).run Try.prog W3 = .ok (.slice a5 (n + ys.length) c5) w5) ∧ Hid (GrS w w5 b (i + 1) (n + ys.length) a5 c5)) := by
          intro w2 a2 c2 hw2
          refine ((o4.below hw2.out.2).put1 hw2.out.1 (by omega) (by decide) hp1).mono ?_
          rintro e w3 ⟨rfl, h3⟩
          obtain ⟨g, W3, hcv, hrd, hb3, _⟩ := conv_any si ys ys.length rfl y1 y2 (by omega) w3
          obtain ⟨a5, c5, w5, hrun, hn5⟩ := GrS.step o1 o2 (by omega) o3 o6 y2 (by omega) hw2.out.2 h3.out.2 h3.out.1 hp2 hb3 hrd
          have hb03 := h3.out.1.bel
          exact ⟨g, W3, a5, c5, w5, rfl, (hb03.cell (p := ⟨bb, off + i, none⟩) hbl).trans ((o4.bel.cell (p := ⟨bb, off + i, none⟩) hbl).symm.trans k0), Nat.lt_of_lt_of_le hbl hb03.size, hcv, hrun, hn5⟩
        have hsI : (si.size : Int) ≤ 1000 := by omega
        have f1 : decide ((1000 : Int) < (si.size : Int)) = false := by simp; omega
        have f2 : decide (1000 < si.size) = false := by simp; omega
        obtain ⟨m, hm⟩ : ∃ m, ys.length = m := ⟨_, rfl⟩
        rw [hm] at HPU
        clear o1 o2 o3 o4 o5 o6 y1 y2 y3 hp1 hp2 hsi hm hst hsz
        go_upto_region 12 with (first
          | (go_at_call 20; (with_reducible refine HCH.out.mono ?_); rintro e w2 ⟨a2, c2, rfl, H2⟩)
          | (go_at_call 15; (with_reducible refine (HPU.out _ _ _ H2).mono ?_); rintro e w3 ⟨g, W3, a5, c5, w5, rfl, k3, l3, hcv, HRUN, HN⟩))
        clear HCH HPU k0
        go_wp2_with (at_builtin; go_must (with_reducible refine Lib.wpList_append_run _ rfl _ _ _ _ rfl _ _ rfl rfl _ _ (HRUN.out _) ?_))
        go_roundw
        case rel => exact ⟨i + 1, n + m, a5, c5, rfl, by first | rfl | go_num, by omega, by omega, HN⟩
        case measure => first | (simp [intOf]; done) | (simp [intOf]; omega)
      · have hsI : (1000 : Int) < (si.size : Int) := by omega
        have f1 : decide ((1000 : Int) < (si.size : Int)) = true := by simp; omega
        have HB := Lib.hid o4.bel
        clear o1 o2 o3 o4 o5 o6 hsi hst hsz
        go_wp2_with fail
        go_ret
        exact ⟨rfl, HB.out⟩
    · go_upto_region 6 with fail
      go_cut [18] from 11 to 41 (fun s wx => s = .bool false ∧ wx = wr)
      case first =>
        by_cases hq : (i : Int) < (len : Int)
        · have hq3 : decide ((i : Int) < 20) = false := by have hq2 : ¬ (i : Int) < 20 := fun h => hboth ⟨hq, h⟩; simpa using hq2
          go_wp2_with fail
          go_meet
          exact ⟨by first | rfl | exact congrArg Value.bool hq3, rfl⟩
        · go_wp2_with fail
          go_meet
          exact ⟨rfl, rfl⟩
      obtain ⟨rfl, rfl⟩ := hcut
      obtain ⟨xs, s, o1, o2, o3, o4, o5, o6⟩ := hst.out
      have HBL : Hid (Below w.heap.size w wc ∧ w.heap.size ≤ wc.heap.size) := ⟨o4.bel, o4.bel.size⟩
      have HK : Hid (∀ W, Hid (Below wc.heap.size wc W) → Calls Try.prog 19 #[] W fun e w' => e = .returned (.bool true) ∧ Hid (Below w.heap.size w w')) := by
        intro W hW
        refine (awake_any W).mono ?_
        rintro e w' ⟨rfl, hb⟩
        exact ⟨rfl, HBL.out.1.trans ((hW.out.trans (hb.mono hW.out.size)).mono HBL.out.2)⟩
      rcases o5 with ⟨hi0, hh, hx0⟩ | ⟨hi0, hh⟩
      · have hlen : len = 0 := by
          by_cases h0 : len = 0
          · exact h0
          · exfalso
            apply hboth
            omega
        have HG := Lib.hid (o4.get (n := 113) rfl (nmB_none (by decide) hh))
        have HG' : Hid (Calls Try.prog 11 #[.pointer (some ⟨b, 0, none⟩), .int .i32 113] wc fun e w2 => ∃ a2 c2, e = .returned (.tuple #[.agg #[.int .i64 0, .slice a2 0 c2], .int .i64 26]) ∧ Hid (∀ o, Below wc.heap.size wc (w2.alloc o))) := by
          refine HG.out.mono ?_
          rintro e w2 ⟨a2, c2, rfl, h⟩
          exact ⟨a2, c2, rfl, fun o => h.out.2.2.alloc h.out.2.2.size _⟩
        have f0 : ((len : Int) == 0) = true := by simp [hlen]
        clear o1 o2 o3 o4 o6 hh hst hboth HG hi0 hx0 hlen
        go_upto_region 14 with (go_at_call 11; (with_reducible refine HG'.out.mono ?_); rintro e w2 ⟨a2, c2, rfl, H2⟩)
        obtain ⟨w3, hw3⟩ : ∃ w3, w2.alloc (.cells #[.int .i64 0, .slice a2 0 c2] 31) = w3 := ⟨_, rfl⟩
        have H3 : Hid (Below wc.heap.size wc w3) := by rw [← hw3]; exact H2.out _
        rw [hw3]
        clear hw3 H2
        go_wp2_with (go_at_call 19; (with_reducible refine (HK.out _ H3).mono ?_); rintro e w9 ⟨rfl, HB9⟩)
        go_ret
        exact ⟨rfl, HB9.out⟩
      · have hlen : ¬ len = 0 := by omega
        have HG := Lib.hid (o4.get (n := 113) rfl (nmB_some (by decide) hh))
        have hrow : Rd .i32 wc aa n cc xs := own_rd o1 o3
        have HG' : Hid (Calls Try.prog 11 #[.pointer (some ⟨b, 0, none⟩), .int .i32 113] wc fun e w2 => ∃ a2 c2, e = .returned (.tuple #[.agg #[.int .i64 0, .slice a2 1 c2], .int .i64 0]) ∧ Hid (∀ o, Below wc.heap.size wc (w2.alloc o) ∧ (w2.alloc o).heap[w2.heap.size]? = (w2.alloc o).heap[w2.heap.size]? ∧
            Calls Try.prog 13 #[.agg #[.int .i64 0, .slice a2 1 c2], .agg #[.int .i64 0, .slice (some ⟨(w2.alloc o).heap.size, 0, none⟩) 1 1]] ((w2.alloc o).alloc (.cells #[.slice aa n cc] 39)) fun e w' => e = .returned (.bool true) ∧ Hid (Below wc.heap.size wc w'))) := by
          refine HG.out.mono ?_
          rintro e w2 ⟨a2, c2, rfl, h⟩
          refine ⟨a2, c2, rfl, fun o => ?_⟩
          have hb2 : Below wc.heap.size wc (w2.alloc o) := h.out.2.2.alloc h.out.2.2.size _
          have hr1 := (h.out.1.rdl h.out.2.1).below (w' := (w2.alloc o).alloc (.cells #[.slice aa n cc] 39)) (below_two w2 _ _)
          have hr2 := one_new (B := 0) (hrow.below hb2) (fun _ ad e => Nat.zero_le _) (Nat.zero_le _)
          refine ⟨hb2, rfl, ?_⟩
          refine (rsameR_any _ _ 0 0 a2 _ 1 1 c2 1 _ _ _ hr1 hr2).mono ?_
          rintro e w' ⟨rfl, hb⟩
          have hb4 : Below wc.heap.size wc ((w2.alloc o).alloc (.cells #[.slice aa n cc] 39)) := hb2.alloc hb2.size _
          exact ⟨by simp, hb4.trans (hb.mono hb4.size)⟩
        have f0 : ((len : Int) == 0) = false := by simpa using hlen
        clear o1 o2 o3 o4 o6 hh hst hboth HG hi0 hlen hrow
        go_upto_region 14 with (go_at_call 11; (with_reducible refine HG'.out.mono ?_); rintro e w2 ⟨a2, c2, rfl, H2⟩)
        obtain ⟨w3, hw3⟩ : ∃ w3, w2.alloc (.cells #[.int .i64 0, .slice a2 1 c2] 31) = w3 := ⟨_, rfl⟩
        obtain ⟨g, hg⟩ : ∃ g, w2.heap.size = g := ⟨_, rfl⟩
        have hrow3 : w3.heap[g]? = some (.cells #[.int .i64 0, .slice a2 1 c2] 31 (0, 0)) := by rw [← hw3, ← hg]; exact heap_alloc_new w2 _
        have H3 : Hid (Calls Try.prog 13 #[.agg #[.int .i64 0, .slice a2 1 c2], .agg #[.int .i64 0, .slice (some ⟨w3.heap.size, 0, none⟩) 1 1]] (w3.alloc (.cells #[.slice aa n cc] 39)) fun e w' => e = .returned (.bool true) ∧ Hid (Below wc.heap.size wc w')) := by rw [← hw3]; exact (H2.out _).2.2
        rw [hw3, hg]
        have c0 := cell_row hrow3 0
        have c1 := cell_row hrow3 1
        have cl := heap_lt hrow3
        clear hw3 H2 hg hrow3
        go_wp2_with (first
          | (go_at_call 13; (with_reducible refine H3.out.mono ?_); rintro e w4 ⟨rfl, H4⟩)
          | (go_at_call 19; (with_reducible refine (HK.out _ H4).mono ?_); rintro e w9 ⟨rfl, HB9⟩))
        go_ret
        exact ⟨rfl, HB9.out⟩
end Go.Proofs.Ytleidcegbfnmkaa.U
