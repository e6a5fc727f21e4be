/-
  The walk of UtfFeeds: bytes that come piece by piece.
-/
import Derived.Test.YtcjngpgicegacaaURefD
import Derived.Test.YtcjngpgicegacaaULaws1
import Derived.BigFrame
namespace Go.Proofs.Ytcjngpgicegacaa.U
open Go.RowKit
set_option linter.unusedVariables false
set_option linter.unusedSimpArgs false

/-- append what can be read, where the operation is guarded and its guard says yes -/
theorem wpList_appRd_g {P : Program} {w : World} {ops : Array Oper} {rest : List Oper} {o : Oper} {a : Act} {Q : Exit → Act → World → Prop} (hw : Region.wanted o (yielded ops a.tmps) = true) (s x : Operand) (t : TypeId)
    (ho : o.op = .call { callee := .builtin .append, args := #[s, x], argTypes := #[t, t] })
    (base : Nat) (e : TypeId) (i : TypeInfo) (z : Value) (bytes : Nat) (ht : P.underlying t = some (.slice e)) (hi : P.info? e = some i) (hz : i.zero = some z)
    (hsize : i.size = 1) (hby : i.bytes = bytes) (hzs : z.cells.size = 1)
    (v : Value) (n : Nat) (xs : List Value) (hs : a.eval s = v) (hown : w.ownsRow base e 1 v n xs)
    (k : IntKind) (ad : Option Addr) (m c : Nat) (ys : List Int) (hx : a.eval x = .slice ad m c) (hrd : Rd k w ad m c ys)
    (h63 : n + m ≤ maxLen) (hbytes : (n + m) * bytes ≤ 140737488355328) (hbase : base ≤ w.heap.size)
    (h : ∀ v' w', w'.ownsRow base e 1 v' (n + m) (xs ++ ys.map (Value.int k)) → Below base w w' → wpList P ops Q rest (a.put o.dst v') w') : wpList P ops Q (o :: rest) a w := by
  have hb : ∀ w', w.grownBy w' v.ownBlock → Below base w w' := fun w' hg => (Below.refl base w).grown hg hbase (fun k hk => (hown.lt k hk).1)
  refine BigFrame.wpList_want hw fun K hK => ?_
  have h1 : ∀ u ∈ ys.map (Value.int k), u.oneCell' = true := by
    intro u hu
    simp only [List.mem_map] at hu
    obtain ⟨x, _, rfl⟩ := hu
    rfl
  by_cases hm : 0 < m
  · obtain ⟨ad', rfl, hn⟩ := Rd_cells hrd hm
    exact wp_append_own w s x t ho base e i z 1 bytes ht hi hz hsize hby hzs (by decide) v n xs hs hown ad' m c (ys.map (Value.int k)) hx (by simpa using hrd.1) hn h1 h63 hbytes hbase (fun v' w' h2 h3 _ => hK _ _ (h v' w' h2 (hb w' h3)))
  · obtain rfl : m = 0 := by omega
    obtain rfl : ys = [] := List.eq_nil_of_length_eq_zero hrd.1
    cases ad with
    | some ad' => exact wp_append_own w s x t ho base e i z 1 bytes ht hi hz hsize hby hzs (by decide) v n xs hs hown ad' 0 c [] hx rfl (by simp) (by simp) h63 hbytes hbase (fun v' w' h2 h3 _ => hK _ _ (h v' w' (by simpa using h2) (hb w' h3)))
    | none =>
      obtain rfl : c = 0 := hrd.2.2.2.2.1 rfl
      have hrun := run_append_owned_none (P := P) (w := w) base t o.type e i 1 ht hi v n xs hown
      unfold Oper.wp
      simp [execOp, ho, resolve, invoke, builtin, hs, hx, hrun, Result.andThen]
      exact hK _ _ (h v w (by simpa using hown) (Below.refl _ _))

theorem nextGo_app (l x : List Int) (k : Nat) (r lo hi n R N : Int) (h : nextGo l k r lo hi n = (R, N, false)) : nextGo (l ++ x) k r lo hi n = (R, N, false) := by
  induction k generalizing l r lo hi with
  | zero => rw [nextGo_zero] at h ⊢; exact h
  | succ k ih =>
    cases l with
    | nil => simp [nextGo] at h
    | cons c cs =>
      simp only [List.cons_append, nextGo] at h ⊢
      split at h
      · rename_i hc; rw [if_pos hc]; exact h
      · rename_i hc; rw [if_neg hc]; exact ih cs _ _ _ h
theorem nextV_app (b x : List Int) {R N : Int} (h : nextV b = (R, N, false)) : nextV (b ++ x) = (R, N, false) := by
  cases b with
  | nil => simp [nextV] at h
  | cons c cs =>
    simp only [List.cons_append, nextV] at h ⊢
    split at h
    · rename_i hc; rw [if_pos hc]; exact h
    rename_i h0
    rw [if_neg h0]
    split at h
    · rename_i hc; rw [if_pos hc]; exact h
    rename_i h1
    rw [if_neg h1]
    exact nextGo_app _ _ _ _ _ _ _ _ _ h
theorem feedV_app (f : Nat) : ∀ (b x : List Int), b.length ≤ f → feedV (b ++ x) = ((feedV b).1 ++ (feedV ((feedV b).2 ++ x)).1, (feedV ((feedV b).2 ++ x)).2) := by
  induction f with
  | zero => intro b x hb; have : b = [] := List.eq_nil_of_length_eq_zero (by omega); subst this; simp [show feedV [] = ([], []) from rfl]
  | succ f ih =>
    intro b x hb
    rcases hq : nextV b with ⟨R, N, m⟩
    cases m with
    | true => rw [feedV_more hq]; simp
    | false =>
      have ho := (nextV_out hq).2 rfl
      have hd : (b ++ x).drop N.toNat = b.drop N.toNat ++ x := by rw [List.drop_append_of_le_length (by omega)]
      rw [feedV_step hq, feedV_step (nextV_app b x hq), hd, ih _ x (by simp; omega)]
      simp
theorem feed_more {xs ls held : List Int} {at' m : Nat} (h : feedV (xs.take at') = (ls, held)) :
    feedV (xs.take (at' + m)) = (ls ++ (feedV (held ++ (xs.drop at').take m)).1, (feedV (held ++ (xs.drop at').take m)).2) := by
  rw [List.take_add, feedV_app _ _ _ (Nat.le_refl _), h]

theorem feed_last {xs ls held : List Int} {q : Nat} (h : feedV (xs.take q) = (ls, held)) :
    feedV xs = (ls ++ (feedV (held ++ xs.drop q)).1, (feedV (held ++ xs.drop q)).2) := by
  have h2 := feedV_app _ (xs.take q) (xs.drop q) (Nat.le_refl _)
  rw [List.take_append_drop, h] at h2
  exact h2

theorem FdAt.short {w : World} {bf : Nat} {held : List Int} (h : FdAt w bf held) : held.length ≤ 3 := by
  obtain ⟨_, _, _, _, _, h, _⟩ := h
  exact h
theorem FdAt.below_of {w w' : World} {B bf : Nat} {held : List Int} (h : FdAt w bf held) (hb : Below B w w') (hB : bf < B) : FdAt w' bf held := by
  obtain ⟨h0, h1, h2, hh, r⟩ := h
  exact ⟨h0, h1, h2, (hb.block bf hB).trans hh, r⟩
theorem feed_wf {bs : List Int} (hb : ∀ x ∈ bs, 0 ≤ x ∧ x ≤ 255) : ∀ x ∈ (feedV bs).1, (Lit.int .i32 x).wf = true := feedN_wf _ bs hb
theorem feedN_held (f : Nat) : ∀ (b : List Int), ∀ x ∈ (feedN f b).2, x ∈ b := by
  induction f with
  | zero => intro b x hx; simpa [feedN] using hx
  | succ f ih =>
    intro b x hx
    simp only [feedN] at hx
    rcases hq : nextV b with ⟨R, N, m⟩
    rw [hq] at hx
    cases m with
    | true => simpa using hx
    | false => exact List.mem_of_mem_drop (ih _ x hx)

set_option maxRecDepth 100000 in
set_option maxHeartbeats 800000 in
theorem utfFeeds_walk (a : Option Addr) (len cap : Nat) (xs : List Int) (a2 : Option Addr) (len2 cap2 : Nat) (cs : List Int) (w : World) (h : Rd .u8 w a len cap xs) (h2 : Rd .i64 w a2 len2 cap2 cs) (b1 : len ≤ 1048576) (b2 : len2 ≤ 1048576) :
    Calls Try.prog 7 #[.slice a len cap, .slice a2 len2 cap2] w fun e w' => e = .returned (.bool true) ∧ Below w.heap.size w w' := by
  obtain ⟨j0, hj, hy0, hy1, hy2⟩ := info_parts infoR
  have HL := Lib.hid h.1
  have HBY : Hid (∀ x ∈ xs, 0 ≤ x ∧ x ≤ 255) := fun x hx => wf_u8_in (h.2.2.2.1 x hx)
  have hlc := h.2.1
  have hcm : cap ≤ 9223372036854775807 := by have := h.2.2.1; unfold maxLen at this; omega
  have HR := Lib.hid h; clear h
  have H2 := Lib.hid h2
  have hcuts : Hid (0 < len2 → ∃ b off, a2 = some ⟨b, off, none⟩ ∧ b < w.heap.size ∧ ∀ i, i < len2 → w.cell? ⟨b, off + i, none⟩ = some (.int .i64 (cs.getD i 0))) := by
    intro hp
    obtain ⟨b, off, ha, hc⟩ := h2.2.2.2.2.2 hp
    exact ⟨b, off, ha, block_lt_of_cell (hc 0 hp), hc⟩
  have hwf : Hid (∀ i, i < len2 → -9223372036854775808 ≤ cs.getD i 0 ∧ cs.getD i 0 ≤ 9223372036854775807) := fun i hi => wf_i64_in (h2.2.2.2.1 _ (getD_mem (by rw [h2.1]; exact hi)))
  clear h2
  go_enter Try.func7, Try.ntmps7
  go_wp2_with fail
  refine (newFeeder_any w).mono ?_
  rintro e w1 ⟨rfl, hfd1, hb1⟩
  have Hfd1 := Lib.hid hfd1; clear hfd1
  have B1 := Lib.hid hb1
  have s1 : w.heap.size + 1 ≤ w1.heap.size := Hfd1.out.lt
  clear hb1
  go_wp2_with fail
  go_loopw [6, 7, 8] (fun l p i wr => ∃ (k q : Nat) (ls held : List Int), k ≤ len2 ∧ k ≤ 200 ∧ i = .int .i64 k ∧ q ≤ len ∧ p = .int .i64 q ∧ Hid (feedV (xs.take q) = (ls, held)) ∧ ls.length + held.length ≤ q ∧ Hid (FdAt wr w.heap.size held) ∧
      Hid (wr.ownsRow (w.heap.size + 1) 21 1 l ls.length (ls.map (Value.int .i32))) ∧ Below w.heap.size w wr)
    (fun _ _ i _ => 201 - (intOf i).toNat)
  case atStart => exact ⟨0, 0, [], [], by omega, by omega, rfl, by omega, rfl, rfl, by simp, Hfd1, World.ownsRow_nil _ _ _ _, B1.out⟩
  case round =>
    obtain ⟨k, q, ls, held, hk, hk2, rfl, hq, rfl, HF, hle, Hfd, Hown, hbl⟩ := hrel
    clear Hfd1 B1 s1
    have hsz : w.heap.size + 1 ≤ wr.heap.size := Hfd.out.lt
    have hh3 := Hfd.out.short
    have BL := Lib.hid hbl
    by_cases hgo : k < len2 ∧ k < 200
    · obtain ⟨g1, g2⟩ := hgo
      obtain ⟨b, off, rfl, hbb, hc⟩ := hcuts.out (by omega)
      have hcx : wr.cell? ⟨b, off + k, none⟩ = some (.int .i64 (cs.getD k 0)) := (hbl.cell (by exact hbb)).trans (hc k g1)
      have hcb := hwf.out k g1
      obtain ⟨c, hx⟩ : ∃ c, cs.getD k 0 = c := ⟨_, rfl⟩
      rw [hx] at hcx hcb
      clear hc hx
      obtain ⟨t, ht⟩ : ∃ t, c.tmod 7 = t := ⟨_, rfl⟩
      have htb : -6 ≤ t ∧ t ≤ 6 := by
        have h1 := Int.tmod_lt_of_pos c (show (0 : Int) < 7 by decide)
        have h2 := Int.lt_tmod_of_pos c (show (0 : Int) < 7 by decide)
        omega
      go_upto_if 31 with fail
      go_cut [9] (fun n wx => ∃ m : Nat, n = .int .i64 m ∧ m ≤ 6 ∧ wr = wx)
      case first =>
        by_cases t0 : t < 0
        · go_wp2_with fail
          go_meet
          exact ⟨0, rfl, by omega, rfl⟩
        · obtain ⟨m, hm⟩ : ∃ m : Nat, t = m := ⟨t.toNat, by omega⟩
          subst hm
          have t1 : ¬ (m : Int) < 0 := by omega
          go_wp2_with fail
          go_meet
          exact ⟨m, rfl, by omega, rfl⟩
      case rest =>
        obtain ⟨m, rfl, hm6, rfl⟩ := hcut
        clear ht htb
        go_upto_region 12 with fail
        go_cut [9] (fun n wx => ∃ m' : Nat, n = .int .i64 m' ∧ m' + q ≤ len ∧ wr = wx)
        case first =>
          by_cases hmn : (len : Int) - (q : Int) < (m : Int)
          · go_wp2_with fail
            go_meet
            exact ⟨len - q, by rw [show ((len - q : Nat) : Int) = (len : Int) - (q : Int) from by omega], by omega, rfl⟩
          · go_wp2_with fail
            go_meet
            exact ⟨m, rfl, by omega, rfl⟩
        case rest =>
          obtain ⟨m', rfl, hmq, rfl⟩ := hcut
          clear hm6
          have R1 := Lib.hid (((HR.out.drop q hq).take m' (by omega)).below hbl)
          have HF2 := Lib.hid (feed_more (m := m') HF.out)
          obtain ⟨⟨ls2, held2⟩, hq2⟩ : ∃ z, feedV (held ++ (xs.drop q).take m') = z := ⟨_, rfl⟩
          have hlen2 := feedV_len (held ++ (xs.drop q).take m')
          have hwf2 : ∀ x ∈ (feedV (held ++ (xs.drop q).take m')).1, (Lit.int .i32 x).wf = true := by
            refine feed_wf fun x hx => ?_
            rcases List.mem_append.1 hx with hx | hx
            · have h := feedN_held _ (xs.take q) x (by have h2 : (feedN ((xs.take q).length + 1) (xs.take q)).2 = held := congrArg Prod.snd HF.out; rw [h2]; exact hx)
              exact HBY.out x (List.mem_of_mem_take h)
            · exact HBY.out x (List.mem_of_mem_drop (List.mem_of_mem_take hx))
          rw [hq2] at HF2 hlen2 hwf2
          have HWF2 := Lib.hid hwf2; clear hwf2
          have hlen3 : ls2.length + held2.length ≤ held.length + m' := by
            have h1 := R1.out.1
            simp only [List.length_append] at hlen2
            omega
          clear hlen2
          have HQ2 := Lib.hid hq2; clear hq2
          have e1 : (q : Int) ≤ (q : Int) + (m' : Int) := by omega
          have e2 : (q : Int) + (m' : Int) ≤ (cap : Int) := by omega
          have e3 : ((q : Int) + (m' : Int)).toNat = q + m' := by omega
          have hR1 := R1.out
          have R1a : Hid (cap = q → Rd .u8 wr a m' (cap - q) ((xs.drop q).take m')) := by
            intro he
            rw [if_pos he] at hR1
            exact hR1
          have R1b : Hid (¬ cap = q → Rd .u8 wr (Option.map (fun x => x.add q) a) m' (cap - q) ((xs.drop q).take m')) := by
            intro he
            rw [if_neg he, Nat.mul_one] at hR1
            exact hR1
          obtain ⟨piece, hpiece⟩ : ∃ piece, (xs.drop q).take m' = piece := ⟨_, rfl⟩
          rw [hpiece] at R1a R1b HQ2
          clear hpiece hR1 R1
          by_cases hcq : cap = q
          · have RX := Lib.hid (R1a.out hcq)
            have hcq2 : (cap = q) = True := eq_true hcq
            have HCQ := Lib.hid hcq; clear hcq
            go_wp2_with fail
            refine (feed_any w.heap.size held _ m' (cap - q) piece wr Hfd.out RX.out (by omega)).mono ?_
            rintro e w2 ⟨v2, rfl, hown2, hfd2, hg2⟩
            rw [HQ2.out] at hown2 hfd2
            obtain ⟨ap, cp, rfl⟩ := own_slice hown2
            have RP := Lib.hid (Rd.own hown2 HWF2.out)
            have HO2 := Lib.hid (own_grown Hown.out hg2 (by omega))
            have BL2 := Lib.hid (BL.out.grown hg2 (by omega) (fun k hk => by simp only [Option.some.injEq] at hk; omega))
            have hs2 := hg2.size
            have Hfd2 := Lib.hid hfd2; clear hfd2 hown2 hg2
            go_wp2_with (at_builtin; go_must (refine wpList_appRd rfl (.tmp 38) (.tmp 46) 24 rfl (w.heap.size + 1) 21 j0 (.int .i32 0) 4 Try.underlying24 hj hy0 hy1 hy2 rfl _ _ _ rfl HO2.out .i32 _ _ _ ls2 rfl RP.out (by unfold maxLen; omega) (by omega) (by omega) ?_))
            intro v3 w3 ho3 hb3
            have HO3 : Hid (w3.ownsRow (w.heap.size + 1) 21 1 v3 (ls ++ ls2).length ((ls ++ ls2).map (Value.int .i32))) := by
              show World.ownsRow _ _ _ _ _ _ _
              simpa using ho3
            have Hfd3 := Lib.hid (Hfd2.out.below_of hb3 (by omega))
            have BL3 := Lib.hid (BL2.out.trans (hb3.mono (by omega)))
            have hl23 := Hfd3.out.short
            have e4 : ¬ (held2.length : Int) < 0 := by omega
            have e5 : ¬ (3 : Int) < (held2.length : Int) := by omega
            clear ho3 hb3
            go_wp2_with (go_at_call 24; refine (held_any w.heap.size held2 _ Hfd3.out).mono ?_; rintro e w4 ⟨rfl, rfl⟩)
            go_roundw
            case rel => exact ⟨k + 1, q + m', ls ++ ls2, held2, by omega, by omega, by go_num, by omega, by go_num, HF2, by simp; omega, Hfd3, HO3, BL3.out⟩
            case measure => simp [intOf]; omega
          · have RX := Lib.hid (R1b.out hcq)
            go_wp2_with fail
            refine (feed_any w.heap.size held _ m' (cap - q) piece wr Hfd.out RX.out (by omega)).mono ?_
            rintro e w2 ⟨v2, rfl, hown2, hfd2, hg2⟩
            rw [HQ2.out] at hown2 hfd2
            obtain ⟨ap, cp, rfl⟩ := own_slice hown2
            have RP := Lib.hid (Rd.own hown2 HWF2.out)
            have HO2 := Lib.hid (own_grown Hown.out hg2 (by omega))
            have BL2 := Lib.hid (BL.out.grown hg2 (by omega) (fun k hk => by simp only [Option.some.injEq] at hk; omega))
            have hs2 := hg2.size
            have Hfd2 := Lib.hid hfd2; clear hfd2 hown2 hg2
            go_wp2_with (at_builtin; go_must (refine wpList_appRd rfl (.tmp 38) (.tmp 46) 24 rfl (w.heap.size + 1) 21 j0 (.int .i32 0) 4 Try.underlying24 hj hy0 hy1 hy2 rfl _ _ _ rfl HO2.out .i32 _ _ _ ls2 rfl RP.out (by unfold maxLen; omega) (by omega) (by omega) ?_))
            intro v3 w3 ho3 hb3
            have HO3 : Hid (w3.ownsRow (w.heap.size + 1) 21 1 v3 (ls ++ ls2).length ((ls ++ ls2).map (Value.int .i32))) := by
              show World.ownsRow _ _ _ _ _ _ _
              simpa using ho3
            have Hfd3 := Lib.hid (Hfd2.out.below_of hb3 (by omega))
            have BL3 := Lib.hid (BL2.out.trans (hb3.mono (by omega)))
            have hl23 := Hfd3.out.short
            have e4 : ¬ (held2.length : Int) < 0 := by omega
            have e5 : ¬ (3 : Int) < (held2.length : Int) := by omega
            clear ho3 hb3
            go_wp2_with (go_at_call 24; refine (held_any w.heap.size held2 _ Hfd3.out).mono ?_; rintro e w4 ⟨rfl, rfl⟩)
            go_roundw
            case rel => exact ⟨k + 1, q + m', ls ++ ls2, held2, by omega, by omega, by go_num, by omega, by go_num, HF2, by simp; omega, Hfd3, HO3, BL3.out⟩
            case measure => simp [intOf]; omega
    · have R1 := (HR.out.drop q hq).below hbl
      have hFIN := feed_last HF.out
      obtain ⟨⟨ls2, held2⟩, hq2⟩ : ∃ z, feedV (held ++ xs.drop q) = z := ⟨_, rfl⟩
      have hlen2 := feedV_len (held ++ xs.drop q)
      have hwf2 : ∀ x ∈ (feedV (held ++ xs.drop q)).1, (Lit.int .i32 x).wf = true := by
        refine feed_wf fun x hx => ?_
        rcases List.mem_append.1 hx with hx | hx
        · have h := feedN_held _ (xs.take q) x (by have h2 : (feedN ((xs.take q).length + 1) (xs.take q)).2 = held := congrArg Prod.snd HF.out; rw [h2]; exact hx)
          exact HBY.out x (List.mem_of_mem_take h)
        · exact HBY.out x (List.mem_of_mem_drop hx)
      rw [hq2] at hFIN hlen2 hwf2
      have HWF2 := Lib.hid hwf2; clear hwf2
      have HFIN := Lib.hid hFIN; clear hFIN
      have hlen3 : ls2.length + held2.length ≤ held.length + (len - q) := by
        have h1 := R1.1
        simp only [List.length_append] at hlen2
        omega
      clear hlen2
      have HQ2 := Lib.hid hq2; clear hq2
      obtain ⟨piece, hpiece⟩ : ∃ piece, xs.drop q = piece := ⟨_, rfl⟩
      have R1a : Hid (cap = q → Rd .u8 wr a (len - q) (cap - q) piece) := by
        intro he
        rw [if_pos he, hpiece] at R1
        exact R1
      have R1b : Hid (¬ cap = q → Rd .u8 wr (Option.map (fun x => x.add q) a) (len - q) (cap - q) piece) := by
        intro he
        rw [if_neg he, Nat.mul_one, hpiece] at R1
        exact R1
      rw [hpiece] at HQ2
      clear hpiece R1
      by_cases g1 : k < len2
      · have g2 : ¬ k < 200 := fun h => hgo ⟨g1, h⟩
        clear hgo
        by_cases hcq : cap = q
        · have RX := Lib.hid (R1a.out hcq)
          have hcq2 : (cap = q) = True := eq_true hcq
          have HCQ := Lib.hid hcq; clear hcq
          go_wp2_with fail
          refine (feed_any w.heap.size held _ (len - q) (cap - q) piece wr Hfd.out RX.out (by omega)).mono ?_
          rintro e w2 ⟨v2, rfl, hown2, hfd2, hg2⟩
          rw [HQ2.out] at hown2 hfd2
          obtain ⟨ap, cp, rfl⟩ := own_slice hown2
          have RP := Lib.hid (Rd.own hown2 HWF2.out)
          have HO2 := Lib.hid (own_grown Hown.out hg2 (by omega))
          have BL2 := Lib.hid (BL.out.grown hg2 (by omega) (fun k hk => by simp only [Option.some.injEq] at hk; omega))
          have hs2 := hg2.size
          have Hfd2 := Lib.hid hfd2; clear hfd2 hown2 hg2
          go_wp2_with (at_builtin; go_must (refine wpList_appRd rfl (.tmp 59) (.tmp 64) 24 rfl (w.heap.size + 1) 21 j0 (.int .i32 0) 4 Try.underlying24 hj hy0 hy1 hy2 rfl _ _ _ rfl HO2.out .i32 _ _ _ ls2 rfl RP.out (by unfold maxLen; omega) (by omega) (by omega) ?_))
          intro v3 w3 ho3 hb3
          obtain ⟨T, hT⟩ : ∃ T, (ls ++ ls2).length = T := ⟨_, rfl⟩
          have hTb : T + held2.length ≤ 1048576 := by rw [← hT]; simp; omega
          have HO3 : Hid (w3.ownsRow (w.heap.size + 1) 21 1 v3 T ((ls ++ ls2).map (Value.int .i32))) := by
            show World.ownsRow _ _ _ _ _ _ _
            rw [← hT]
            simpa using ho3
          have HT := Lib.hid hT; clear hT
          have Hfd3 := Lib.hid (Hfd2.out.below_of hb3 (by omega))
          have BL3 := Lib.hid (BL2.out.trans (hb3.mono (by omega)))
          have s3 := BL3.out.size
          have s3' : w.heap.size + 1 ≤ w3.heap.size := Hfd3.out.lt
          have hl23 := Hfd3.out.short
          obtain ⟨nh, hnh⟩ : ∃ nh, held2.length = nh := ⟨_, rfl⟩
          rw [hnh] at hl23 hTb
          have HNH := Lib.hid hnh; clear hnh
          have e6 : ((nh : Int) == (nh : Int)) = true := by simp
          have HFL : Hid (Calls Try.prog 25 #[.pointer (some ⟨w.heap.size, 0, none⟩)] w3 fun e w' => ∃ a' c', e = .returned (.slice a' nh c') ∧
              Rd .i32 w' a' nh c' (List.replicate nh 65533) ∧ FdAt w' w.heap.size [] ∧ w3.grownBy w' (some w.heap.size)) := by
            refine (flush_any w.heap.size held2 w3 Hfd3.out).mono ?_
            rintro e w' ⟨v, rfl, hown, hfd, hg⟩
            rw [HNH.out] at hown
            obtain ⟨a', c', rfl⟩ := own_slice hown
            exact ⟨a', c', rfl, Rd.own (k := .i32) (xs := List.replicate nh 65533) (by simpa using hown) (wf_fffd _), hfd, hg⟩
          have HHE : Hid (∀ W : World, FdAt W w.heap.size held2 → Calls Try.prog 24 #[.pointer (some ⟨w.heap.size, 0, none⟩)] W fun e w' => e = .returned (.int .i64 nh) ∧ W = w') := by
            intro W hW
            have h := held_any w.heap.size held2 W hW
            rw [HNH.out] at h
            exact h
          clear ho3 hb3
          go_wp2_with fail
          refine (HHE.out w3 Hfd3.out).mono ?_
          rintro e w4 ⟨rfl, rfl⟩
          go_wp2_with fail
          refine (HFL.out).mono ?_
          rintro e w5 ⟨a5, c5, rfl, hr5, hfd5, hg5⟩
          have HO5 := Lib.hid (own_grown HO3.out hg5 (by omega))
          have BL5 := Lib.hid (BL3.out.grown hg5 (by omega) (fun k hk => by simp only [Option.some.injEq] at hk; omega))
          have R5 := Lib.hid hr5
          have hs5 := hg5.size
          have Hfd5 := Lib.hid hfd5
          clear hr5 hfd5 hg5
          go_wp2_with fail
          refine (held_any w.heap.size [] w5 Hfd5.out).mono ?_
          rintro e w6 ⟨rfl, rfl⟩
          go_wp2_with (at_builtin; go_must (refine wpList_appRd_g (by rfl) (.tmp 80) (.tmp 81) 24 rfl (w.heap.size + 1) 21 j0 (.int .i32 0) 4 Try.underlying24 hj hy0 hy1 hy2 rfl _ _ _ rfl HO5.out .i32 _ _ _ (List.replicate nh 65533) rfl R5.out (by unfold maxLen; omega) (by omega) (by omega) ?_))
          intro v7 w7 ho7 hb7
          obtain ⟨D, hD⟩ : ∃ D, decV xs = D := ⟨_, rfl⟩
          have hDD : ls ++ ls2 ++ List.replicate nh 65533 = D := by rw [← hD]; unfold decV; rw [HFIN.out]; simp [HNH.out]
          have hDl : T + nh = D.length := by rw [← hDD, List.length_append, HT.out]; simp
          have hDW : ∀ x ∈ D, (Lit.int .i32 x).wf = true := by rw [← hD]; exact decV_wf xs HBY.out
          have ho7' : w7.ownsRow (w.heap.size + 1) 21 1 v7 D.length (D.map (Value.int .i32)) := by rw [← hDl, ← hDD]; simpa using ho7
          obtain ⟨a7, c7, rfl⟩ := own_slice ho7'
          have R7 := Lib.hid (Rd.own ho7' hDW)
          have HD := Lib.hid hD
          have HDW := Lib.hid hDW
          have BL7 := Lib.hid (BL5.out.trans (hb7.mono (by omega)))
          have s7 := BL7.out.size
          clear hD hDD hDl hDW ho7 ho7' hb7
          go_wp2_with fail
          refine (refDecode_any a len cap xs w7 (HR.out.below BL7.out) (by omega)).mono ?_
          rintro e w8 ⟨v8, rfl, hown8, hb8⟩
          rw [HD.out] at hown8
          obtain ⟨a8, c8, rfl⟩ := own_slice hown8
          have R8 := Lib.hid (Rd.own hown8 HDW.out)
          have B8 := Lib.hid hb8
          have BL8 := Lib.hid (BL7.out.trans (hb8.mono (B' := w.heap.size) s7))
          have s8 := BL8.out.size
          clear hown8 hb8
          go_wp2_with fail
          refine (runes_same a7 a8 D.length c7 c8 D w8 (R7.out.below B8.out) R8.out).mono ?_
          rintro e w9 ⟨rfl, hb9⟩
          have BL9 := Lib.hid (BL8.out.trans (hb9.mono (B' := w.heap.size) s8))
          clear hb9
          go_wp2_with fail
          refine (awake_any _).mono ?_
          rintro e w10 ⟨rfl, hb10⟩
          go_wp2_with fail
          go_ret
          exact ⟨rfl, BL9.out.trans (hb10.mono (B' := w.heap.size) BL9.out.size)⟩
        · have RX := Lib.hid (R1b.out hcq)
          go_wp2_with fail
          refine (feed_any w.heap.size held _ (len - q) (cap - q) piece wr Hfd.out RX.out (by omega)).mono ?_
          rintro e w2 ⟨v2, rfl, hown2, hfd2, hg2⟩
          rw [HQ2.out] at hown2 hfd2
          obtain ⟨ap, cp, rfl⟩ := own_slice hown2
          have RP := Lib.hid (Rd.own hown2 HWF2.out)
          have HO2 := Lib.hid (own_grown Hown.out hg2 (by omega))
          have BL2 := Lib.hid (BL.out.grown hg2 (by omega) (fun k hk => by simp only [Option.some.injEq] at hk; omega))
          have hs2 := hg2.size
          have Hfd2 := Lib.hid hfd2; clear hfd2 hown2 hg2
          go_wp2_with (at_builtin; go_must (refine wpList_appRd rfl (.tmp 59) (.tmp 64) 24 rfl (w.heap.size + 1) 21 j0 (.int .i32 0) 4 Try.underlying24 hj hy0 hy1 hy2 rfl _ _ _ rfl HO2.out .i32 _ _ _ ls2 rfl RP.out (by unfold maxLen; omega) (by omega) (by omega) ?_))
          intro v3 w3 ho3 hb3
          obtain ⟨T, hT⟩ : ∃ T, (ls ++ ls2).length = T := ⟨_, rfl⟩
          have hTb : T + held2.length ≤ 1048576 := by rw [← hT]; simp; omega
          have HO3 : Hid (w3.ownsRow (w.heap.size + 1) 21 1 v3 T ((ls ++ ls2).map (Value.int .i32))) := by
            show World.ownsRow _ _ _ _ _ _ _
            rw [← hT]
            simpa using ho3
          have HT := Lib.hid hT; clear hT
          have Hfd3 := Lib.hid (Hfd2.out.below_of hb3 (by omega))
          have BL3 := Lib.hid (BL2.out.trans (hb3.mono (by omega)))
          have s3 := BL3.out.size
          have s3' : w.heap.size + 1 ≤ w3.heap.size := Hfd3.out.lt
          have hl23 := Hfd3.out.short
          obtain ⟨nh, hnh⟩ : ∃ nh, held2.length = nh := ⟨_, rfl⟩
          rw [hnh] at hl23 hTb
          have HNH := Lib.hid hnh; clear hnh
          have e6 : ((nh : Int) == (nh : Int)) = true := by simp
          have HFL : Hid (Calls Try.prog 25 #[.pointer (some ⟨w.heap.size, 0, none⟩)] w3 fun e w' => ∃ a' c', e = .returned (.slice a' nh c') ∧
              Rd .i32 w' a' nh c' (List.replicate nh 65533) ∧ FdAt w' w.heap.size [] ∧ w3.grownBy w' (some w.heap.size)) := by
            refine (flush_any w.heap.size held2 w3 Hfd3.out).mono ?_
            rintro e w' ⟨v, rfl, hown, hfd, hg⟩
            rw [HNH.out] at hown
            obtain ⟨a', c', rfl⟩ := own_slice hown
            exact ⟨a', c', rfl, Rd.own (k := .i32) (xs := List.replicate nh 65533) (by simpa using hown) (wf_fffd _), hfd, hg⟩
          have HHE : Hid (∀ W : World, FdAt W w.heap.size held2 → Calls Try.prog 24 #[.pointer (some ⟨w.heap.size, 0, none⟩)] W fun e w' => e = .returned (.int .i64 nh) ∧ W = w') := by
            intro W hW
            have h := held_any w.heap.size held2 W hW
            rw [HNH.out] at h
            exact h
          clear ho3 hb3
          go_wp2_with fail
          refine (HHE.out w3 Hfd3.out).mono ?_
          rintro e w4 ⟨rfl, rfl⟩
          go_wp2_with fail
          refine (HFL.out).mono ?_
          rintro e w5 ⟨a5, c5, rfl, hr5, hfd5, hg5⟩
          have HO5 := Lib.hid (own_grown HO3.out hg5 (by omega))
          have BL5 := Lib.hid (BL3.out.grown hg5 (by omega) (fun k hk => by simp only [Option.some.injEq] at hk; omega))
          have R5 := Lib.hid hr5
          have hs5 := hg5.size
          have Hfd5 := Lib.hid hfd5
          clear hr5 hfd5 hg5
          go_wp2_with fail
          refine (held_any w.heap.size [] w5 Hfd5.out).mono ?_
          rintro e w6 ⟨rfl, rfl⟩
          go_wp2_with (at_builtin; go_must (refine wpList_appRd_g (by rfl) (.tmp 80) (.tmp 81) 24 rfl (w.heap.size + 1) 21 j0 (.int .i32 0) 4 Try.underlying24 hj hy0 hy1 hy2 rfl _ _ _ rfl HO5.out .i32 _ _ _ (List.replicate nh 65533) rfl R5.out (by unfold maxLen; omega) (by omega) (by omega) ?_))
          intro v7 w7 ho7 hb7
          obtain ⟨D, hD⟩ : ∃ D, decV xs = D := ⟨_, rfl⟩
          have hDD : ls ++ ls2 ++ List.replicate nh 65533 = D := by rw [← hD]; unfold decV; rw [HFIN.out]; simp [HNH.out]
          have hDl : T + nh = D.length := by rw [← hDD, List.length_append, HT.out]; simp
          have hDW : ∀ x ∈ D, (Lit.int .i32 x).wf = true := by rw [← hD]; exact decV_wf xs HBY.out
          have ho7' : w7.ownsRow (w.heap.size + 1) 21 1 v7 D.length (D.map (Value.int .i32)) := by rw [← hDl, ← hDD]; simpa using ho7
          obtain ⟨a7, c7, rfl⟩ := own_slice ho7'
          have R7 := Lib.hid (Rd.own ho7' hDW)
          have HD := Lib.hid hD
          have HDW := Lib.hid hDW
          have BL7 := Lib.hid (BL5.out.trans (hb7.mono (by omega)))
          have s7 := BL7.out.size
          clear hD hDD hDl hDW ho7 ho7' hb7
          go_wp2_with fail
          refine (refDecode_any a len cap xs w7 (HR.out.below BL7.out) (by omega)).mono ?_
          rintro e w8 ⟨v8, rfl, hown8, hb8⟩
          rw [HD.out] at hown8
          obtain ⟨a8, c8, rfl⟩ := own_slice hown8
          have R8 := Lib.hid (Rd.own hown8 HDW.out)
          have B8 := Lib.hid hb8
          have BL8 := Lib.hid (BL7.out.trans (hb8.mono (B' := w.heap.size) s7))
          have s8 := BL8.out.size
          clear hown8 hb8
          go_wp2_with fail
          refine (runes_same a7 a8 D.length c7 c8 D w8 (R7.out.below B8.out) R8.out).mono ?_
          rintro e w9 ⟨rfl, hb9⟩
          have BL9 := Lib.hid (BL8.out.trans (hb9.mono (B' := w.heap.size) s8))
          clear hb9
          go_wp2_with fail
          refine (awake_any _).mono ?_
          rintro e w10 ⟨rfl, hb10⟩
          go_wp2_with fail
          go_ret
          exact ⟨rfl, BL9.out.trans (hb10.mono (B' := w.heap.size) BL9.out.size)⟩
      · clear hgo
        by_cases hcq : cap = q
        · have RX := Lib.hid (R1a.out hcq)
          have hcq2 : (cap = q) = True := eq_true hcq
          have HCQ := Lib.hid hcq; clear hcq
          go_wp2_with fail
          refine (feed_any w.heap.size held _ (len - q) (cap - q) piece wr Hfd.out RX.out (by omega)).mono ?_
          rintro e w2 ⟨v2, rfl, hown2, hfd2, hg2⟩
          rw [HQ2.out] at hown2 hfd2
          obtain ⟨ap, cp, rfl⟩ := own_slice hown2
          have RP := Lib.hid (Rd.own hown2 HWF2.out)
          have HO2 := Lib.hid (own_grown Hown.out hg2 (by omega))
          have BL2 := Lib.hid (BL.out.grown hg2 (by omega) (fun k hk => by simp only [Option.some.injEq] at hk; omega))
          have hs2 := hg2.size
          have Hfd2 := Lib.hid hfd2; clear hfd2 hown2 hg2
          go_wp2_with (at_builtin; go_must (refine wpList_appRd rfl (.tmp 59) (.tmp 64) 24 rfl (w.heap.size + 1) 21 j0 (.int .i32 0) 4 Try.underlying24 hj hy0 hy1 hy2 rfl _ _ _ rfl HO2.out .i32 _ _ _ ls2 rfl RP.out (by unfold maxLen; omega) (by omega) (by omega) ?_))
          intro v3 w3 ho3 hb3
          obtain ⟨T, hT⟩ : ∃ T, (ls ++ ls2).length = T := ⟨_, rfl⟩
          have hTb : T + held2.length ≤ 1048576 := by rw [← hT]; simp; omega
          have HO3 : Hid (w3.ownsRow (w.heap.size + 1) 21 1 v3 T ((ls ++ ls2).map (Value.int .i32))) := by
            show World.ownsRow _ _ _ _ _ _ _
            rw [← hT]
            simpa using ho3
          have HT := Lib.hid hT; clear hT
          have Hfd3 := Lib.hid (Hfd2.out.below_of hb3 (by omega))
          have BL3 := Lib.hid (BL2.out.trans (hb3.mono (by omega)))
          have s3 := BL3.out.size
          have s3' : w.heap.size + 1 ≤ w3.heap.size := Hfd3.out.lt
          have hl23 := Hfd3.out.short
          obtain ⟨nh, hnh⟩ : ∃ nh, held2.length = nh := ⟨_, rfl⟩
          rw [hnh] at hl23 hTb
          have HNH := Lib.hid hnh; clear hnh
          have e6 : ((nh : Int) == (nh : Int)) = true := by simp
          have HFL : Hid (Calls Try.prog 25 #[.pointer (some ⟨w.heap.size, 0, none⟩)] w3 fun e w' => ∃ a' c', e = .returned (.slice a' nh c') ∧
              Rd .i32 w' a' nh c' (List.replicate nh 65533) ∧ FdAt w' w.heap.size [] ∧ w3.grownBy w' (some w.heap.size)) := by
            refine (flush_any w.heap.size held2 w3 Hfd3.out).mono ?_
            rintro e w' ⟨v, rfl, hown, hfd, hg⟩
            rw [HNH.out] at hown
            obtain ⟨a', c', rfl⟩ := own_slice hown
            exact ⟨a', c', rfl, Rd.own (k := .i32) (xs := List.replicate nh 65533) (by simpa using hown) (wf_fffd _), hfd, hg⟩
          have HHE : Hid (∀ W : World, FdAt W w.heap.size held2 → Calls Try.prog 24 #[.pointer (some ⟨w.heap.size, 0, none⟩)] W fun e w' => e = .returned (.int .i64 nh) ∧ W = w') := by
            intro W hW
            have h := held_any w.heap.size held2 W hW
            rw [HNH.out] at h
            exact h
          clear ho3 hb3
          go_wp2_with fail
          refine (HHE.out w3 Hfd3.out).mono ?_
          rintro e w4 ⟨rfl, rfl⟩
          go_wp2_with fail
          refine (HFL.out).mono ?_
          rintro e w5 ⟨a5, c5, rfl, hr5, hfd5, hg5⟩
          have HO5 := Lib.hid (own_grown HO3.out hg5 (by omega))
          have BL5 := Lib.hid (BL3.out.grown hg5 (by omega) (fun k hk => by simp only [Option.some.injEq] at hk; omega))
          have R5 := Lib.hid hr5
          have hs5 := hg5.size
          have Hfd5 := Lib.hid hfd5
          clear hr5 hfd5 hg5
          go_wp2_with fail
          refine (held_any w.heap.size [] w5 Hfd5.out).mono ?_
          rintro e w6 ⟨rfl, rfl⟩
          go_wp2_with (at_builtin; go_must (refine wpList_appRd_g (by rfl) (.tmp 80) (.tmp 81) 24 rfl (w.heap.size + 1) 21 j0 (.int .i32 0) 4 Try.underlying24 hj hy0 hy1 hy2 rfl _ _ _ rfl HO5.out .i32 _ _ _ (List.replicate nh 65533) rfl R5.out (by unfold maxLen; omega) (by omega) (by omega) ?_))
          intro v7 w7 ho7 hb7
          obtain ⟨D, hD⟩ : ∃ D, decV xs = D := ⟨_, rfl⟩
          have hDD : ls ++ ls2 ++ List.replicate nh 65533 = D := by rw [← hD]; unfold decV; rw [HFIN.out]; simp [HNH.out]
          have hDl : T + nh = D.length := by rw [← hDD, List.length_append, HT.out]; simp
          have hDW : ∀ x ∈ D, (Lit.int .i32 x).wf = true := by rw [← hD]; exact decV_wf xs HBY.out
          have ho7' : w7.ownsRow (w.heap.size + 1) 21 1 v7 D.length (D.map (Value.int .i32)) := by rw [← hDl, ← hDD]; simpa using ho7
          obtain ⟨a7, c7, rfl⟩ := own_slice ho7'
          have R7 := Lib.hid (Rd.own ho7' hDW)
          have HD := Lib.hid hD
          have HDW := Lib.hid hDW
          have BL7 := Lib.hid (BL5.out.trans (hb7.mono (by omega)))
          have s7 := BL7.out.size
          clear hD hDD hDl hDW ho7 ho7' hb7
          go_wp2_with fail
          refine (refDecode_any a len cap xs w7 (HR.out.below BL7.out) (by omega)).mono ?_
          rintro e w8 ⟨v8, rfl, hown8, hb8⟩
          rw [HD.out] at hown8
          obtain ⟨a8, c8, rfl⟩ := own_slice hown8
          have R8 := Lib.hid (Rd.own hown8 HDW.out)
          have B8 := Lib.hid hb8
          have BL8 := Lib.hid (BL7.out.trans (hb8.mono (B' := w.heap.size) s7))
          have s8 := BL8.out.size
          clear hown8 hb8
          go_wp2_with fail
          refine (runes_same a7 a8 D.length c7 c8 D w8 (R7.out.below B8.out) R8.out).mono ?_
          rintro e w9 ⟨rfl, hb9⟩
          have BL9 := Lib.hid (BL8.out.trans (hb9.mono (B' := w.heap.size) s8))
          clear hb9
          go_wp2_with fail
          refine (awake_any _).mono ?_
          rintro e w10 ⟨rfl, hb10⟩
          go_wp2_with fail
          go_ret
          exact ⟨rfl, BL9.out.trans (hb10.mono (B' := w.heap.size) BL9.out.size)⟩
        · have RX := Lib.hid (R1b.out hcq)
          go_wp2_with fail
          refine (feed_any w.heap.size held _ (len - q) (cap - q) piece wr Hfd.out RX.out (by omega)).mono ?_
          rintro e w2 ⟨v2, rfl, hown2, hfd2, hg2⟩
          rw [HQ2.out] at hown2 hfd2
          obtain ⟨ap, cp, rfl⟩ := own_slice hown2
          have RP := Lib.hid (Rd.own hown2 HWF2.out)
          have HO2 := Lib.hid (own_grown Hown.out hg2 (by omega))
          have BL2 := Lib.hid (BL.out.grown hg2 (by omega) (fun k hk => by simp only [Option.some.injEq] at hk; omega))
          have hs2 := hg2.size
          have Hfd2 := Lib.hid hfd2; clear hfd2 hown2 hg2
          go_wp2_with (at_builtin; go_must (refine wpList_appRd rfl (.tmp 59) (.tmp 64) 24 rfl (w.heap.size + 1) 21 j0 (.int .i32 0) 4 Try.underlying24 hj hy0 hy1 hy2 rfl _ _ _ rfl HO2.out .i32 _ _ _ ls2 rfl RP.out (by unfold maxLen; omega) (by omega) (by omega) ?_))
          intro v3 w3 ho3 hb3
          obtain ⟨T, hT⟩ : ∃ T, (ls ++ ls2).length = T := ⟨_, rfl⟩
          have hTb : T + held2.length ≤ 1048576 := by rw [← hT]; simp; omega
          have HO3 : Hid (w3.ownsRow (w.heap.size + 1) 21 1 v3 T ((ls ++ ls2).map (Value.int .i32))) := by
            show World.ownsRow _ _ _ _ _ _ _
            rw [← hT]
            simpa using ho3
          have HT := Lib.hid hT; clear hT
          have Hfd3 := Lib.hid (Hfd2.out.below_of hb3 (by omega))
          have BL3 := Lib.hid (BL2.out.trans (hb3.mono (by omega)))
          have s3 := BL3.out.size
          have s3' : w.heap.size + 1 ≤ w3.heap.size := Hfd3.out.lt
          have hl23 := Hfd3.out.short
          obtain ⟨nh, hnh⟩ : ∃ nh, held2.length = nh := ⟨_, rfl⟩
          rw [hnh] at hl23 hTb
          have HNH := Lib.hid hnh; clear hnh
          have e6 : ((nh : Int) == (nh : Int)) = true := by simp
          have HFL : Hid (Calls Try.prog 25 #[.pointer (some ⟨w.heap.size, 0, none⟩)] w3 fun e w' => ∃ a' c', e = .returned (.slice a' nh c') ∧
              Rd .i32 w' a' nh c' (List.replicate nh 65533) ∧ FdAt w' w.heap.size [] ∧ w3.grownBy w' (some w.heap.size)) := by
            refine (flush_any w.heap.size held2 w3 Hfd3.out).mono ?_
            rintro e w' ⟨v, rfl, hown, hfd, hg⟩
            rw [HNH.out] at hown
            obtain ⟨a', c', rfl⟩ := own_slice hown
            exact ⟨a', c', rfl, Rd.own (k := .i32) (xs := List.replicate nh 65533) (by simpa using hown) (wf_fffd _), hfd, hg⟩
          have HHE : Hid (∀ W : World, FdAt W w.heap.size held2 → Calls Try.prog 24 #[.pointer (some ⟨w.heap.size, 0, none⟩)] W fun e w' => e = .returned (.int .i64 nh) ∧ W = w') := by
            intro W hW
            have h := held_any w.heap.size held2 W hW
            rw [HNH.out] at h
            exact h
          clear ho3 hb3
          go_wp2_with fail
          refine (HHE.out w3 Hfd3.out).mono ?_
          rintro e w4 ⟨rfl, rfl⟩
          go_wp2_with fail
          refine (HFL.out).mono ?_
          rintro e w5 ⟨a5, c5, rfl, hr5, hfd5, hg5⟩
          have HO5 := Lib.hid (own_grown HO3.out hg5 (by omega))
          have BL5 := Lib.hid (BL3.out.grown hg5 (by omega) (fun k hk => by simp only [Option.some.injEq] at hk; omega))
          have R5 := Lib.hid hr5
          have hs5 := hg5.size
          have Hfd5 := Lib.hid hfd5
          clear hr5 hfd5 hg5
          go_wp2_with fail
          refine (held_any w.heap.size [] w5 Hfd5.out).mono ?_
          rintro e w6 ⟨rfl, rfl⟩
          go_wp2_with (at_builtin; go_must (refine wpList_appRd_g (by rfl) (.tmp 80) (.tmp 81) 24 rfl (w.heap.size + 1) 21 j0 (.int .i32 0) 4 Try.underlying24 hj hy0 hy1 hy2 rfl _ _ _ rfl HO5.out .i32 _ _ _ (List.replicate nh 65533) rfl R5.out (by unfold maxLen; omega) (by omega) (by omega) ?_))
          intro v7 w7 ho7 hb7
          obtain ⟨D, hD⟩ : ∃ D, decV xs = D := ⟨_, rfl⟩
          have hDD : ls ++ ls2 ++ List.replicate nh 65533 = D := by rw [← hD]; unfold decV; rw [HFIN.out]; simp [HNH.out]
          have hDl : T + nh = D.length := by rw [← hDD, List.length_append, HT.out]; simp
          have hDW : ∀ x ∈ D, (Lit.int .i32 x).wf = true := by rw [← hD]; exact decV_wf xs HBY.out
          have ho7' : w7.ownsRow (w.heap.size + 1) 21 1 v7 D.length (D.map (Value.int .i32)) := by rw [← hDl, ← hDD]; simpa using ho7
          obtain ⟨a7, c7, rfl⟩ := own_slice ho7'
          have R7 := Lib.hid (Rd.own ho7' hDW)
          have HD := Lib.hid hD
          have HDW := Lib.hid hDW
          have BL7 := Lib.hid (BL5.out.trans (hb7.mono (by omega)))
          have s7 := BL7.out.size
          clear hD hDD hDl hDW ho7 ho7' hb7
          go_wp2_with fail
          refine (refDecode_any a len cap xs w7 (HR.out.below BL7.out) (by omega)).mono ?_
          rintro e w8 ⟨v8, rfl, hown8, hb8⟩
          rw [HD.out] at hown8
          obtain ⟨a8, c8, rfl⟩ := own_slice hown8
          have R8 := Lib.hid (Rd.own hown8 HDW.out)
          have B8 := Lib.hid hb8
          have BL8 := Lib.hid (BL7.out.trans (hb8.mono (B' := w.heap.size) s7))
          have s8 := BL8.out.size
          clear hown8 hb8
          go_wp2_with fail
          refine (runes_same a7 a8 D.length c7 c8 D w8 (R7.out.below B8.out) R8.out).mono ?_
          rintro e w9 ⟨rfl, hb9⟩
          have BL9 := Lib.hid (BL8.out.trans (hb9.mono (B' := w.heap.size) s8))
          clear hb9
          go_wp2_with fail
          refine (awake_any _).mono ?_
          rintro e w10 ⟨rfl, hb10⟩
          go_wp2_with fail
          go_ret
          exact ⟨rfl, BL9.out.trans (hb10.mono (B' := w.heap.size) BL9.out.size)⟩
end Go.Proofs.Ytcjngpgicegacaa.U
