/-
  Feed, Decode, and the walks of UtfBack and UtfEncodes, of rows within the reach.
-/
import Derived.Test.YtcjngpgicegacaaULaws2
import Derived.Test.YtcjngpgicegacaaULaws5
import Derived.BigQuiet
import Derived.Deep.DeepCutAuto
import Derived.Deep.LoopGhost
import Derived.Deep.QuietTactic
import Derived.Deep.RegionHeld3
import Derived.Deep.RegionWith
namespace Go.Proofs.Ytcjngpgicegacaa.U
open Go.RowKit
set_option linter.unusedVariables false
set_option linter.unusedSimpArgs false

set_option maxHeartbeats 1000000 in
theorem feed_wide (bf : Nat) (held : List Int) (a : Option Addr) (len cap : Nat) (xs : List Int) (w : World) (hf : FdAt w bf held) (hr : Rd .u8 w a len cap xs) (hbig : held.length + len ≤ 140737488355328) (hrun : (feedV (held ++ xs)).1.length ≤ 35184372088832) :
    Calls Try.prog 23 #[.pointer (some ⟨bf, 0, none⟩), .slice a len cap] w fun e w' => ∃ v, e = .returned v ∧
      w'.ownsRow w.heap.size 21 1 v (feedV (held ++ xs)).1.length ((feedV (held ++ xs)).1.map (Value.int .i32)) ∧ FdAt w' bf (feedV (held ++ xs)).2 ∧ w.grownBy w' (some bf) := by
  obtain ⟨i0, hi, hz0, hz1, hz2⟩ := info_parts infoR
  have hlt := hf.lt
  have HF := Lib.hid hf
  obtain ⟨h0, h1, h2, hh, hx, hl, b0, b1, b2⟩ := hf
  obtain ⟨n, hn⟩ : ∃ n, held.length = n := ⟨_, rfl⟩
  rw [hn] at hh hl hx hbig
  have c3 : w.cell? ⟨bf, 3, none⟩ = some (.int .i64 n) := by rw [cell_of_row w bf 3 _ _ _ hh]; rfl
  have HH := Lib.hid hh; clear hh
  have HX := Lib.hid hx; clear hx
  have HN := Lib.hid hn; clear hn
  have HR := Lib.hid hr; clear hr
  go_enter Try.func23, Try.ntmps23
  go_upto_if 15 with fail
  go_cut [1] (fun s1 wx => ∃ a1 n1 c1, s1 = .slice a1 n1 c1 ∧ Rd .u8 wx a1 n1 c1 (held ++ xs) ∧ Below w.heap.size w wx)
  case first =>
    by_cases hn0 : n = 0
    · subst hn0
      go_wp2_with fail
      go_meet
      refine ⟨a, len, cap, rfl, ?_, Below.refl _ _⟩
      have : held = [] := List.eq_nil_of_length_eq_zero HN.out
      rw [this]; exact HR.out
    · have hp : (0 : Int) < n := by omega
      have hn3 : (n : Int) ≤ 3 := by omega
      have hRd : Hid (∀ W, Below w.heap.size w W → Rd .u8 W (some ⟨bf, 0, none⟩) n 3 held ∧ Rd .u8 W a len cap xs) := by
        intro W hW
        refine ⟨⟨HN.out, by omega, by unfold maxLen; omega, ?_, (fun h => by cases h), fun _ => ⟨bf, 0, rfl, fun i hi => ?_⟩⟩, HR.out.below hW⟩
        · intro x hx
          rw [HX.out] at hx
          have := List.mem_of_mem_take hx
          simp only [List.mem_cons, List.not_mem_nil, or_false] at this
          rcases this with rfl | rfl | rfl <;> simp [Lit.wf, IntKind.min, IntKind.max, IntKind.signed, IntKind.bits] <;> omega
        · rw [hW.cell (p := ⟨bf, 0 + i, none⟩) hlt, cell_of_row w bf _ _ _ _ HH.out, HX.out, List.getD_eq_getElem?_getD, List.getElem?_take, if_pos hi]
          have hi3 : i < 3 := by omega
          match i, hi3 with
          | 0, _ => rfl
          | 1, _ => rfl
          | 2, _ => rfl
      go_wp2_with fail
      go_region_with (go_at_call 31; go_must (refine (concat_2 w.heap.size (some ⟨bf, 0, none⟩) a n 3 len cap held xs _ (by simp) (by simp) (hRd.out _ (by repeat (first | exact Below.refl _ _ | apply Below.drew | refine Below.alloc ?_ (by simp) _))).1 (hRd.out _ (by repeat (first | exact Below.refl _ _ | apply Below.drew | refine Below.alloc ?_ (by simp) _))).2 (by omega)).mono ?_); rintro e w1 ⟨v, rfl, hown, hb⟩)
      go_wp2_with fail
      go_meet
      obtain ⟨a1, c1, hv⟩ := own_slice hown
      have hrd := Rd.own (k := .u8) (xs := held ++ xs) (hv ▸ hown) (fun x hx => by
        rcases List.mem_append.1 hx with hx | hx
        · exact (hRd.out w (Below.refl _ _)).1.2.2.2.1 x hx
        · exact HR.out.2.2.2.1 x hx)
      exact ⟨a1, _, c1, hv, hrd, ((Below.refl _ w).alloc (Nat.le_refl _) _).drew.trans (hb.mono (B' := w.heap.size) (by simp))⟩
  case rest =>
    obtain ⟨a1, n1, c1, rfl, hrd, hb1⟩ := hcut
    have HB1 := Lib.hid hb1
    have hB1 := hb1.size
    obtain ⟨all, hall⟩ : ∃ all, held ++ xs = all := ⟨_, rfl⟩
    rw [hall] at hrd
    have hal : all.length = n1 := hrd.1
    have hbig1 : n1 ≤ 140737488355328 := by rw [← hal, ← hall, List.length_append, HN.out, HR.out.1]; exact hbig
    rw [hall] at hrun
    obtain ⟨RS, hRS⟩ : ∃ RS, feedV all = RS := ⟨_, rfl⟩
    rw [hRS] at hrun
    have HRS := Lib.hid hRS; clear hRS
    have HRD := Lib.hid hrd; clear hrd
    have HALL := Lib.hid hall; clear hall hal
    obtain ⟨w1, hw1⟩ : ∃ w1, w1 = wc := ⟨_, rfl⟩
    subst hw1
    have HS : Hid (Rd .u8 w1 a1 n1 c1 all) := HRD.out
    go_wp2_with fail
    go_loopw [1, 5] (fun b l wr => ∃ a2 n2 c2 rest ls, b = .slice a2 n2 c2 ∧ Rd .u8 w1 a2 n2 c2 rest ∧ Hid (RS = (ls ++ (feedV rest).1, (feedV rest).2)) ∧ ls.length + n2 ≤ n1 ∧ Hid (wr.ownsRow w1.heap.size 21 1 l ls.length (ls.map (Value.int .i32))) ∧ Below w1.heap.size w1 wr)
      (fun b _ _ => lenOf b)
    case atStart => exact ⟨a1, n1, c1, all, [], rfl, HRD.out, (by show RS = _; rw [HRS.out, List.nil_append]), by simp, World.ownsRow_nil _ _ _ _, Below.refl _ _⟩
    case round =>
      obtain ⟨a2, n2, c2, rest, ls, rfl, hrd2, HL, hle, hown, hbl⟩ := hrel
      have hrdw := Lib.hid (hrd2.below hbl)
      have hsm := hrd2.small
      have hn2 := Lib.hid hrd2.1
      have HRD2 := Lib.hid hrd2; clear hrd2
      have hszr := hbl.size
      obtain ⟨⟨r, nn, more⟩, hnx⟩ : ∃ q, nextV rest = q := ⟨_, rfl⟩
      have hout := nextV_out hnx
      have HNX := Lib.hid hnx
      cases more with
      | true =>
        have hr3 : n2 ≤ 3 := by have := hn2.out; have := (hout.1 rfl).1; omega
        obtain ⟨_, rfl, rfl⟩ := hout.1 rfl
        have hfe := feedV_more hnx
        rw [hfe] at HL
        have HFE := Lib.hid hfe
        clear hnx hfe hout
        go_wp2_with (first
          | (go_at_call 20; refine (next_any a2 n2 c2 rest 0 0 true _ hrdw.out HNX).mono ?_; rintro e w2 ⟨rfl, hb2⟩; have hb02 := Lib.hid (HB1.out.trans ((hbl.mono (B' := w.heap.size) hB1).trans (hb2.mono (B' := w.heap.size) (by omega)))); have HH2 := Lib.hid ((hb02.out.block bf hlt).trans HH.out); have c32 : w2.cell? ⟨bf, 3, none⟩ = some (.int .i64 n) := (by rw [cell_of_row w2 bf 3 _ _ _ HH2.out]; rfl); have hrdw2 := Lib.hid (hrdw.out.below hb2); have hown2 := Lib.hid (own_below hown.out hb2 hszr))
          | (with_reducible refine wpList_copy_into rfl (.tmp 38) (.tmp 39) 22 22 rfl 5 Try.underlying22 sizeB _ _ _ _ _ _ rfl rfl bf 0 [.int .u8 h0, .int .u8 h1, .int .u8 h2, .int .i64 n] 45 HH2.out (rest.map (Value.int .u8)) ?e1 ?e2 ?e3 ?e4 ?_))
        case e1 => rw [List.length_map, hn2.out]; exact (Nat.min_eq_left hr3).symm
        case e2 =>
          intro hp
          obtain ⟨ad, h1, h2⟩ := Rd_cells hrdw2.out (by have := hn2.out; omega)
          exact ⟨ad, h1, fun j x hx => h2 j _ (by simpa using hx)⟩
        case e3 => have := hn2.out; simp; omega
        case e4 => intro v hv; simp only [List.mem_map] at hv; obtain ⟨x, _, rfl⟩ := hv; rfl
        intro w5 hg5 hgb5
        obtain ⟨g0, g1, g2, hsp, htk, m0, m1, m2⟩ := fd_splice h0 h1 h2 n rest (by have := hn2.out; omega)
        have HG5 : Hid (w5.heap[bf]? = some (.cells #[.int .u8 g0, .int .u8 g1, .int .u8 g2, .int .i64 n] 45 (0, 0))) := by
          have h := hg5.out
          rw [hsp] at h
          exact h
        have c35 : w5.cell? ⟨bf, 3, none⟩ = some (.int .i64 n) := by rw [cell_of_row w5 bf 3 _ _ _ HG5.out]; rfl
        have f35 : w5.frozen? ⟨bf, 3, none⟩ = false := frozen_of_row w5 bf 3 _ _ HG5.out
        have hby : ∀ x ∈ rest, 0 ≤ x ∧ x ≤ 255 := fun x hx => wf_u8_in (HRD2.out.2.2.2.1 x hx)
        have Q0 : Hid ((0 ≤ g0 ∧ g0 ≤ 255) ∧ (0 ≤ g1 ∧ g1 ≤ 255) ∧ (0 ≤ g2 ∧ g2 ≤ 255)) :=
          ⟨by rcases m0 with rfl | h; exact b0; exact hby _ h, by rcases m1 with rfl | h; exact b1; exact hby _ h, by rcases m2 with rfl | h; exact b2; exact hby _ h⟩
        have HTK := Lib.hid htk
        have Hhown5 := Lib.hid (own_mono (B' := w.heap.size) (own_grown hown2.out hgb5 (by omega)) hB1)
        have HGB := Lib.hid (gb_trans (gb_below hb02.out (some bf)) hgb5)
        clear hsp htk m0 m1 m2 hby hg5 hgb5 c32
        go_wp2
        go_ret
        have hfin : feedV (held ++ xs) = (ls, rest) := by rw [HALL.out, HRS.out, HL.out, List.append_nil]
        rw [hfin]
        refine ⟨_, rfl, ownsRow_setCell_below Hhown5.out hlt _, ⟨g0, g1, g2, ?_, HTK.out, by have := hn2.out; show rest.length ≤ 3; omega, Q0.out.1, Q0.out.2.1, Q0.out.2.2⟩, gb_set HGB.out _ _⟩
        rw [heap_setCell_same w5 bf 3 _ _ _ HG5.out]; rfl
      | false =>
        obtain ⟨h1n, h2n, h4n⟩ := hout.2 rfl
        obtain ⟨m, rfl⟩ : ∃ m : Nat, nn = m := ⟨nn.toNat, by omega⟩
        have hfe := feedV_step hnx
        rw [hfe, show ((m : Int)).toNat = m from by simp] at HL
        have hm2 : m ≤ n2 := by have := hn2.out; omega
        have hls : ls.length + 1 ≤ 35184372088832 := by
          have h9 := congrArg (fun q : List Int × List Int => q.1.length) HL.out
          simp only [List.length_append, List.length_cons] at h9
          omega
        clear hnx hfe hout
        go_wp2_with (first
          | (go_at_call 20; refine (next_any a2 n2 c2 rest r m false _ hrdw.out HNX).mono ?_; rintro e w2 ⟨rfl, hb2⟩)
          | (at_builtin; go_must (refine wpList_appNew rfl _ _ 24 rfl w1.heap.size 21 i0 (.int .i32 0) 4 Try.underlying24 hi hz0 hz1 hz2 rfl _ _ _ rfl (own_below hown.out hb2 hszr) _ _ 1 rfl rfl ?d1 ?d2 ?d3 ?d4 ?_)))
        case d1 => simp [Value.oneCell']
        case d2 => unfold maxLen; omega
        case d3 => omega
        case d4 => have := hb2.size; omega
        intro v3 w3 ho3 hb3
        go_wp2_with fail
        go_roundw
        case rel => exact ⟨_, _, _, rest.drop m, ls ++ [r], rfl, (by simpa using HRD2.out.drop m hm2), (by show RS = _; rw [HL.out, List.append_assoc]; rfl), (by simp; omega), (by show World.ownsRow _ _ _ _ _ _ _; simpa using ho3), hbl.trans ((hb2.mono hszr).trans hb3)⟩
        case measure => simp only [lenOf]; omega

set_option maxHeartbeats 1000000 in
theorem decode_wide (a : Option Addr) (len cap : Nat) (xs : List Int) (w : World) (hr : Rd .u8 w a len cap xs) (hbig : len ≤ 140737488355328) (hrun : (decV xs).length ≤ 35184372088832) :
    Calls Try.prog 11 #[.slice a len cap] w fun e w' => ∃ v, e = .returned v ∧
      w'.ownsRow w.heap.size 21 1 v (decV xs).length ((decV xs).map (Value.int .i32)) ∧ Below w.heap.size w w' := by
  obtain ⟨i0, hi, hz0, hz1, hz2⟩ := info_parts infoR
  have HR := Lib.hid hr; clear hr
  have hfl := Lib.hid (feedV_len xs)
  have hD : Hid (decV xs = (feedV xs).1 ++ List.replicate (feedV xs).2.length 65533) := rfl
  rw [hD.out, List.length_append, List.length_replicate] at hrun
  obtain ⟨⟨l, h⟩, hq⟩ : ∃ q, feedV xs = q := ⟨_, rfl⟩
  rw [hq] at hD hfl hrun
  simp only at hrun
  have HQ := Lib.hid hq; clear hq
  have HF : Hid (∀ c : Obj, c = .cells #[.int .u8 0, .int .u8 0, .int .u8 0, .int .i64 0] 45 → FdAt (w.alloc c) w.heap.size []) := by
    intro c hc; subst hc
    exact ⟨0, 0, 0, heap_alloc_new w _, rfl, by simp, by omega, by omega, by omega⟩
  go_enter Try.func11, Try.ntmps11
  go_wp2_with fail
  refine (feed_wide w.heap.size [] a len cap xs _ (HF.out _ rfl) (HR.out.alloc _) (by simp; omega) (by rw [List.nil_append, HQ.out]; simp only; omega)).mono ?_
  rintro e w1 ⟨v1, rfl, hown1, hfd1, hg1⟩
  rw [List.nil_append, HQ.out] at hown1 hfd1
  have hs1 := hg1.size
  have Hown1 := Lib.hid hown1; clear hown1
  have Hfd1 := Lib.hid hfd1; clear hfd1
  go_wp2_with (first
    | (go_at_call 25; refine (flush_any w.heap.size h _ Hfd1.out).mono ?_; rintro e w2 ⟨v2, rfl, hown2, hfd2, hg2⟩; have Hown2 := Lib.hid hown2; clear hown2; have hs2 := hg2.size; obtain ⟨a2, c2, hv2⟩ := own_slice Hown2.out; subst hv2)
    | (at_builtin; go_must (refine wpList_appRd rfl _ _ 24 rfl w.heap.size 21 i0 (.int .i32 0) 4 Try.underlying24 hi hz0 hz1 hz2 rfl _ _ _ rfl (own_mono (own_grown Hown1.out hg2 (by simp)) (by simp)) .i32 _ _ _ (List.replicate h.length 65533) rfl (Rd.own (by simpa using Hown2.out) (wf_fffd _)) ?d1 ?d2 ?d3 ?_)))
  case d1 => unfold maxLen; omega
  case d2 => omega
  case d3 => simp at hs1; omega
  intro v3 w3 ho3 hb3
  go_wp2
  go_ret
  refine ⟨v3, rfl, by rw [hD.out]; simpa using ho3, ?_⟩
  have hb0 := (Below.refl w.heap.size w).alloc (Nat.le_refl _) (.cells #[.int .u8 0, .int .u8 0, .int .u8 0, .int .i64 0] 45)
  have hb1 := hb0.grown hg1 (by simp) (fun k hk => by simp only [Option.some.injEq] at hk; omega)
  have hb2 := hb1.grown hg2 (by simp at hs1; omega) (fun k hk => by simp only [Option.some.injEq] at hk; omega)
  exact hb2.trans hb3


set_option maxHeartbeats 1000000 in
theorem utfBack_wide (a1 : Option Addr) (len1 cap1 : Nat) (xs : List Int) (w : World) (h1 : Rd .i32 w a1 len1 cap1 xs) (b1 : len1 * 4 ≤ 140737488351232) :
    Calls Try.prog 6 #[.slice a1 len1 cap1] w fun e w' => e = .returned (.bool true) ∧ Below w.heap.size w w' := by
  have hl1 := Lib.hid h1.1
  have hi32 := Lib.hid h1.i32
  have H1 := Lib.hid h1; clear h1
  go_enter Try.func6, Try.ntmps6
  go_wp2_with fail
  refine (encode_any a1 len1 cap1 xs w H1.out (by omega)).mono ?_
  rintro e w1 ⟨v1, rfl, hown1, hb1⟩
  obtain ⟨E, hE⟩ : ∃ E, encV xs = E := ⟨_, rfl⟩
  have hEl := encV_len xs
  have hEb := encV_bytes xs
  rw [hE] at hown1 hEl hEb
  obtain ⟨ax, cx, rfl⟩ := own_slice hown1
  have R1 := Lib.hid (Rd.own hown1 (fun x hx => byte_wf (hEb x hx)))
  have hEl' : E.length ≤ 140737488351232 := by have := hl1.out; omega
  have HE := Lib.hid hE; clear hE hEl hown1 hEb
  have B1 := Lib.hid hb1
  have s1 := hb1.size
  clear hb1
  go_wp2_with fail
  refine (decode_wide ax E.length cx E w1 R1.out (by omega) (by rw [← HE.out, decV_enc xs, List.length_map]; have := hl1.out; omega)).mono ?_
  rintro e w2 ⟨v2, rfl, hown2, hb2⟩
  have hD : decV E = xs.map scal := by rw [← HE.out]; exact decV_enc xs
  rw [hD] at hown2
  obtain ⟨D, hDD⟩ : ∃ D, xs.map scal = D := ⟨_, rfl⟩
  have hlen : (xs.map scal).length = len1 := by rw [List.length_map]; exact hl1.out
  rw [hlen] at hown2
  have hwf : ∀ x ∈ xs.map scal, (Lit.int .i32 x).wf = true := by intro x hx; simp only [List.mem_map] at hx; obtain ⟨y, _, rfl⟩ := hx; exact scal_wf y
  rw [hDD] at hown2 hwf
  obtain ⟨a2, c2, rfl⟩ := own_slice hown2
  have R2 := Lib.hid (Rd.own hown2 hwf)
  have HDD := Lib.hid hDD
  have B2 := Lib.hid (B1.out.trans (hb2.mono (B' := w.heap.size) s1))
  have s2 := B2.out.size
  have hxd : Hid (∀ k, k < len1 → D.getD k 0 = scal (xs.getD k 0)) := by
    intro k hk
    have hk' : k < xs.length := by have := hl1.out; omega
    rw [← hDD, List.getD_eq_getElem?_getD, List.getD_eq_getElem?_getD, List.getElem?_map, List.getElem?_eq_getElem hk']; rfl
  clear hb2 hwf hlen hD hown2 hDD
  have hne : ((len1 : Int) != (len1 : Int)) = false := by simp
  by_cases h0 : len1 = 0
  · subst h0
    go_wp2_with fail
    go_loopw [4] (fun i wr => i = .int .i64 0 ∧ wr = w2) (fun _ _ => 0)
    case atStart => exact ⟨rfl, rfl⟩
    case round =>
      obtain ⟨rfl, rfl⟩ := hrel
      go_wp2_with (go_at_call 13; refine (awake_any _).mono ?_; rintro e w3 ⟨rfl, hb3⟩)
      go_ret
      exact ⟨rfl, B2.out.trans (hb3.mono (B' := w.heap.size) s2)⟩
  · obtain ⟨p1, o1, rfl, hc1⟩ := (H1.out.below B2.out).2.2.2.2.2 (by omega)
    obtain ⟨p2, o2, rfl, hc2⟩ := R2.out.2.2.2.2.2 (by omega)
    have HC1 := Lib.hid hc1; clear hc1
    have HC2 := Lib.hid hc2; clear hc2
    go_wp2_with fail
    go_loop [4] (fun i => ∃ k : Nat, k ≤ len1 ∧ i = .int .i64 k) (fun i => len1 - (intOf i).toNat)
    case atStart => exact ⟨0, by omega, rfl⟩
    case round =>
      obtain ⟨k, hk, rfl⟩ := hrel
      by_cases hlt : k < len1
      · have e1 := HC1.out k hlt
        have e2 := HC2.out k hlt
        have e3 := hxd.out k hlt
        have e4 := hi32.out k
        rw [e3] at e2
        obtain ⟨x, hx⟩ : ∃ x, xs.getD k 0 = x := ⟨_, rfl⟩
        rw [hx] at e1 e2 e4
        clear e3 hx
        have hcase : (0 ≤ x ∧ x < 55296) ∨ (57343 < x ∧ x ≤ 1114111) ∨ x < 0 ∨ 1114111 < x ∨ (55296 ≤ x ∧ x ≤ 57343) := by omega
        have hsame : (x != x) = false := by simp
        have hsameF : ((65533 : Int) != 65533) = false := by simp
        rcases hcase with ⟨q1, q2⟩ | ⟨q1, q2⟩ | q1 | q1 | ⟨q1, q2⟩
        all_goals first
          | rw [show scal x = x from scal_of_valid (by unfold validB; simp; omega)] at e2
          | rw [show scal x = 65533 from by unfold scal; rw [if_neg (by unfold validB; simp; omega)]] at e2
        all_goals
          go_wp2
          go_round
          case rel => exact ⟨k + 1, by omega, by go_num⟩
          case measure => simp [intOf]; omega
      · obtain rfl : k = len1 := by omega
        go_wp2_with (go_at_call 13; refine (awake_any _).mono ?_; rintro e w3 ⟨rfl, hb3⟩)
        go_ret
        exact ⟨rfl, B2.out.trans (hb3.mono (B' := w.heap.size) s2)⟩

set_option maxHeartbeats 2000000 in
theorem utfEncodes_wide (a : Option Addr) (len cap : Nat) (xs : List Int) (w : World) (h : Rd .i32 w a len cap xs) (b1 : len * 4 ≤ 140737488351232) :
    Calls Try.prog 4 #[.slice a len cap] w fun e w' => e = .returned (.bool true) ∧ Below w.heap.size w w' := by
  have HL := Lib.hid h.1
  have HR := Lib.hid h
  have hfirst : 0 < len → ∃ b off, a = some ⟨b, off, none⟩ ∧ ∀ i, i < len → w.cell? ⟨b, off + i, none⟩ = some (.int .i32 (xs.getD i 0)) := h.2.2.2.2.2
  clear h
  go_enter Try.func4, Try.ntmps4
  go_wp2_with fail
  go_loopw [3, 4] (fun n i wr => ∃ (k m : Nat), k ≤ len ∧ i = .int .i64 k ∧ n = .int .i64 m ∧ m ≤ 140737488351232 ∧ Hid ((encV (xs.take k)).length = m) ∧ Below w.heap.size w wr) (fun _ i _ => len - (intOf i).toNat)
  case atStart => exact ⟨0, 0, by omega, rfl, rfl, by omega, rfl, Below.refl _ _⟩
  case round =>
    obtain ⟨k, m, hk, rfl, rfl, hm, HM, hbl⟩ := hrel
    have hsz := hbl.size
    by_cases hlt : k < len
    · obtain ⟨b, off, rfl, hc⟩ := hfirst (by omega)
      have hb : b < w.heap.size := block_lt_of_cell (hc 0 (by omega))
      have hcx : wr.cell? ⟨b, off + k, none⟩ = some (.int .i32 (xs.getD k 0)) := (hbl.cell (by exact hb)).trans (hc k hlt)
      clear hc hfirst
      obtain ⟨x, hx⟩ : ∃ x, xs.getD k 0 = x := ⟨_, rfl⟩
      rw [hx] at hcx
      have HX := Lib.hid hx; clear hx
      obtain ⟨vb, hvb⟩ : ∃ vb, validB x = vb := ⟨_, rfl⟩
      have HVB := Lib.hid hvb; clear hvb
      have hvv : (vb != vb) = false := by simp
      obtain ⟨E, hE⟩ : ∃ E, encB (scal x) = E := ⟨_, rfl⟩
      have hel := encB_len (scal x)
      rw [hE] at hel
      obtain ⟨L, hL⟩ : ∃ L, E.length = L := ⟨_, rfl⟩
      have HLen : Hid (lenV x = (L : Int)) := by show _ = _; rw [lenV_eq, hE, hL]
      have HOne : Hid (∀ W : World, Calls Try.prog 17 #[.int .i32 x] W fun e w' => ∃ a' c', e = .returned (.slice a' L c') ∧ Below W.heap.size W w') := by
        intro W
        refine (refOne_any x W).mono ?_
        rintro e w' ⟨v', rfl, hown, hb⟩
        rw [hE, hL] at hown
        obtain ⟨a', c', rfl⟩ := own_slice hown
        exact ⟨a', c', rfl, hb⟩
      rw [hL] at hel
      have HE := Lib.hid hE; clear hE
      have HLL := Lib.hid hL; clear hL
      have hll : ((L : Int) != (L : Int)) = false := by simp
      have HM2 : Hid ((encV (xs.take (k + 1))).length = m + L) := by
        show _ = _
        rw [take_snoc xs k (by have := HL.out; omega), encV_snoc, List.length_append, HM.out, HX.out, HE.out, HLL.out]
      have hm2 : m + L ≤ 140737488351232 := by
        have h1 := encV_len (xs.take (k + 1))
        have h2 : (xs.take (k + 1)).length ≤ k + 1 := List.length_take_le _ _
        rw [HM2.out] at h1
        omega
      have hbw := Lib.hid hbl
      go_upto_region 5 with fail
      go_cut [36] (fun c wx => c = .bool false ∧ Below w.heap.size w wx)
      case first =>
        go_region_held3 (fun w' => w'.cell? ⟨b, off + k, none⟩ = some (.int .i32 x) ∧ Below w.heap.size w w')
          (first | exact ⟨hcx, hbl.drew⟩ | (refine held_step ?_ hb hb2; first | assumption | exact ⟨by assumption, by assumption⟩) | go_keep)
          (first
            | (go_at_call 14; refine (valid_is x vb _ HVB).mono ?_; rintro e w2 ⟨rfl, rfl⟩)
            | (go_at_call 15; refine (refValid_is x vb _ HVB).mono ?_; rintro e w2 ⟨rfl, rfl⟩)
            | (go_at_call 16; refine (len_hid x L _ HLen).mono ?_; rintro e w2 ⟨rfl, rfl⟩)
            | (go_at_call 17; refine (HOne.out _).mono ?_; rintro e w2 ⟨a', c', rfl, hb2⟩))
        all_goals
          go_wp2_with fail
          go_meet
          exact ⟨rfl, by first | assumption | (exact (And.right (by assumption)))⟩
      case rest =>
        obtain ⟨rfl, hbc⟩ := hcut
        have hcw : wc.cell? ⟨b, off + k, none⟩ = some (.int .i32 x) := by
          have h := HR.out.2.2.2.2.2 (by omega)
          obtain ⟨b', off', he, hc⟩ := h
          simp only [Option.some.injEq, Addr.mk.injEq, and_true] at he
          obtain ⟨rfl, rfl⟩ := he
          rw [← HX.out]
          exact (hbc.cell (by exact hb)).trans (hc k hlt)
        clear hcx hbl
        go_wp2_with (go_at_call 16; refine (len_hid x L _ HLen).mono ?_; rintro e w2 ⟨rfl, rfl⟩)
        go_roundw
        case rel => exact ⟨k + 1, m + L, by omega, by go_num, by go_num, by omega, HM2, hbc⟩
        case measure => simp [intOf]; omega
    · obtain rfl : k = len := by omega
      have hEl : (encV xs).length = m := by
        have h := HM.out
        rwa [List.take_of_length_le (by have := HL.out; omega)] at h
      obtain ⟨E, hE⟩ : ∃ E, encV xs = E := ⟨_, rfl⟩
      have hEb := encV_bytes xs
      rw [hE] at hEl hEb
      have HEW : Hid (∀ x ∈ E, (Lit.int .u8 x).wf = true) := fun x hx => byte_wf (hEb x hx)
      have HE := Lib.hid hE; clear hE hEb
      have HEL := Lib.hid hEl; clear hEl
      obtain ⟨s, hs⟩ : ∃ s, strOfNums E = s := ⟨_, rfl⟩
      have HS := Lib.hid hs; clear hs
      have hmm : ((m : Int) == (m : Int)) = true := by simp
      have HREF : Hid (∀ W : World, Below w.heap.size w W → Calls Try.prog 19 #[.slice a k cap] W fun e w' => ∃ a' c', e = .returned (.slice a' m c') ∧ Below W.heap.size W w' ∧
          (convert 22 9 (.slice a' m c')).run Try.prog w' = .ok (.string s) w') := by
        intro W hW
        refine (refEncode_any a k cap xs W (HR.out.below hW) (by omega)).mono ?_
        rintro e w' ⟨v', rfl, hown, hb⟩
        rw [HE.out, HEL.out] at hown
        obtain ⟨a', c', rfl⟩ := own_slice hown
        refine ⟨a', c', rfl, hb, ?_⟩
        rw [conv_any (P := Try.prog) 22 5 9 Try.underlying22 Try.underlying5 Try.underlying9 a' m c' E w' (Rd.own hown HEW.out), HS.out]
      go_wp2_with fail
      refine (encode_any a k cap xs wr (HR.out.below hbl) (by omega)).mono ?_
      rintro e w1 ⟨v1, rfl, hown1, hb1⟩
      rw [HE.out, HEL.out] at hown1
      obtain ⟨a1, c1, rfl⟩ := own_slice hown1
      have R1 := Lib.hid (Rd.own hown1 HEW.out : Rd .u8 w1 a1 m c1 E)
      have B1 := Lib.hid (hbl.trans (hb1.mono (B' := w.heap.size) hsz))
      have s1 := B1.out.size
      have HCV : Hid (∀ W : World, Below w1.heap.size w1 W → (convert 22 9 (.slice a1 m c1)).run Try.prog W = .ok (.string s) W) := by
        intro W hW
        rw [conv_any (P := Try.prog) 22 5 9 Try.underlying22 Try.underlying5 Try.underlying9 a1 m c1 E W (R1.out.below hW), HS.out]
      clear hown1 hb1
      go_upto_region 9 with fail
      have hcv0 := HCV.out w1 (Below.refl _ _)
      have hcv1 := HCV.out w1.drew (Below.refl _ _).drew
      go_region_with (first
        | (go_at_call 19; refine (HREF.out _ (by first | exact B1.out.drew | exact B1.out)).mono ?_; rintro e w2 ⟨a', c', rfl, hb2, hcv2⟩; have hcv3 := HCV.out w2 (by first | exact (Below.refl _ _).drew.trans hb2 | exact hb2); have B2 := Lib.hid (below_via B1.out hb2 s1 ⟨rfl, rfl, rfl, rfl⟩))
        | (go_at_call 13; refine (awake_any _).mono ?_; rintro e w3 ⟨rfl, hb3⟩))
      all_goals
        go_wp2_with fail
        go_ret
        exact ⟨rfl, B2.out.trans (hb3.mono (B' := w.heap.size) B2.out.size)⟩
end Go.Proofs.Ytcjngpgicegacaa.U
