/-
  The document's Replace.
-/
import Derived.Test.YtndlebopfojjeaaTRefI
namespace Go.Proofs.Ytndlebopfojjeaa.U
open Go.RowKit
set_option linter.unusedVariables false
set_option linter.unusedSimpArgs false
set_option maxRecDepth 100000

theorem sizeN_drop_le2 (a : List Nat) (i : Nat) : sizeN (a.drop i) ≤ sizeN a := by
  have h : sizeN (a.take i) + sizeN (a.drop i) = sizeN a := by rw [← sizeN_append, List.take_append_drop]
  omega
/-- rows of the caller's own, in a row of its own -/
def MyL (B : Nat) (w : World) (a : Option Addr) (n c : Nat) (L : List (List Int)) : Prop :=
  ∃ vs, w.ownsRow B 31 1 (.slice a n c) n vs ∧ vs.length = L.length ∧ ∀ (i : Nat) (x : List Int), L[i]? = some x → ∃ v, vs[i]? = some v ∧ w.ownsRow B 21 1 v x.length (ints x)
theorem FreshL.my {B B' n c : Nat} {w : World} {a : Option Addr} {L : List (List Int)} (h : FreshL B w a n c L) (hB : B' ≤ B) : MyL B' w a n c L := by
  obtain ⟨vs, h1, h2, h3, _⟩ := h
  exact ⟨vs, own_mono h1 hB, h2, fun i x hx => by obtain ⟨v, e1, e2⟩ := h3 i x hx; exact ⟨v, e1, own_mono e2 hB⟩⟩
theorem MyL.nil (B : Nat) (w : World) : MyL B w none 0 0 [] := ⟨[], World.ownsRow_nil _ _ _ _, rfl, fun i x h => by simp at h⟩
theorem MyL.below {B n c : Nat} {w w' : World} {a : Option Addr} {L : List (List Int)} (h : MyL B w a n c L) (hb : Below w.heap.size w w') : MyL B w' a n c L := by
  obtain ⟨vs, h1, h2, h3⟩ := h
  exact ⟨vs, own_fr h1 (Fr.of_below (fun _ => False) hb) (fun _ _ h => h), h2, fun i x hx => by obtain ⟨v, e1, e2⟩ := h3 i x hx; exact ⟨v, e1, own_fr e2 (Fr.of_below (fun _ => False) hb) (fun _ _ h => h)⟩⟩
theorem MyL.len {B n c : Nat} {w : World} {a : Option Addr} {L : List (List Int)} (h : MyL B w a n c L) : L.length = n := by
  obtain ⟨vs, h1, h2, _⟩ := h
  have := h1.1
  omega
theorem MyL.rdl {B n c : Nat} {w : World} {a : Option Addr} {L : List (List Int)} (h : MyL B w a n c L) (hw : ∀ x ∈ L, ∀ y ∈ x, (Lit.int .i32 y).wf = true) : RdL (fun k => B ≤ k) w a n c L := by
  obtain ⟨vs, h1, h2, h3⟩ := h
  refine ⟨vs, Rc.own h1, InF.own h1 (fun k e => (h1.lt k e).1), h2, fun i x hx => ?_⟩
  obtain ⟨v, e1, e2⟩ := h3 i x hx
  obtain ⟨ra, rc, rfl⟩ := own_slice e2
  exact ⟨ra, rc, e1, own_rd e2 (hw x (List.mem_of_getElem? hx)), InF.own e2 (fun k e => (e2.lt k e).1)⟩
/-- rows behind rows -/
theorem my_app (w : World) (B : Nat) (a : Option Addr) (n c : Nat) (L : List (List Int)) (b : Option Addr) (m d : Nat) (M : List (List Int)) (h : MyL B w a n c L) (k : MyL B w b m d M) (hB : B ≤ w.heap.size) (hn : n + m ≤ 1099511627776) :
    ∃ a' c' w', (∀ ty, (Builtin.append_ #[22, 22] ty #[.slice a n c, .slice b m d]).run Try.prog w = .ok (.slice a' (n + m) c') w') ∧ MyL B w' a' (n + m) c' (L ++ M) ∧ Below B w w' := by
  obtain ⟨vs, h1, h2, h3⟩ := h
  obtain ⟨us, k1, k2, k3⟩ := k
  obtain ⟨i0, hi0, hz0, hz1, hz2⟩ := info_parts infoS
  have hul : us.length = m * 1 := k1.1
  obtain ⟨v', w', hrun, hown, hfr, hnear⟩ := run_append_own_k (P := Try.prog) w B 22 31 i0 _ 1 24 Try.underlying22 hi0 hz0 hz1 hz2 rfl (by decide) (.slice a n c) n vs h1 b m d us hul
    (fun hp => (Rc.own k1).src hp) (fun u hu => by
      obtain ⟨i, hi, e⟩ := List.getElem_of_mem hu
      have hiM : i < M.length := by omega
      obtain ⟨v, e1, e2⟩ := k3 i _ (List.getElem?_eq_getElem hiM)
      rw [List.getElem?_eq_getElem hi, e] at e1
      cases e1
      obtain ⟨_, _, rfl⟩ := own_slice e2
      rfl) (by unfold maxLen; omega) (by omega) hB
  obtain ⟨a', c', rfl⟩ := own_slice hown
  have far : ∀ {u : Value} {q : Nat} {xs : List Value}, w.ownsRow B 21 1 u q xs → w'.ownsRow B 21 1 u q xs := fun ho => own_fr ho hfr (fun x e hx => rows_apart ho h1 (by decide) e hx)
  refine ⟨a', c', w', hrun, ⟨vs ++ us, hown, by simp [h2, k2], fun i x hx => ?_⟩, hfr.below hB (fun x e => (h1.lt x e.symm).1)⟩
  by_cases hi : i < L.length
  · rw [List.getElem?_append_left hi] at hx
    obtain ⟨v, e1, e2⟩ := h3 i x hx
    exact ⟨v, by rw [List.getElem?_append_left (by omega)]; exact e1, far e2⟩
  · rw [List.getElem?_append_right (by omega)] at hx
    obtain ⟨v, e1, e2⟩ := k3 _ x hx
    exact ⟨v, by rw [List.getElem?_append_right (by omega), h2]; exact e1, far e2⟩

set_option maxHeartbeats 4000000 in
theorem rreplace_any (P : Nat → Prop) (bx : Nat) (L : List (List Int)) (i n : Int) (F : Nat → Prop) (ma : Option Addr) (mn mc : Nat) (M : List (List Int)) (w : World) (h : RX P w bx L) (hs : sizeN (lens L) ≤ 262144) (hi : i64b i) (hn : i64b n) (hm : RdL F w ma mn mc M) (hms : sizeN (lens M) ≤ 262144) :
    Calls Try.prog 36 #[.pointer (some ⟨bx, 0, none⟩), .int .i64 i, .int .i64 n, .slice ma mn mc] w fun e w' => e = .returned (.int .i64 (repT L i n M).2) ∧ AfX P w bx (repT L i n M).1 w' := by
  obtain ⟨ra, nr, rc, hrl, hcx⟩ := h.cell
  have hnl := hrl.len
  have hnm := hm.len
  have hnb : nr ≤ 262144 := by have := size_count L; omega
  have hmb : mn ≤ 262144 := by have := size_count M; omega
  have HC := Lib.hid hcx
  have HX := Lib.hid h
  have HP := Lib.hid (rplain_any F ma mn mc M w hm)
  have HWL := Lib.hid (lines_wf (rdl_wf hrl))
  have HWM := Lib.hid (lines_wf (rdl_wf hm))
  have HSAME : Hid (AfX P w bx L w) := AfX.same h (Below.refl _ _)
  obtain ⟨x0, l0⟩ := HC.out w (Below.refl _ _)
  unfold i64b at hi hn
  have HRL := Lib.hid hrl
  have HM := Lib.hid hm
  have HNL := Lib.hid hnl
  have HNM := Lib.hid hnm
  have HS := Lib.hid hs
  have HMS := Lib.hid hms
  clear h hcx hm hrl hs hms
  by_cases hok : 0 ≤ i ∧ 0 ≤ n ∧ n ≤ (nr : Int) - i
  case neg =>
    have hI : repT L i n M = (L, 2) := by unfold repT; rw [hnl, if_neg hok]
    rw [hI]
    clear hI hnl hnm
    by_cases h1 : i < 0
    · go_enter Try.func36, Try.ntmps36
      go_wp2_with fail
      go_ret
      exact ⟨rfl, HSAME.out⟩
    have h1' : 0 ≤ i := by omega
    by_cases h2 : (nr : Int) < i
    · go_enter Try.func36, Try.ntmps36
      go_wp2_with fail
      go_ret
      exact ⟨rfl, HSAME.out⟩
    have h2' : i ≤ (nr : Int) := by omega
    by_cases h3 : n < 0
    · clear hok
      go_enter Try.func36, Try.ntmps36
      go_wp2_with fail
      go_ret
      exact ⟨rfl, HSAME.out⟩
    have h3' : 0 ≤ n := by omega
    have h4 : (nr : Int) - i < n := by omega
    have y1 : IntKind.i64.wrap ((nr : Int) - i) = (nr : Int) - i := by rw [IntKind.wrap_i64]; omega
    clear hok
    go_enter Try.func36, Try.ntmps36
    go_wp2_with fail
    go_ret
    exact ⟨rfl, HSAME.out⟩
  case pos =>
  obtain ⟨k, rfl⟩ : ∃ k : Nat, i = k := ⟨i.toNat, by omega⟩
  obtain ⟨q, rfl⟩ : ∃ q : Nat, n = q := ⟨n.toNat, by omega⟩
  have hkq : k + q ≤ nr := by omega
  have r1 : (k : Int) ≤ (nr : Int) := by omega
  have y1 : IntKind.i64.wrap ((nr : Int) - (k : Int)) = (nr : Int) - (k : Int) := by rw [IntKind.wrap_i64]; omega
  have r2 : (q : Int) ≤ (nr : Int) - (k : Int) := by omega
  have y2 : IntKind.i64.wrap ((k : Int) + (q : Int)) = (k : Int) + (q : Int) := by rw [IntKind.wrap_i64]; omega
  cases hany : M.any has10 with
  | true =>
    have hI : repT L (k : Nat) (q : Nat) M = (L, 1) := by unfold repT; rw [hnl, if_pos hok, hany]; rfl
    rw [hany] at HP
    have HP' : Hid (Calls Try.prog 46 #[.slice ma mn mc] w fun e w' => e = .returned (.bool false) ∧ w = w') := HP.out
    rw [hI]
    clear hI hnl hnm hok hany HP
    go_enter Try.func36, Try.ntmps36
    go_wp2_with (go_at_call 46; refine HP'.out.mono ?_; rintro e w' ⟨rfl, rfl⟩)
    go_ret
    exact ⟨rfl, HSAME.out⟩
  | false =>
    rw [hany] at HP
    have HP' : Hid (Calls Try.prog 46 #[.slice ma mn mc] w fun e w' => e = .returned (.bool true) ∧ w = w') := HP.out
    obtain ⟨R, hR⟩ : ∃ R, repL L k q M = R := ⟨_, rfl⟩
    have hI : repT L (k : Nat) (q : Nat) M = if 65536 < (joinL R).length then (L, 3) else (R, 0) := by unfold repT; rw [hnl, if_pos hok, hany, Int.toNat_natCast, Int.toNat_natCast, hR]; simp
    obtain ⟨T, er, hTe⟩ : ∃ T er, repT L (k : Nat) (q : Nat) M = (T, er) := ⟨_, _, rfl⟩
    have HI : Hid ((T, er) = if 65536 < (joinL R).length then (L, 3) else (R, (0 : Int))) := by show _ = _; rw [← hTe]; exact hI
    rw [hTe]
    have HRR := Lib.hid hR
    clear hI hTe hR hany HP hnl hnm hok
    have hrc : nr ≤ rc := by obtain ⟨vs, h1, _⟩ := HRL.out; exact h1.2.1
    have hrcm : rc ≤ 9223372036854775807 := by obtain ⟨vs, h1, _⟩ := HRL.out; have := h1.2.2.1; unfold maxLen at this; omega
    have hkc : k ≤ rc := by omega
    have hkqc : k + q ≤ rc := by omega
    have HT1 := Lib.hid (rtwin_any _ ra k rc (L.take k) w (HRL.out.take k (by omega)) (by have := size_take_le L k; have := HS.out; omega))
    go_enter Try.func36, Try.ntmps36
    go_wp2_with fail
    refine HP'.out.mono ?_
    rintro e w' ⟨rfl, rfl⟩
    go_wp2_with fail
    refine HT1.out.mono ?_
    rintro e w1 ⟨a1, c1, rfl, hf1, hb1⟩
    obtain ⟨a2, c2, w2, hrun2, hm2, hb2⟩ := my_app w1 w.heap.size none 0 0 [] a1 k c1 (L.take k) (MyL.nil _ _) (hf1.my (Nat.le_refl _)) hb1.size (by omega)
    rw [Nat.zero_add] at hrun2 hm2
    rw [List.nil_append] at hm2
    have hb02 : Below w.heap.size w w2 := hb1.trans hb2
    have HT2 := Lib.hid (rtwin_any F ma mn mc M w2 (HM.out.below hb02) (by have := HMS.out; omega))
    have HM2 := Lib.hid hm2
    have HB2 := Lib.hid hb02
    have HRUN2 := Lib.hid hrun2
    obtain ⟨x2, l2⟩ := HC.out w2 hb02
    clear x0 l0 HP' HT1 hf1 hb1 hrun2 hm2 hb2 hb02
    go_wp2_with (at_builtin; go_must (with_reducible refine Lib.wpList_append_run _ rfl (.tmp 39) (.tmp 46) _ _ rfl _ _ rfl rfl _ _ (HRUN2.out _) ?_))
    refine HT2.out.mono ?_
    rintro e w3 ⟨a3, c3, rfl, hf3, hb3⟩
    obtain ⟨a4, c4, w4, hrun4, hm4, hb4⟩ := my_app w3 w.heap.size a2 k c2 (L.take k) a3 mn c3 M (HM2.out.below hb3) (hf3.my HB2.out.size) (Nat.le_trans HB2.out.size hb3.size) (by omega)
    have hb04 : Below w.heap.size w w4 := (HB2.out.trans (hb3.mono HB2.out.size)).trans hb4
    obtain ⟨ta, hta, htr⟩ : ∃ ta, (if rc = k + q then ra else ra.map (·.add ((k + q) * 1))) = ta ∧ RdL (fun x => P x ∧ x ≠ bx) w4 ta (nr - (k + q)) (rc - (k + q)) (L.drop (k + q)) := ⟨_, rfl, (HRL.out.below hb04).drop (k + q) hkq⟩
    have HT3 := Lib.hid (rtwin_any _ ta (nr - (k + q)) (rc - (k + q)) (L.drop (k + q)) w4 htr (by rw [lens_drop]; have := sizeN_drop_le2 (lens L) (k + q); have := HS.out; omega))
    obtain ⟨x4, l4⟩ := HC.out w4 hb04
    have HM4 := Lib.hid hm4
    have HB4 := Lib.hid hb04
    have HRUN4 := Lib.hid hrun4
    have HTA := Lib.hid hta
    clear x2 l2 HT2 HRUN2 hf3 hb3 hrun4 hm4 hb4 hb04 hta htr HM2
    have hwR : ∀ x ∈ L.take k ++ M ++ L.drop (k + q), ∀ y ∈ x, (Lit.int .i32 y).wf = true := by
      intro x hx
      rcases List.mem_append.1 hx with hx | hx
      · rcases List.mem_append.1 hx with hx | hx
        · exact HWL.out x (List.mem_of_mem_take hx)
        · exact HWM.out x hx
      · exact HWL.out x (List.mem_of_mem_drop hx)
    have HWR := Lib.hid hwR
    obtain ⟨D, hD⟩ : ∃ D, nr - (k + q) = D := ⟨_, rfl⟩
    have hDb : D ≤ 262144 := by omega
    rw [hD] at HT3
    have hsz : sizeN (lens (L.take k ++ M ++ L.drop (k + q))) ≤ 1048576 := by
      rw [lens_append, lens_append, sizeN_append, sizeN_append, lens_drop]
      have := size_take_le L k
      have := sizeN_drop_le2 (lens L) (k + q)
      have := HS.out
      have := HMS.out
      omega
    have HSZ := Lib.hid hsz
    have HDL : Hid ((L.drop (k + q)).length = D ∧ (L.take k).length = k) := ⟨by rw [List.length_drop, HNL.out]; exact hD, by rw [List.length_take, HNL.out]; omega⟩
    have HDD := Lib.hid hD
    clear hwR hD hsz
    have hcase : (rc = k + q ∧ Hid (ta = ra)) ∨ (rc ≠ k + q ∧ Hid (ta = Option.map (fun x : Addr => x.add (k + q)) ra)) := by
      by_cases hcn : rc = k + q
      · exact .inl ⟨hcn, by have := HTA.out; rw [if_pos hcn] at this; exact this.symm⟩
      · exact .inr ⟨hcn, by have := HTA.out; rw [if_neg hcn, Nat.mul_one] at this; exact this.symm⟩
    clear HTA
    rcases hcase with ⟨hcn, HTE⟩ | ⟨hcn, HTE⟩
    case' inl =>
      have hcn2 := eq_true hcn
      have HCN := Lib.hid hcn
      clear hcn
      go_wp2_with (at_builtin; go_must (with_reducible refine Lib.wpList_append_run _ rfl (.tmp 48) (.tmp 50) _ _ rfl _ _ rfl rfl _ _ (HRUN4.out _) ?_))
      rw [HDD.out, ← HTE.out]
      rw [show rc - (k + q) = 0 from by have := HCN.out; omega] at HT3
    case' inr =>
      go_wp2_with (at_builtin; go_must (with_reducible refine Lib.wpList_append_run _ rfl (.tmp 48) (.tmp 50) _ _ rfl _ _ rfl rfl _ _ (HRUN4.out _) ?_))
      rw [HDD.out, ← HTE.out]
    all_goals
      refine HT3.out.mono ?_
      rintro e w5 ⟨a5, c5, rfl, hf5, hb5⟩
      obtain ⟨a6, c6, w6, hrun6, hm6, hb6⟩ := my_app w5 w.heap.size a4 (k + mn) c4 (L.take k ++ M) a5 D c5 (L.drop (k + q)) (HM4.out.below hb5) (hf5.my HB4.out.size) (Nat.le_trans HB4.out.size hb5.size) (by omega)
      have hb06 : Below w.heap.size w w6 := (HB4.out.trans (hb5.mono HB4.out.size)).trans hb6
      obtain ⟨K, hK⟩ : ∃ K, k + mn + D = K := ⟨_, rfl⟩
      rw [hK] at hrun6 hm6
      have HRUN6 := Lib.hid hrun6
      have HB6 := Lib.hid hb06
      have hlen := hm6.len
      have HR6 := Lib.hid (hm6.rdl HWR.out)
      obtain ⟨A, hA⟩ : ∃ A, L.take k ++ M ++ L.drop (k + q) = A := ⟨_, rfl⟩
      have hAR : normL A = R := by rw [← hA, ← HRR.out]; unfold repL; rw [List.append_assoc]
      rw [hA] at HR6 hlen HSZ
      have hKb : K ≤ 1048576 := by omega
      clear hf5 hb5 hrun6 hm6 hb6 hb06 HT3 HM4 x4 l4 HRUN4 hA HTE hK
      obtain ⟨x6, l6⟩ := HC.out w6 HB6.out
      by_cases hK0 : K = 0
      · have hA0 : A = [] := List.eq_nil_of_length_eq_zero (by omega)
        have hR0 : R = [[]] := by rw [← hAR, hA0]; rfl
        have he : (T, er) = ([[]], 0) := by have := HI.out; rw [hR0] at this; simpa [joinL_one] using this
        obtain ⟨rfl, rfl⟩ : T = [[]] ∧ er = 0 := by simpa using he
        obtain ⟨w7, hw7⟩ : ∃ w7, w6.alloc (.cells #[.slice none 0 0] 31) = w7 := ⟨_, rfl⟩
        obtain ⟨g, hg⟩ : ∃ g, w6.heap.size = g := ⟨_, rfl⟩
        have hr7 := one_rdl0 w6
        have hb67 : Below w6.heap.size w6 (w6.alloc (.cells #[.slice none 0 0] 31)) := (Below.refl _ _).alloc (Nat.le_refl _) _
        rw [hw7] at hb67 hr7
        have hb07 : Below w.heap.size w w7 := HB6.out.trans (hb67.mono HB6.out.size)
        have HRU := Lib.hid (rrunes_any _ _ 1 1 [[]] w7 hr7 (by simp [lens, sizeN_cons, sizeN_nil]))
        rw [joinL_one, hg] at HRU
        have hput := HX.out.put hb07 (hr7.mono (fun x hx => by have := HB6.out.size; omega))
        rw [hg] at hput
        obtain ⟨hA, ⟨u, hu⟩, hz, hl7⟩ := hput
        have HA := Lib.hid hA
        have t1 : ((K : Int) == 0) = true := by simp; omega
        have HW7 := Lib.hid hw7
        have HG7 := Lib.hid hg
        clear hA0 hR0 he hr7 hb67 hb07 hA hw7 hg HI HR6 hAR hlen
        go_upto_region 11 with (at_builtin; go_must (with_reducible refine Lib.wpList_append_run _ rfl (.tmp 52) (.tmp 61) _ _ rfl _ _ rfl rfl _ _ (HRUN6.out _) ?_))
        rw [HG7.out, HW7.out]
        go_wp2_with (go_at_call 31; refine HRU.out.mono ?_; rintro e w' ⟨rfl, rfl⟩)
        go_ret
        exact ⟨rfl, HA.out⟩
      · have hAne : A ≠ [] := by intro e; rw [e] at hlen; simp at hlen; omega
        have hRA : R = A := by rw [← hAR, normL_of hAne]
        have HRU := Lib.hid (rrunes_any _ _ K c6 A w6 HR6.out (by have := HSZ.out; omega))
        obtain ⟨J, hJ⟩ : ∃ J, (joinL A).length = J := ⟨_, rfl⟩
        have hJb := joinL_len_le A
        have hHI := HI.out
        rw [hRA, hJ] at hHI
        rw [hJ] at HRU hJb
        have hJb2 : J ≤ 1048576 := by have := HSZ.out; omega
        have t1 : ((K : Int) == 0) = false := by simp; omega
        by_cases hbig : 65536 < J
        · rw [if_pos hbig] at hHI
          obtain ⟨rfl, rfl⟩ : T = L ∧ er = 3 := by simpa using hHI
          have HA : Hid (AfX P w bx T w6) := AfX.same HX.out HB6.out
          have t2 : (65536 : Int) < (J : Int) := by omega
          clear hAne hRA hJ hJb hHI HR6 HI hAR hlen
          go_wp2_with (first
            | (at_builtin; go_must (with_reducible refine Lib.wpList_append_run _ rfl (.tmp 52) (.tmp 61) _ _ rfl _ _ rfl rfl _ _ (HRUN6.out _) ?_))
            | (go_at_call 31; refine HRU.out.mono ?_; rintro e w' ⟨rfl, rfl⟩))
          go_ret
          exact ⟨rfl, HA.out⟩
        · rw [if_neg hbig] at hHI
          obtain ⟨rfl, rfl⟩ : T = A ∧ er = 0 := by simpa using hHI
          obtain ⟨hA, ⟨u, hu⟩, hz, hl7⟩ := HX.out.put HB6.out HR6.out
          have HA := Lib.hid hA
          have t2 : ¬ (65536 : Int) < (J : Int) := by omega
          clear hAne hRA hJ hJb hHI HR6 HI hAR hlen hA
          go_wp2_with (first
            | (at_builtin; go_must (with_reducible refine Lib.wpList_append_run _ rfl (.tmp 52) (.tmp 61) _ _ rfl _ _ rfl rfl _ _ (HRUN6.out _) ?_))
            | (go_at_call 31; refine HRU.out.mono ?_; rintro e w' ⟨rfl, rfl⟩))
          go_ret
          exact ⟨rfl, HA.out⟩
end Go.Proofs.Ytndlebopfojjeaa.U
