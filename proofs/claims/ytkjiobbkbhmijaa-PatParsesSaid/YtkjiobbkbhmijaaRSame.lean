/-
  The document's Same: are two patterns the same?
-/
import Derived.Test.YtkjiobbkbhmijaaRRow
import Derived.Test.YtkjiobbkbhmijaaRSameP
namespace Go.Proofs.Ytkjiobbkbhmijaa.U
open Go.RowKit
set_option linter.unusedVariables false
set_option linter.unusedSimpArgs false
set_option maxRecDepth 100000

/-- a part's fields, its spans and its parts one by one -/
theorem ReAt.full {F : Nat → Prop} {w : World} {k r : Int} {sa : Option Addr} {sn sc : Nat} {nt : Bool} {lo hi : Int} {pa : Option Addr} {pn pc : Nat} {x : Re} (h : ReAt F w [.int .i64 k, .int .i32 r, .slice sa sn sc, .bool nt, .int .i64 lo, .int .i64 hi, .slice pa pn pc] x) :
    ∃ st ps, x = .mk k r st nt lo hi ps ∧ sn = st.length ∧ pn = ps.length ∧ Rc w sa sn sc 2 (spc st) ∧ sn ≤ 9223372036854775807 ∧ pn ≤ 9223372036854775807 ∧ ∀ (i : Nat) (y : Re), ps[i]? = some y → ∃ b off, pa = some ⟨b, off, none⟩ ∧ b < w.heap.size ∧ ∃ v, ReAt F w v y ∧ ∀ j u, v[j]? = some u → w.cell? ⟨b, off + (i * 7 + j), none⟩ = some u := by
  cases x with
  | mk k' r' st nt' lo' hi' ps =>
  unfold ReAt at h
  obtain ⟨sa', sc', pa', pc', e, h1, h2, vs, h3, h4, h5⟩ := h
  simp only [rev, List.cons.injEq, Value.int.injEq, Value.slice.injEq, Value.bool.injEq, true_and, and_true] at e
  obtain ⟨rfl, rfl, ⟨rfl, rfl, rfl⟩, rfl, rfl, rfl, rfl, rfl, rfl⟩ := e
  refine ⟨st, ps, rfl, rfl, rfl, h1, h1.small, h3.small, fun i x hx => ?_⟩
  have hlt : i < ps.length := (List.getElem?_eq_some_iff.1 hx).1
  obtain ⟨b, off, rfl, hbl, hc⟩ := h3.at_ (by omega)
  obtain ⟨v, hv, hj⟩ := PsAt.get ps i h5 hx
  refine ⟨b, off, rfl, hbl, v, hv, fun j u hu => hc _ _ ?_⟩
  have hj7 : j < 7 := by
    rw [← hv.rev7.len]
    exact (List.getElem?_eq_some_iff.1 hu).1
  rw [hj j hj7, hu]
theorem szs_mem {x : Re} : ∀ {ps : List Re}, x ∈ ps → x.sz ≤ szs ps
  | y :: ps, h => by
    unfold szs
    rcases List.mem_cons.1 h with rfl | h
    · omega
    · have := szs_mem h; omega
theorem sz_part {k r : Int} {st : List (Int × Int)} {nt : Bool} {lo hi : Int} {ps : List Re} {x : Re} (h : x ∈ ps) : x.sz < (Re.mk k r st nt lo hi ps).sz := by
  have h1 := szs_mem h
  have : 1 ≤ (if k = 10 then tms lo hi else 1) := by
    split
    · unfold tms; omega
    · omega
  have h2 := Nat.mul_le_mul_left (szs ps) this
  have e : (Re.mk k r st nt lo hi ps).sz = 1 + szs ps * (if k = 10 then tms lo hi else 1) := by rw [Re.sz]
  rw [e]
  omega
theorem spc_at (st : List (Int × Int)) (i : Nat) (s : Int × Int) (h : st[i]? = some s) : (spc st)[i * 2]? = some (.int .i64 s.1) ∧ (spc st)[i * 2 + 1]? = some (.int .i64 s.2) := by
  induction st generalizing i with
  | nil => simp at h
  | cons x r ih =>
    cases i with
    | zero =>
      simp only [List.getElem?_cons_zero, Option.some.injEq] at h
      subst h
      exact ⟨rfl, rfl⟩
    | succ i =>
      have := ih i (by simpa using h)
      rw [show spc (x :: r) = .int .i64 x.1 :: .int .i64 x.2 :: spc r from rfl, show (i + 1) * 2 = i * 2 + 1 + 1 by omega, List.getElem?_cons_succ, List.getElem?_cons_succ, List.getElem?_cons_succ, List.getElem?_cons_succ]
      exact this
def SameP (n : Nat) : Prop := ∀ (x y : Re) (F G : Nat → Prop) (v u : List Value) (w : World), x.sz ≤ n → ReAt F w v x → ReAt G w u y → Calls Try.prog 10 #[.agg v.toArray, .agg u.toArray] w fun e w' => e = .returned (.bool (x.same y)) ∧ Below w.heap.size w w'
set_option maxHeartbeats 2000000 in
theorem same_step (n : Nat) (ih : ∀ m, m < n → SameP m) : SameP n := by
  intro x y F G v u w hn hx hy
  obtain ⟨k, r, sa, sn, sc, nt, lo, hi, pa, pn, pc, rfl⟩ := hx.rev7
  obtain ⟨k', r', sa', sn', sc', nt', lo', hi', pa', pn', pc', rfl⟩ := hy.rev7
  obtain ⟨st, ps, rfl, h1, h2, h3, h4, h5, h6⟩ := ReAt.full hx
  obtain ⟨st', ps', rfl, h1', h2', h3', h4', h5', h6'⟩ := ReAt.full hy
  show Calls _ _ #[.agg #[.int .i64 k, .int .i32 r, .slice sa sn sc, .bool nt, .int .i64 lo, .int .i64 hi, .slice pa pn pc], .agg #[.int .i64 k', .int .i32 r', .slice sa' sn' sc', .bool nt', .int .i64 lo', .int .i64 hi', .slice pa' pn' pc']] w _
  obtain ⟨w1, hw1⟩ : ∃ w1, (w.alloc (.cells #[.int .i64 k, .int .i32 r, .slice sa sn sc, .bool nt, .int .i64 lo, .int .i64 hi, .slice pa pn pc] 26)).alloc (.cells #[.int .i64 k', .int .i32 r', .slice sa' sn' sc', .bool nt', .int .i64 lo', .int .i64 hi', .slice pa' pn' pc'] 26) = w1 := ⟨_, rfl⟩
  have hb1 : Below w.heap.size w w1 := by rw [← hw1]; exact ((Below.refl _ w).alloc (Nat.le_refl _) _).alloc (by simp) _
  have hz1 : w1.heap.size = w.heap.size + 2 := by rw [← hw1]; simp
  have hgA : w1.heap[w.heap.size]? = some (.cells #[.int .i64 k, .int .i32 r, .slice sa sn sc, .bool nt, .int .i64 lo, .int .i64 hi, .slice pa pn pc] 26 (0, 0)) := by
    rw [← hw1, (bal _ _).block _ (by simp)]
    exact heap_alloc_new w _
  have hgB : w1.heap[w.heap.size + 1]? = some (.cells #[.int .i64 k', .int .i32 r', .slice sa' sn' sc', .bool nt', .int .i64 lo', .int .i64 hi', .slice pa' pn' pc'] 26 (0, 0)) := by
    rw [← hw1]
    have := heap_alloc_new (w.alloc (.cells #[.int .i64 k, .int .i32 r, .slice sa sn sc, .bool nt, .int .i64 lo, .int .i64 hi, .slice pa pn pc] 26)) (.cells #[.int .i64 k', .int .i32 r', .slice sa' sn' sc', .bool nt', .int .i64 lo', .int .i64 hi', .slice pa' pn' pc'] 26)
    rw [show (w.alloc (.cells #[.int .i64 k, .int .i32 r, .slice sa sn sc, .bool nt, .int .i64 lo, .int .i64 hi, .slice pa pn pc] 26)).heap.size = w.heap.size + 1 by simp] at this
    exact this
  obtain ⟨p0, p1, p2, p3, p4, p5, p6, -⟩ := row7 hgA
  obtain ⟨q0, q1, q2, q3, q4, q5, q6, -⟩ := row7 hgB
  have HX := Lib.hid hx
  have HY := Lib.hid hy
  have HB1 := Lib.hid hb1
  have HGA := Lib.hid hgA
  have HGB := Lib.hid hgB
  have HZ1 := Lib.hid hz1
  have HW1 := Lib.hid hw1
  have H3 := Lib.hid h3
  have H3' := Lib.hid h3'
  have H6 := Lib.hid h6
  have H6' := Lib.hid h6'
  have H1 := Lib.hid h1
  have H2 := Lib.hid h2
  have H1' := Lib.hid h1'
  have H2' := Lib.hid h2'
  have HIH := Lib.hid ih
  have HN := Lib.hid hn
  clear hx hy hb1 hgA hgB hz1 hw1 h3 h3' h6 h6' h1 h2 h1' h2' ih hn
  obtain ⟨res, hres⟩ : ∃ res, Re.same (.mk k r st nt lo hi ps) (.mk k' r' st' nt' lo' hi' ps') = res := ⟨_, rfl⟩
  rw [hres]
  have HRES := Lib.hid hres
  clear hres
  by_cases hk : k = k'
  rotate_left
  · have g : (k != k') = true := by simpa using hk
    have hF : res = false := by
      rw [← HRES.out, Re.same]
      simp [hk]
    rw [hF]
    go_enter Try.func10, Try.ntmps10
    go_upto_region 1 with fail
    rw [HW1.out]
    go_wp2
    go_ret
    exact ⟨rfl, HB1.out⟩
  subst hk
  by_cases hr : r = r'
  rotate_left
  · have g : (r != r') = true := by simpa using hr
    have hF : res = false := by
      rw [← HRES.out, Re.same]
      simp [hr]
    rw [hF]
    go_enter Try.func10, Try.ntmps10
    go_upto_region 1 with fail
    rw [HW1.out]
    go_wp2
    go_ret
    exact ⟨rfl, HB1.out⟩
  subst hr
  by_cases hnt : nt = nt'
  rotate_left
  · have g : (nt != nt') = true := by simpa using hnt
    have hF : res = false := by
      rw [← HRES.out, Re.same]
      simp [hnt]
    rw [hF]
    go_enter Try.func10, Try.ntmps10
    go_upto_region 1 with fail
    rw [HW1.out]
    go_wp2
    go_ret
    exact ⟨rfl, HB1.out⟩
  subst hnt
  by_cases hlo : lo = lo'
  rotate_left
  · have g : (lo != lo') = true := by simpa using hlo
    have hF : res = false := by
      rw [← HRES.out, Re.same]
      simp [hlo]
    rw [hF]
    go_enter Try.func10, Try.ntmps10
    go_upto_region 1 with fail
    rw [HW1.out]
    go_wp2
    go_ret
    exact ⟨rfl, HB1.out⟩
  subst hlo
  by_cases hhi : hi = hi'
  rotate_left
  · have g : (hi != hi') = true := by simpa using hhi
    have hF : res = false := by
      rw [← HRES.out, Re.same]
      simp [hhi]
    rw [hF]
    go_enter Try.func10, Try.ntmps10
    go_upto_region 1 with fail
    rw [HW1.out]
    go_wp2
    go_ret
    exact ⟨rfl, HB1.out⟩
  subst hhi
  by_cases hsn : sn = sn'
  rotate_left
  · have g : ((sn : Int) != (sn' : Int)) = true := by simp; omega
    have hF : res = false := by
      rw [← HRES.out, Re.same]
      have hne : st ≠ st' := fun e => hsn (by rw [H1.out, H1'.out, e])
      simp [hne]
    rw [hF]
    go_enter Try.func10, Try.ntmps10
    go_upto_region 1 with fail
    rw [HW1.out]
    go_wp2
    go_ret
    exact ⟨rfl, HB1.out⟩
  subst hsn
  by_cases hpn : pn = pn'
  rotate_left
  · have g : ((pn : Int) != (pn' : Int)) = true := by simp; omega
    have hF : res = false := by
      rw [← HRES.out, Re.same]
      have hne : sames ps ps' = false := by
        rw [Bool.eq_false_iff]
        intro e
        rw [sames_iff] at e
        exact hpn (by rw [H2.out, H2'.out, e])
      simp [hne]
    rw [hF]
    go_enter Try.func10, Try.ntmps10
    go_upto_region 1 with fail
    rw [HW1.out]
    go_wp2
    go_ret
    exact ⟨rfl, HB1.out⟩
  subst hpn
  have HR2 : Hid (res = (st == st' && sames ps ps')) := by
    show _ = _
    rw [← HRES.out, Re.same]
    simp
  clear HRES
  go_enter Try.func10, Try.ntmps10
  go_upto_region 1 with fail
  rw [HW1.out]
  go_wp2_with fail
  go_loopw [5] (fun v5 wr => ∃ i : Nat, v5 = .int .i64 (i : Nat) ∧ i ≤ sn ∧ Hid ((∀ j, j < i → st[j]? = st'[j]?) ∧ Below w1.heap.size w1 wr)) (fun v5 _ => sn - (intOf v5).toNat)
  case atStart => exact ⟨0, rfl, by omega, (fun j hj => by omega), Below.refl _ _⟩
  case round =>
    obtain ⟨i, rfl, hi, HW⟩ := hrel
    have a2 := (HW.out.2.cell (p := ⟨w.heap.size, 2, none⟩) (heap_lt HGA.out)).trans p2
    have b2 := (HW.out.2.cell (p := ⟨w.heap.size + 1, 2, none⟩) (heap_lt HGB.out)).trans q2
    by_cases hlt : i < sn
    · obtain ⟨b, off, rfl, hbl, hc⟩ := H3.out.at_ (by omega)
      obtain ⟨b', off', rfl, hbl', hc'⟩ := H3'.out.at_ (by omega)
      obtain ⟨s, hs⟩ : ∃ s, st[i]? = some s := ⟨_, List.getElem?_eq_getElem (by have := H1.out; omega)⟩
      obtain ⟨s', hs'⟩ : ∃ s', st'[i]? = some s' := ⟨_, List.getElem?_eq_getElem (by have := H1'.out; omega)⟩
      have hw := HB1.out.trans (HW.out.2.mono HB1.out.size)
      have c0 := (hw.cell (p := ⟨b, off + i * 2, none⟩) hbl).trans (hc _ _ (spc_at st i s hs).1)
      have c1 := (hw.cell (p := ⟨b, off + i * 2 + 1, none⟩) hbl).trans (hc (i * 2 + 1) _ (spc_at st i s hs).2)
      have d0 := (hw.cell (p := ⟨b', off' + i * 2, none⟩) hbl').trans (hc' _ _ (spc_at st' i s' hs').1)
      have d1 := (hw.cell (p := ⟨b', off' + i * 2 + 1, none⟩) hbl').trans (hc' (i * 2 + 1) _ (spc_at st' i s' hs').2)
      obtain ⟨x, y⟩ := s
      obtain ⟨x', y'⟩ := s'
      dsimp only at c0 c1 d0 d1
      have hg : (i : Int) < (sn : Int) := by omega
      have HS := Lib.hid (And.intro hs hs')
      clear hc hc' hs hs' hw
      by_cases he : x = x'
      · subst he
        by_cases he : y = y'
        · subst he
          go_wp2_with fail
          go_quiet (fail)
          go_wp2_with fail
          go_roundw
          case rel =>
            refine ⟨i + 1, by go_num, by omega, fun j hj => ?_, bdrewN HW.out.2 _⟩
            by_cases hji : j = i
            · subst hji; rw [HS.out.1, HS.out.2]
            · exact HW.out.1 j (by omega)
          case measure => simp [intOf]; omega
        · have g1 : (y == y') = false := by simpa using he
          have g2 : ¬ y = y' := he
          have hF : res = false := by
            rw [HR2.out]
            have hne : ¬ st = st' := fun e => by
              have h := HS.out
              rw [e, h.2] at h
              simp at h
              omega
            simp [hne]
          have HF := Lib.hid hF
          go_wp2_with fail
          go_quiet (fail)
          go_wp2
          go_ret
          exact ⟨by rw [HF.out]; rfl, (HB1.out.trans (HW.out.2.mono HB1.out.size)).trans ((bdrewN (Below.refl _ _) _).mono (by have := HB1.out.size; have := HW.out.2.size; omega))⟩
      · have g1 : (x == x') = false := by simpa using he
        have g2 : ¬ x = x' := he
        have hF : res = false := by
          rw [HR2.out]
          have hne : ¬ st = st' := fun e => by
            have h := HS.out
            rw [e, h.2] at h
            simp at h
            omega
          simp [hne]
        have HF := Lib.hid hF
        go_wp2_with fail
        go_quiet (fail)
        go_wp2
        go_ret
        exact ⟨by rw [HF.out]; rfl, (HB1.out.trans (HW.out.2.mono HB1.out.size)).trans ((bdrewN (Below.refl _ _) _).mono (by have := HB1.out.size; have := HW.out.2.size; omega))⟩
    · obtain rfl : i = sn := by omega
      have HST : Hid (st = st') := by
        refine List.ext_getElem? fun j => ?_
        by_cases hj : j < i
        · exact HW.out.1 j hj
        · rw [List.getElem?_eq_none (by have := H1.out; omega), List.getElem?_eq_none (by have := H1'.out; omega)]
      have HR3 : Hid (res = sames ps ps') := by
        show _ = _
        rw [HR2.out, HST.out]; simp
      have HWB : Hid (Below w1.heap.size w1 wr) := HW.out.2
      clear HW HR2 HST
      go_wp2_with fail
      go_loopw [6] (fun v6 wr => ∃ j : Nat, v6 = .int .i64 (j : Nat) ∧ j ≤ pn ∧ Hid ((∀ m, m < j → ps[m]? = ps'[m]?) ∧ Below w1.heap.size w1 wr)) (fun v6 _ => pn - (intOf v6).toNat)
      case atStart => exact ⟨0, rfl, by omega, (fun m hm => by omega), HWB.out⟩
      case round =>
        obtain ⟨j, rfl, hj, HQ⟩ := hrel
        have a6 := (HQ.out.2.cell (p := ⟨w.heap.size, 6, none⟩) (heap_lt HGA.out)).trans p6
        have b6 := (HQ.out.2.cell (p := ⟨w.heap.size + 1, 6, none⟩) (heap_lt HGB.out)).trans q6
        by_cases hjl : j < pn
        · obtain ⟨y, hy⟩ : ∃ y, ps[j]? = some y := ⟨_, List.getElem?_eq_getElem (by have := H2.out; omega)⟩
          obtain ⟨y', hy'⟩ : ∃ y', ps'[j]? = some y' := ⟨_, List.getElem?_eq_getElem (by have := H2'.out; omega)⟩
          obtain ⟨b, off, rfl, hbl, v8, hv, hcv⟩ := H6.out j y hy
          obtain ⟨b', off', rfl, hbl', v9, hv', hcv'⟩ := H6'.out j y' hy'
          obtain ⟨k8, r8, sa8, sn8, sc8, nt8, l8, h8, pa8, pn8, pc8, rfl⟩ := hv.rev7
          obtain ⟨k9, r9, sa9, sn9, sc9, nt9, l9, h9, pa9, pn9, pc9, rfl⟩ := hv'.rev7
          have hw := HB1.out.trans (HQ.out.2.mono HB1.out.size)
          have c0 := (hw.cell (p := ⟨b, off + j * 7, none⟩) hbl).trans (hcv 0 _ rfl)
          have c1 := (hw.cell (p := ⟨b, off + j * 7 + 1, none⟩) hbl).trans (hcv 1 _ rfl)
          have c2 := (hw.cell (p := ⟨b, off + j * 7 + 2, none⟩) hbl).trans (hcv 2 _ rfl)
          have c3 := (hw.cell (p := ⟨b, off + j * 7 + 3, none⟩) hbl).trans (hcv 3 _ rfl)
          have c4 := (hw.cell (p := ⟨b, off + j * 7 + 4, none⟩) hbl).trans (hcv 4 _ rfl)
          have c5 := (hw.cell (p := ⟨b, off + j * 7 + 5, none⟩) hbl).trans (hcv 5 _ rfl)
          have c6 := (hw.cell (p := ⟨b, off + j * 7 + 6, none⟩) hbl).trans (hcv 6 _ rfl)
          have d0 := (hw.cell (p := ⟨b', off' + j * 7, none⟩) hbl').trans (hcv' 0 _ rfl)
          have d1 := (hw.cell (p := ⟨b', off' + j * 7 + 1, none⟩) hbl').trans (hcv' 1 _ rfl)
          have d2 := (hw.cell (p := ⟨b', off' + j * 7 + 2, none⟩) hbl').trans (hcv' 2 _ rfl)
          have d3 := (hw.cell (p := ⟨b', off' + j * 7 + 3, none⟩) hbl').trans (hcv' 3 _ rfl)
          have d4 := (hw.cell (p := ⟨b', off' + j * 7 + 4, none⟩) hbl').trans (hcv' 4 _ rfl)
          have d5 := (hw.cell (p := ⟨b', off' + j * 7 + 5, none⟩) hbl').trans (hcv' 5 _ rfl)
          have d6 := (hw.cell (p := ⟨b', off' + j * 7 + 6, none⟩) hbl').trans (hcv' 6 _ rfl)
          have HCA : Hid (∀ W : World, Below wr.heap.size wr W → Calls Try.prog 10 #[.agg #[.int .i64 k8, .int .i32 r8, .slice sa8 sn8 sc8, .bool nt8, .int .i64 l8, .int .i64 h8, .slice pa8 pn8 pc8], .agg #[.int .i64 k9, .int .i32 r9, .slice sa9 sn9 sc9, .bool nt9, .int .i64 l9, .int .i64 h9, .slice pa9 pn9 pc9]] W fun e w' => e = .returned (.bool (y.same y')) ∧ Below W.heap.size W w') := by
            intro W hW
            have hwW := hw.trans (hW.mono hw.size)
            exact HIH.out y.sz (Nat.lt_of_lt_of_le (sz_part (List.mem_of_getElem? hy)) HN.out) y y' F G _ _ W (Nat.le_refl _) (ReAt.frF (Fr.of_below (fun _ => False) hwW) (fun _ _ h => h) y hv) (ReAt.frF (Fr.of_below (fun _ => False) hwW) (fun _ _ h => h) y' hv')
          have hg : (j : Int) < (pn : Int) := by omega
          have HWQ := Lib.hid hw
          have HYY := Lib.hid (And.intro hy hy')
          clear hw hv hv' hcv hcv' hy hy'
          cases hsm : y.same y' with
          | true =>
            have HEQ := Lib.hid ((Re.same_iff y y').1 hsm)
            rw [hsm] at HCA
            clear hsm
            go_wp2_with fail
            go_still_tail 10, (by kernel_rfl)
            change wpList _ _ _ _ _ wr.drew
            go_wp2_with (go_at_call 10; refine (HCA.out _ (Below.refl _ _).drew).mono ?_; rintro e w8 ⟨rfl, hb8⟩; have HB8 := Lib.hid ((Below.refl wr.heap.size wr).drew.trans hb8); clear hb8)
            go_roundw
            case rel =>
              refine ⟨j + 1, by go_num, by omega, fun m hm => ?_, HQ.out.2.trans (HB8.out.mono HQ.out.2.size)⟩
              by_cases hmj : m = j
              · subst hmj; rw [HYY.out.1, HYY.out.2, HEQ.out]
              · exact HQ.out.1 m (by omega)
            case measure => simp [intOf]; omega
          | false =>
            have hF : res = false := by
              rw [HR3.out, Bool.eq_false_iff]
              intro e
              rw [sames_iff] at e
              have h := HYY.out
              rw [e, h.2] at h
              simp only [Option.some.injEq] at h
              rw [h.1.symm, (Re.same_iff y' y').2 rfl] at hsm
              cases hsm
            have HF := Lib.hid hF
            rw [hsm] at HCA
            clear hsm
            go_wp2_with fail
            go_still_tail 10, (by kernel_rfl)
            change wpList _ _ _ _ _ wr.drew
            go_wp2_with (go_at_call 10; refine (HCA.out _ (Below.refl _ _).drew).mono ?_; rintro e w8 ⟨rfl, hb8⟩; have HB8 := Lib.hid ((Below.refl wr.heap.size wr).drew.trans hb8); clear hb8)
            go_ret
            exact ⟨by rw [HF.out]; rfl, HWQ.out.trans (HB8.out.mono HWQ.out.size)⟩
        · obtain rfl : j = pn := by omega
          have hT : res = true := by
            rw [HR3.out, sames_iff]
            refine List.ext_getElem? fun m => ?_
            by_cases hm : m < j
            · exact HQ.out.1 m hm
            · rw [List.getElem?_eq_none (by have := H2.out; omega), List.getElem?_eq_none (by have := H2'.out; omega)]
          have HT := Lib.hid hT
          clear hT
          go_wp2
          go_ret
          exact ⟨by rw [HT.out]; rfl, HB1.out.trans (HQ.out.2.mono HB1.out.size)⟩
theorem same_all : ∀ n, SameP n := fun n => Nat.strongRecOn n same_step
theorem same_any (x y : Re) (F G : Nat → Prop) (v u : List Value) (w : World) (hx : ReAt F w v x) (hy : ReAt G w u y) :
    Calls Try.prog 10 #[.agg v.toArray, .agg u.toArray] w fun e w' => e = .returned (.bool (x.same y)) ∧ Below w.heap.size w w' := same_all x.sz x y F G v u w (Nat.le_refl _) hx hy
end Go.Proofs.Ytkjiobbkbhmijaa.U
