/-
  The contracts of row.put, row.drop.
-/
import Derived.Test.YtndlebopfojjeaaPRow
namespace Go.Proofs.Ytndlebopfojjeaa.U
open Go.RowKit
set_option linter.unusedVariables false
set_option linter.unusedSimpArgs false
set_option maxRecDepth 100000

/-- A row, its list of pieces its alone or not. -/
def RowIs (w : World) (bt : Nat) (f a s : Value) (v : Value) (len : Int) (rem : Bool) (ps : List Pc) : Prop :=
  TB w bt f a v len rem s ∧ w.ownsRow 0 105 3 v ps.length (flatP ps)
/-- what a change of it may touch -/
def touchR (bt : Nat) (rem : Bool) (v : Value) (k : Nat) : Prop := k = bt ∨ (rem = false ∧ some k = v.ownBlock)
/-- where it lies behind a change -/
def NearR (w : World) (rem : Bool) (v v' : Value) : Prop := (rem = false ∧ v'.ownBlock = v.ownBlock) ∨ ∀ k, v'.ownBlock = some k → w.heap.size ≤ k

theorem own_any (bt : Nat) (f a s : Value) (v : Value) (rem : Bool) (ps : List Pc) (len : Int) (w : World) (h : RowIs w bt f a s v len rem ps) (hn : ps.length ≤ 1073741824) :
    Calls Try.prog 69 #[.pointer (some ⟨bt, 2, none⟩)] w fun e w' => e = .returned (.tuple #[]) ∧ ∃ v', RowAt w' bt f a s v' len ps ∧ Fr (· = bt) w w' ∧ NearR w rem v v' := by
  obtain ⟨hT, hO⟩ := h
  cases rem with
  | false =>
    refine (own_not bt f a v s len w hT).mono ?_
    rintro e w' ⟨rfl, rfl⟩
    exact ⟨rfl, v, ⟨hT, hO⟩, Fr.refl _ _, .inl ⟨rfl, rfl⟩⟩
  | true =>
    obtain ⟨ap, cp, rfl⟩ := own_slice hO
    refine (own_is bt f a s ap cp ps len w hT (RdP.own hO) hn).mono ?_
    rintro e w' ⟨rfl, h1, h2, h3⟩
    exact ⟨rfl, _, ⟨h1, own_mono h2 (Nat.zero_le _)⟩, h3, .inr (fun k hk => (h2.lt k hk).1)⟩

theorem touch_R {w : World} {bt : Nat} {rem : Bool} {v v1 : Value} (h : NearR w rem v v1) : ∀ k, k < w.heap.size → touch bt v1 k → touchR bt rem v k := by
  rintro k hk (rfl | e)
  · exact .inl rfl
  · rcases h with ⟨h1, h2⟩ | h
    · exact .inr ⟨h1, by rw [← h2]; exact e⟩
    · have := h k e.symm; omega
theorem near_R {w w1 : World} {rem : Bool} {v v1 v2 : Value} (h : NearR w rem v v1) (hs : w.heap.size ≤ w1.heap.size) (h2 : Near w1 v1 v2) : NearR w rem v v2 := by
  rcases h2 with h2 | h2
  · rcases h with ⟨h1, h3⟩ | h
    · exact .inl ⟨h1, h2.trans h3⟩
    · exact .inr (fun k hk => h k (by rw [← h2]; exact hk))
  · exact .inr (fun k hk => Nat.le_trans hs (h2 k hk))
theorem oks.lims {nf na : Nat} {ps : List Pc} (h : oks nf na ps) (hf : nf ≤ lim) (hg : na ≤ lim) : ∀ p ∈ ps, p.fr ≤ p.to ∧ p.to ≤ lim := by
  intro p hp
  obtain ⟨h1, h2⟩ := h p hp
  refine ⟨by omega, ?_⟩
  split at h2 <;> omega
theorem oks.count {nf na : Nat} {ps : List Pc} (h : oks nf na ps) : ps.length ≤ sumL ps := by
  induction ps with
  | nil => simp
  | cons p r ih =>
    have h1 := (h p (by simp)).1
    have h2 := ih (fun q hq => h q (by simp [hq]))
    rw [sumL_cons, List.length_cons]
    unfold Pc.len
    omega

theorem drop_0 (bt : Nat) (n : Int) (w : World) : Calls Try.prog 108 #[.pointer (some ⟨bt, 2, none⟩), .int .i64 n, .int .i64 0] w fun e w' => e = .returned (.tuple #[]) ∧ w = w' := by
  go_enter Try.func108, Try.ntmps108
  go_wp2
  refine bodyPost_ret (results_none rfl _ _ _) rfl ?_
  exact ⟨rfl, rfl⟩

set_option maxHeartbeats 1000000 in
theorem drop_any (bt : Nat) (f a s : Value) (v : Value) (rem : Bool) (ps : List Pc) (fs gs : List Int) (n m : Nat) (w : World) (h : RowIs w bt f a s v (sumL ps : Nat) rem ps) (hok : oks fs.length gs.length ps) (hf : fs.length ≤ lim) (hg : gs.length ≤ lim)
    (hs : sumL ps ≤ 65536) (hn : n + m ≤ sumL ps) (hm : 0 < m) :
    Calls Try.prog 108 #[.pointer (some ⟨bt, 2, none⟩), .int .i64 n, .int .i64 m] w fun e w' => e = .returned (.tuple #[]) ∧ ∃ v', RowAt w' bt f a s v' ((sumL ps - m : Nat) : Int) (dropM ps n m) ∧ Fr (touchR bt rem v) w w' ∧ NearR w rem v v' := by
  have hcnt := hok.count
  have hl := hok.lims hf hg
  obtain ⟨k1, k2, k3, k4, k5, k6, k7⟩ := cutM_spec hok (show n ≤ sumL ps by omega)
  have hs1 : sumL (cutM ps n).1 = sumL ps := by rw [← cont_len k1, k4, cont_len hok]
  obtain ⟨j1, j2, j3, j4, j5, j6, j7⟩ := cutM_spec k1 (show n + m ≤ sumL (cutM ps n).1 by omega)
  obtain ⟨d1, d2, d3, d4, d5⟩ := dropM_spec hok hn hm
  have hl1 := k1.lims hf hg
  have hbt := h.1.lt
  have HOWN := Lib.hid (own_any bt f a s v rem ps (sumL ps : Nat) w h (by omega))
  have HC1 : Hid (∀ v1 w1, RowAt w1 bt f a s v1 (sumL ps : Nat) ps → _) := fun v1 w1 h1 => cut_any bt f a s v1 ps (sumL ps : Nat) n w1 h1 hl (by omega) (by unfold lim; omega) (by omega)
  have HC2 : Hid (∀ v1 w1, RowAt w1 bt f a s v1 (sumL ps : Nat) (cutM ps n).1 → _) := fun v1 w1 h1 => cut_any bt f a s v1 (cutM ps n).1 (sumL ps : Nat) (n + m) w1 h1 hl1 (by omega) (by unfold lim; omega) (by omega)
  unfold dropM at d1 d2 d3 ⊢
  obtain ⟨⟨qs, i⟩, hq⟩ : ∃ q, cutM ps n = q := ⟨_, rfl⟩
  rw [hq] at HC1 HC2 d3 d4 d5 k5 j5 ⊢
  simp only at HC1 HC2 d3 d4 d5 k5 j5 ⊢
  obtain ⟨⟨rs, j⟩, hr⟩ : ∃ q, cutM qs (n + m) = q := ⟨_, rfl⟩
  rw [hr] at HC2 d3 d4 d5 j5 ⊢
  simp only at HC2 d3 d4 d5 j5 ⊢
  have HD : Hid (∀ a' c' (w1 : World), w1.ownsRow 0 105 3 (.slice a' rs.length c') rs.length (flatP rs) → _) := fun a' c' w1 h1 => delete_any a' rs.length c' i j rs 0 w1 h1 d4 d5 (by omega)
  have hm0 : ((m : Int) == 0) = false := by simp; omega
  obtain ⟨S, hS⟩ : ∃ S, sumL ps = S := ⟨_, rfl⟩
  rw [hS] at HOWN HC1 HC2 hs hn ⊢
  rw [show ((S - m : Nat) : Int) = (S : Int) - (m : Int) from by omega]
  have HRL : Hid ((rs.take i ++ rs.drop j).length = i + (rs.length - j)) := by show _ = _; simp; omega
  clear k1 k2 k3 k4 k5 k6 k7 hs1 j1 j2 j3 j4 j5 j6 j7 d1 d2 d3 hl1 hl hq hr hS hok h
  go_enter Try.func108, Try.ntmps108
  go_wp2_with fail
  refine HOWN.out.mono ?_
  rintro e w1 ⟨rfl, v1, hR1, hF1, hN1⟩
  go_wp2_with fail
  refine (HC1.out v1 _ hR1).mono ?_
  rintro e w2 ⟨rfl, v2, hR2, hF2, hN2⟩
  go_wp2_with fail
  refine (HC2.out v2 _ hR2).mono ?_
  rintro e w3 ⟨rfl, v3, hR3, hF3, hN3⟩
  obtain ⟨a3, c3, rfl⟩ := own_slice hR3.2
  have t2 := hR3.1.c2
  have HR3 := Lib.hid hR3
  have l3 := hR3.1.lt
  have HN13 : Hid (NearR w rem v (.slice a3 rs.length c3)) := near_R (near_R hN1 hF1.size hN2) (Nat.le_trans hF1.size hF2.size) hN3
  have HF13 : Hid (Fr (touchR bt rem v) w w3) := ((hF1.mono (fun k _ e => .inl e)).trans hF2 (touch_R hN1)).trans hF3 (touch_R (near_R hN1 hF1.size hN2))
  have hlt13 := HF13.out.size
  clear hR1 hF1 hN1 hR2 hF2 hN2 hF3 hN3 hR3
  go_wp2_with fail
  refine (HD.out a3 c3 _ HR3.out.2).mono ?_
  rintro e w4 ⟨rfl, hO4, hF4⟩
  have hT4 : TB w4 bt f a (.slice a3 rs.length c3) (S : Nat) false s := HR3.out.1.keep (hF4.block bt l3 (fun e => (row_block_apart HR3.out.2 HR3.out.1 (by decide) e.symm) rfl))
  have t42 := hT4.c2
  have t43 := hT4.c3
  have f42 := hT4.fz 2
  have f43 := hT4.fz 3
  have l4 := hT4.lt
  have HT4 := Lib.hid hT4
  have HO4 := Lib.hid hO4
  have HF4 := Lib.hid hF4
  clear hT4 hO4 hF4 t2
  go_wp2_with fail
  go_end0
  refine ⟨rfl, _, ⟨(HT4.out.set2 _).set3 _, ?_⟩, ?_, near_R (w1 := w) HN13.out (Nat.le_refl _) (.inl (by cases a3 <;> rfl))⟩
  · rw [HRL.out]
    exact own_block HO4.out (fun k hk => by
      have hne := row_block_apart HO4.out HT4.out (by decide) hk
      rw [Below.heap_setCell _ _ _ _ (by exact hne), Below.heap_setCell _ _ _ _ (by exact hne)])
  · have hF := HF13.out.trans HF4.out (fun k hk e => touch_R HN13.out k hk (.inr e))
    exact (hF.setCell ⟨bt, 2, none⟩ _ (fun _ => .inl rfl)).setCell ⟨bt, 3, none⟩ _ (fun _ => .inl rfl)

theorem put_0 (bt : Nat) (n : Int) (ad : Bool) (fr : Nat) (w : World) (hl : fr ≤ lim) : Calls Try.prog 61 #[.pointer (some ⟨bt, 2, none⟩), .int .i64 n, .agg #[.bool ad, .int .i64 fr, .int .i64 fr]] w fun e w' => e = .returned (.tuple #[]) ∧ Below w.heap.size w w' := by
  have hlen := fun w => length_any ad fr fr w (Nat.le_refl _) hl
  rw [show ((fr - fr : Nat) : Int) = 0 from by simp] at hlen
  have HLEN := Lib.hid hlen
  clear hlen
  go_enter Try.func61, Try.ntmps61
  go_wp2_with (go_at_call 68; refine (HLEN.out _).mono ?_; rintro e w' ⟨rfl, rfl⟩)
  refine bodyPost_ret (results_none rfl _ _ _) rfl ?_
  exact ⟨rfl, ((Below.refl _ w).alloc (Nat.le_refl _) _).alloc (by simp) _⟩

theorem RowIs.below {w w' : World} {bt : Nat} {f a s v : Value} {len : Int} {rem : Bool} {ps : List Pc} (h : RowIs w bt f a s v len rem ps) (hb : Below w.heap.size w w') : RowIs w' bt f a s v len rem ps :=
  ⟨h.1.below hb, own_fr h.2 (Fr.of_below (fun _ => False) hb) (fun _ _ h => h)⟩
/-- what holds between put's steps -/
def PutS (w : World) (bt : Nat) (f a s v : Value) (rem : Bool) (ad : Bool) (fr tt : Nat) (len : Int) (v2 : Value) (qs : List Pc) (wx : World) : Prop :=
  RowAt wx bt f a s v2 len qs ∧ wx.heap[w.heap.size]? = some (.cells #[.bool ad, .int .i64 fr, .int .i64 tt] 105 (0, 0)) ∧ Fr (touchR bt rem v) w wx ∧ NearR w rem v v2 ∧ v2.ownBlock ≠ some w.heap.size
theorem PutS.below {w : World} {bt : Nat} {f a s v : Value} {rem : Bool} {ad : Bool} {fr tt : Nat} {len : Int} {v2 : Value} {qs : List Pc} {wx wy : World} (h : PutS w bt f a s v rem ad fr tt len v2 qs wx) (hb : Below wx.heap.size wx wy) : PutS w bt f a s v rem ad fr tt len v2 qs wy := by
  obtain ⟨⟨h1, h2⟩, h3, h4, h5, h6⟩ := h
  exact ⟨⟨h1.below hb, own_fr h2 (Fr.of_below (fun _ => False) hb) (fun _ _ h => h)⟩, (hb.block _ (heap_lt h3)).trans h3, h4.trans (Fr.of_below (fun _ => False) hb) (fun _ _ h => h.elim), h5, h6⟩
theorem PutS.len {w : World} {bt : Nat} {f a s v : Value} {rem : Bool} {ad : Bool} {fr tt : Nat} {len len' : Int} {v2 : Value} {qs : List Pc} {wx : World} (h : PutS w bt f a s v rem ad fr tt len v2 qs wx) (hbt : bt < w.heap.size) : PutS w bt f a s v rem ad fr tt len' v2 qs (wx.setCell ⟨bt, 3, none⟩ (.int .i64 len')) := by
  obtain ⟨⟨h1, h2⟩, h3, h4, h5, h6⟩ := h
  refine ⟨⟨h1.set3 _, own_block h2 (fun k hk => Below.heap_setCell _ _ _ _ (row_block_apart h2 h1 (by decide) hk))⟩, ?_, h4.setCell _ _ (fun _ => .inl rfl), h5, h6⟩
  exact (Below.heap_setCell _ _ _ _ (by exact Nat.ne_of_gt hbt)).trans h3

theorem PutS.start {w W0 w1 w2 : World} {bt : Nat} {f a s v v1 v2 : Value} {rem : Bool} {ad : Bool} {fr tt : Nat} {len : Int} {ps qs : List Pc} (h : RowIs w bt f a s v len rem ps) (hb : Below w.heap.size w W0) (hbox : W0.heap[w.heap.size]? = some (.cells #[.bool ad, .int .i64 fr, .int .i64 tt] 105 (0, 0)))
    (hF1 : Fr (· = bt) W0 w1) (hN1 : NearR W0 rem v v1) (hR2 : RowAt w2 bt f a s v2 len qs) (hF2 : Fr (touch bt v1) w1 w2) (hN2 : Near w1 v1 v2) : PutS w bt f a s v rem ad fr tt len v2 qs w2 := by
  have hbt := h.1.lt
  have hlt0 := heap_lt hbox
  have hn1 : NearR w rem v v1 := by
    rcases hN1 with h1 | h1
    · exact .inl h1
    · exact .inr (fun k hk => Nat.le_trans hb.size (h1 k hk))
  have hv1 : v1.ownBlock ≠ some w.heap.size := by
    intro e
    rcases hN1 with ⟨_, h2⟩ | h1
    · rw [h2] at e
      have := (h.2.lt _ e).2
      omega
    · have := h1 _ e
      omega
  have hs01 := Nat.le_trans hb.size hF1.size
  refine ⟨hR2, ?_, ?_, near_R hn1 hs01 hN2, ?_⟩
  · rw [hF2.block _ (Nat.lt_of_lt_of_le hlt0 hF1.size) (by rintro (e | e); omega; exact hv1 e.symm), hF1.block _ hlt0 (by omega)]
    exact hbox
  · exact (((Fr.of_below (touchR bt rem v) hb).trans hF1 (fun _ _ e => .inl e)).trans hF2 (touch_R hn1))
  · intro e
    rcases hN2 with h2 | h2
    · exact hv1 (h2.symm.trans e)
    · have := h2 _ e
      have := hF1.size
      omega

theorem touch_R2 {w : World} {bt : Nat} {rem : Bool} {v v2 : Value} (h : NearR w rem v v2) {B : Nat} (hB : B < w.heap.size) (e : v2.ownBlock = some B := by rfl) : touchR bt rem v B := touch_R h B hB (.inr e.symm)
theorem flatP_set (ps : List Pc) (k t : Nat) (hk : k < ps.length) : (flatP ps).set (k * 3 + 2) (.int .i64 t) = flatP (ps.set k ⟨(ps.getD k default).ad, (ps.getD k default).fr, t⟩) := by
  have hg : ps.getD k default = ps[k] := by rw [List.getD_eq_getElem?_getD, List.getElem?_eq_getElem hk]; rfl
  rw [hg]
  have e1 : ps = ps.take k ++ ps[k] :: ps.drop (k + 1) := by rw [← List.drop_eq_getElem_cons hk, List.take_append_drop]
  have e2 : (flatP ps) = flatP (ps.take k) ++ (ps[k].cells ++ flatP (ps.drop (k + 1))) := by
    conv => lhs; rw [e1]
    rw [flatP_append, flatP_cons]
  have hl : (flatP (ps.take k)).length = k * 3 := by rw [flatP_len, List.length_take, Nat.min_eq_left (by omega)]
  rw [List.set_eq_take_append_cons_drop (l := ps), if_pos hk, flatP_append, flatP_cons, e2, List.set_append_right _ _ (by omega), hl, show k * 3 + 2 - k * 3 = 2 from by omega]
  rfl
theorem own_put {w : World} {B : Nat} {e : TypeId} {g n cap m : Nat} {ps : List Pc} (h : w.ownsRow B e 3 (.slice (some ⟨g, 0, none⟩) n cap) m (flatP ps)) {k : Nat} (hk : k < ps.length) (t : Nat) :
    ((∃ u, w.cell? ⟨g, k * 3 + 2, none⟩ = some u) ∧ w.frozen? ⟨g, k * 3 + 2, none⟩ = false) ∧ (w.setCell ⟨g, k * 3 + 2, none⟩ (.int .i64 t)).ownsRow B e 3 (.slice (some ⟨g, 0, none⟩) n cap) m (flatP (ps.set k ⟨(ps.getD k default).ad, (ps.getD k default).fr, t⟩)) := by
  have hl := flatP_len ps
  obtain ⟨h1, h2⟩ := h
  rcases h2 with ⟨hv, _⟩ | ⟨g', c, cur, hv, hB, hh, hnc, hcm, hcs, hx⟩
  · cases hv
  · simp only [Value.slice.injEq, Option.some.injEq, Addr.mk.injEq, and_true] at hv
    obtain ⟨rfl, rfl, rfl⟩ := hv
    have hj : k * 3 + 2 < (flatP ps).length := by omega
    have hjc : k * 3 + 2 < cur.size := by
      rw [← hx, List.length_take, Array.length_toList] at hj
      omega
    refine ⟨⟨⟨cur[k * 3 + 2], by rw [cell_row hh]; simp [hjc]⟩, frozen_row hh _⟩, ?_⟩
    rw [← flatP_set ps k t hk]
    refine ⟨by simpa using h1, .inr ⟨g, cap, cur.setIfInBounds (k * 3 + 2) (.int .i64 t), rfl, hB, heap_set hh _ _, hnc, hcm, by simpa using hcs, ?_⟩⟩
    rw [Array.toList_setIfInBounds, List.take_set, hx]

theorem put_end {w3 : World} {bt : Nat} {f a s u v' : Value} {len : Int} {ps : List Pc} {i : Nat} {x : Pc} (hown : w3.ownsRow 0 105 3 v' (ps.length + 1) (flatP (ps.take i ++ x :: ps.drop i))) (hTB : TB w3 bt f a u len false s) (hi : i ≤ ps.length) :
    RowAt (w3.setCell ⟨bt, 2, none⟩ v') bt f a s v' len (ps.take i ++ x :: ps.drop i) := by
  refine ⟨hTB.set2 _, ?_⟩
  have e : (ps.take i ++ x :: ps.drop i).length = ps.length + 1 := by simp; omega
  rw [e]
  exact own_block hown (fun k hk => Below.heap_setCell _ _ _ _ (row_block_apart hown hTB (by decide) hk))
theorem put_fr {w wb w3 : World} {bt : Nat} {rem : Bool} {v v2 u : Value} (h1 : Fr (touchR bt rem v) w wb) (h3 : Fr (own1 v2) wb w3) (hn : NearR w rem v v2) : Fr (touchR bt rem v) w (w3.setCell ⟨bt, 2, none⟩ u) :=
  (h1.trans h3 (fun k hk e => touch_R hn k hk (.inr e))).setCell _ _ (fun _ => .inl rfl)

set_option maxHeartbeats 4000000 in
theorem put_any (bt : Nat) (f a s : Value) (v : Value) (rem : Bool) (ps : List Pc) (fs gs : List Int) (n : Nat) (ad : Bool) (fr tt : Nat) (w : World) (h : RowIs w bt f a s v (sumL ps : Nat) rem ps) (hok : oks fs.length gs.length ps) (hp : (Pc.mk ad fr tt).ok fs.length gs.length) (hf : fs.length ≤ lim) (hg : gs.length ≤ lim)
    (hs : sumL ps + (tt - fr) ≤ 65536) (hn : n ≤ sumL ps) :
    Calls Try.prog 61 #[.pointer (some ⟨bt, 2, none⟩), .int .i64 n, .agg #[.bool ad, .int .i64 fr, .int .i64 tt]] w fun e w' => e = .returned (.tuple #[]) ∧ ∃ v', RowAt w' bt f a s v' ((sumL ps + (tt - fr) : Nat) : Int) (putM ps n ⟨ad, fr, tt⟩) ∧ Fr (touchR bt rem v) w w' ∧ NearR w rem v v' := by
  have hcnt := hok.count
  have hl := hok.lims hf hg
  obtain ⟨k1, k2, k3, k4, k5, k6, k7⟩ := cutM_spec hok hn
  obtain ⟨p1, p2⟩ := hp
  simp only at p1 p2
  have p3 : tt ≤ 1099511627776 := by unfold lim at hf hg; split at p2 <;> omega
  have hl1 := k1.lims hf hg
  have hbt := h.1.lt
  have hlen := fun w => length_any ad fr tt w (by omega) p3
  obtain ⟨d, hd⟩ : ∃ d, tt - fr = d := ⟨_, rfl⟩
  rw [hd] at hlen hs ⊢
  have HLEN := Lib.hid hlen
  have HOWN : Hid (∀ w1, RowIs w1 bt f a s v (sumL ps : Nat) rem ps → _) := fun w1 h1 => own_any bt f a s v rem ps (sumL ps : Nat) w1 h1 (by omega)
  have HC1 : Hid (∀ v1 w1, RowAt w1 bt f a s v1 (sumL ps : Nat) ps → _) := fun v1 w1 h1 => cut_any bt f a s v1 ps (sumL ps : Nat) n w1 h1 hl (by omega) (by unfold lim; omega) (by omega)
  have hput : putM ps n ⟨ad, fr, tt⟩ = putM ps n ⟨ad, fr, tt⟩ := rfl
  unfold putM at hput ⊢
  obtain ⟨⟨qs, i⟩, hq⟩ : ∃ q, cutM ps n = q := ⟨_, rfl⟩
  rw [hq] at HC1 k2 k5 hl1 ⊢
  simp only at HC1 k2 k5 hl1 ⊢
  obtain ⟨S, hS⟩ : ∃ S, sumL ps = S := ⟨_, rfl⟩
  rw [hS] at HOWN HC1 hs hn h hcnt ⊢
  rw [show ((S + d : Nat) : Int) = (S : Int) + (d : Int) from by omega]
  have hd0 : ((d : Int) == 0) = false := by simp; omega
  have hd1 : d ≤ 1099511627776 := by omega
  have H := Lib.hid h
  obtain ⟨J, hJ⟩ : ∃ J, joinB qs i ⟨ad, fr, tt⟩ = J := ⟨_, rfl⟩
  rw [hJ]
  have HJ := Lib.hid hJ
  clear hJ
  clear hlen hq hS hput k1 k3 k4 k6 k7 hok hl h hd
  go_enter Try.func61, Try.ntmps61
  go_wp2_with (go_at_call 68; refine (HLEN.out _).mono ?_; rintro e w' ⟨rfl, rfl⟩)
  refine (HOWN.out _ (H.out.below (((Below.refl _ w).alloc (Nat.le_refl _) _).alloc (by simp) _))).mono ?_
  rintro e w1 ⟨rfl, v1, hR1, hF1, hN1⟩
  go_wp2_with fail
  refine (HC1.out v1 _ hR1).mono ?_
  rintro e w2 ⟨rfl, v2, hR2, hF2, hN2⟩
  have HS : Hid (PutS w bt f a s v rem ad fr tt (S : Nat) v2 qs w2) := PutS.start H.out (((Below.refl _ w).alloc (Nat.le_refl _) _).alloc (by simp) _) ((Below.heap_alloc _ _ _ (by simp)).trans (heap_alloc_new w _)) hF1 hN1 hR2 hF2 hN2
  obtain ⟨a2, c2, rfl⟩ := own_slice hR2.2
  clear hR1 hF1 hN1 hR2 hF2 hN2
  have x0 : w2.cell? ⟨w.heap.size, 0, none⟩ = some (.bool ad) := cell_row HS.out.2.1 0
  have x1 : w2.cell? ⟨w.heap.size, 1, none⟩ = some (.int .i64 fr) := cell_row HS.out.2.1 1
  have x2 : w2.cell? ⟨w.heap.size, 2, none⟩ = some (.int .i64 tt) := cell_row HS.out.2.1 2
  have t3 := HS.out.1.1.c3
  have g3 := HS.out.1.1.fz 3
  have l2 := HS.out.1.1.lt
  have lb := heap_lt HS.out.2.1
  obtain ⟨B, hB⟩ : ∃ B, w.heap.size = B := ⟨_, rfl⟩
  have HBE := Lib.hid hB
  rw [hB] at x0 x1 x2 lb ⊢
  have hSd : IntKind.i64.wrap ((S : Int) + (d : Int)) = (S : Int) + (d : Int) := by rw [IntKind.wrap_i64]; omega
  clear hB
  go_upto_region 4 with fail
  go_cut [15] (fun s15 wx => PutS w bt f a s v rem ad fr tt ((S : Int) + (d : Int)) (.slice a2 qs.length c2) qs wx)
  case first =>
    go_region_with (go_at_call 68; refine (HLEN.out _).mono ?_; rintro e w' ⟨rfl, rfl⟩)
    all_goals
      go_wp2_with fail
      go_meet
      exact (PutS.len HS.out hbt).below (((Below.refl _ _).alloc (Nat.le_refl _) _).drew)
  case rest =>
    obtain ⟨wa, hwa⟩ : ∃ wa, wa = wc := ⟨_, rfl⟩
    subst hwa
    have HA := Lib.hid hcut
    clear hcut x0 x1 x2 t3 g3 l2 lb HS
    have hbox := HA.out.2.1
    rw [HBE.out] at hbox
    have x0 : wa.cell? ⟨B, 0, none⟩ = some (.bool ad) := cell_row hbox 0
    have x1 : wa.cell? ⟨B, 1, none⟩ = some (.int .i64 fr) := cell_row hbox 1
    have x2 : wa.cell? ⟨B, 2, none⟩ = some (.int .i64 tt) := cell_row hbox 2
    have lb := heap_lt hbox
    have l2 := HA.out.1.1.lt
    have t2 := HA.out.1.1.c2
    obtain ⟨L, hL⟩ : ∃ L, qs.length = L := ⟨_, rfl⟩
    rw [hL] at t2 k2
    have HL := Lib.hid hL
    clear hbox hL
    go_upto_region 5 with fail
    go_cut [53] (fun c wx => c = .bool J ∧ PutS w bt f a s v rem ad fr tt ((S : Int) + (d : Int)) (.slice a2 qs.length c2) qs wx)
    case first =>
      by_cases hi0 : i = 0
      · subst hi0
        have hj : J = false := by rw [← HJ.out]; rfl
        have HJv := Lib.hid hj
        have hz : decide ((0 : Int) < 0) = false := by decide
        clear hj
        go_quiet (fail)
        go_wp2_with fail
        go_meet
        exact ⟨by rw [HJv.out], HA.out.below (bdrewN (Below.refl _ _) _)⟩
      · obtain ⟨k, rfl⟩ : ∃ k, i = k + 1 := ⟨i - 1, by omega⟩
        obtain ⟨g, rfl⟩ := own_some HA.out.1.2 (by have := HL.out; omega)
        have hk : k < qs.length := by have := HL.out; omega
        obtain ⟨b', off', ha, hgl, hc⟩ := (RdP.own HA.out.1.2).at_ (by omega)
        simp only [Option.some.injEq, Addr.mk.injEq, and_true] at ha
        obtain ⟨rfl, rfl⟩ := ha
        obtain ⟨c0, c1, c2'⟩ := hc k _ (List.getElem?_eq_getElem hk)
        simp only [Nat.zero_add] at c0 c2'
        have hjj : J = ((qs[k].ad == ad) && decide (qs[k].to = fr)) := by
          rw [← HJ.out]
          unfold joinB
          rw [show k + 1 - 1 = k from rfl, List.getD_eq_getElem?_getD, List.getElem?_eq_getElem hk]
          simp
        obtain ⟨x, hx⟩ : ∃ x, qs[k] = x := ⟨_, rfl⟩
        rw [hx] at c0 c2' hjj
        obtain ⟨xa, xf, xt⟩ := x
        simp only at c0 c2' hjj
        have HJJ := Lib.hid hjj
        have i1 : (0 : Int) ≤ (k : Int) := by omega
        have i2 : (k : Int) < (L : Int) := by omega
        have i3 : IntKind.i64.wrap ((k : Int) + 1 - 1) = (k : Int) := by rw [IntKind.wrap_i64]; omega
        have i4 : (0 : Int) < (k : Int) + 1 := by omega
        clear hc c1 hx hjj hi0
        by_cases ha : xa = ad
        · by_cases hb : xt = fr
          · have hj : J = true := by rw [HJJ.out, ha, hb]; simp
            have HJv := Lib.hid hj
            have e1 : (xa == ad) = true := by rw [ha]; simp
            have e2 : ((xt : Int) == (fr : Int)) = true := by rw [hb]; simp
            clear hj ha hb
            go_quiet (fail)
            go_wp2_with fail
            go_meet
            exact ⟨by rw [HJv.out], HA.out.below (bdrewN (Below.refl _ _) _)⟩
          · have hj : J = false := by rw [HJJ.out]; simp [hb]
            have HJv := Lib.hid hj
            have e1 : (xa == ad) = true := by rw [ha]; simp
            have e2 : ((xt : Int) == (fr : Int)) = false := by simp; omega
            clear hj ha hb
            go_quiet (fail)
            go_wp2_with fail
            go_meet
            exact ⟨by rw [HJv.out], HA.out.below (bdrewN (Below.refl _ _) _)⟩
        · have hj : J = false := by rw [HJJ.out]; simp [ha]
          have HJv := Lib.hid hj
          have e1 : (xa == ad) = false := by simp [ha]
          clear hj ha
          go_quiet (fail)
          go_wp2_with fail
          go_meet
          exact ⟨by rw [HJv.out], HA.out.below (bdrewN (Below.refl _ _) _)⟩
    case rest =>
      obtain ⟨rfl, hcut⟩ := hcut
      obtain ⟨wb, hwb⟩ : ∃ wb, wb = wc := ⟨_, rfl⟩
      subst hwb
      have HA2 := Lib.hid hcut
      clear hcut x0 x1 x2 lb l2 t2 HA
      have hbox := HA2.out.2.1
      rw [HBE.out] at hbox
      have x0 : wb.cell? ⟨B, 0, none⟩ = some (.bool ad) := cell_row hbox 0
      have x1 : wb.cell? ⟨B, 1, none⟩ = some (.int .i64 fr) := cell_row hbox 1
      have x2 : wb.cell? ⟨B, 2, none⟩ = some (.int .i64 tt) := cell_row hbox 2
      have lb := heap_lt hbox
      have l2 := HA2.out.1.1.lt
      have t2 := HA2.out.1.1.c2
      rw [HL.out] at t2
      clear hbox
      cases J with
      | true =>
        have hjb := HJ.out
        unfold joinB at hjb
        simp only [Bool.and_eq_true, decide_eq_true_eq] at hjb
        obtain ⟨hi0, _⟩ := hjb
        obtain ⟨k, rfl⟩ : ∃ k, i = k + 1 := ⟨i - 1, by omega⟩
        obtain ⟨g, rfl⟩ := own_some HA2.out.1.2 (by have := HL.out; omega)
        have hk : k < qs.length := by have := HL.out; omega
        have hks := own_put HA2.out.1.2 hk tt
        obtain ⟨⟨u2, c2'⟩, f2'⟩ := hks.1
        have HKS := Lib.hid hks.2
        have HK := Lib.hid hk
        have hgl := (HA2.out.1.2.lt g rfl).2
        have hgb := row_block_apart HA2.out.1.2 HA2.out.1.1 (by decide) rfl
        have i1 : (0 : Int) ≤ (k : Int) := by omega
        have i2 : (k : Int) < (L : Int) := by omega
        have i3 : IntKind.i64.wrap ((k : Int) + 1 - 1) = (k : Int) := by rw [IntKind.wrap_i64]; omega
        have i5 : IntKind.i64.wrap (k : Int) = (k : Int) := by rw [IntKind.wrap_i64]; omega
        clear hi0 hks hk
        go_wp2_with fail
        go_region
        all_goals
          go_wp2_with fail
          refine bodyPost_ret (results_none rfl _ _ _) rfl ?_
          refine ⟨rfl, _, ⟨HA2.out.1.1.keep (Below.heap_setCell _ _ _ _ (by exact Ne.symm hgb)), ?_⟩, (HA2.out.2.2.1.setCell _ _ (fun h => touch_R2 HA2.out.2.2.2.1 h)).drew, HA2.out.2.2.2.1⟩
          have hks := HKS.out
          simp only [List.getD_eq_getElem?_getD] at hks
          rw [List.length_set]
          exact hks
      | false =>
        have hgB : (Value.slice a2 qs.length c2).ownBlock ≠ some B := by rw [← HBE.out]; exact HA2.out.2.2.2.2
        have HINS : Hid (∀ W2, Below wb.heap.size wb W2 → W2.heap[wb.heap.size]? = some (.cells #[.bool ad, .int .i64 fr, .int .i64 tt] 105 (0, 0)) →
            Calls Try.prog 71 #[.slice a2 L c2, .int .i64 i, .slice (some ⟨wb.heap.size, 0, none⟩) 1 1] W2 fun e w' => ∃ v', e = .returned v' ∧
              w'.ownsRow 0 105 3 v' (qs.length + 1) (flatP (qs.take i ++ ⟨ad, fr, tt⟩ :: qs.drop i)) ∧ Fr (own1 (.slice a2 qs.length c2)) wb w' ∧ Near wb (.slice a2 qs.length c2) v' ∧ TB w' bt f a (.slice a2 qs.length c2) ((S : Int) + (d : Int)) false s) := by
          intro W2 hW2 hh
          have hO := HA2.out.1.2
          have hO2 : W2.ownsRow 0 105 3 (.slice a2 qs.length c2) qs.length (flatP qs) := own_fr hO (Fr.of_below (fun _ => False) hW2) (fun _ _ h => h)
          have hc := insert_any a2 qs.length c2 i wb.heap.size ⟨ad, fr, tt⟩ qs W2 hO2 hh (fun k' e => by have := (hO.lt k' e).2; omega) (by have := HL.out; omega) (by omega)
          have hT := HA2.out.1.1
          rw [HL.out] at hc hT ⊢
          refine hc.mono ?_
          rintro e w' ⟨v', rfl, h1, h2, h3⟩
          refine ⟨v', rfl, h1, (Fr.of_below (own1 (.slice a2 L c2)) hW2).trans h2 (fun _ _ h => h), ?_, ?_⟩
          · rcases h3 with h3 | h3
            · exact .inl h3
            · exact .inr (fun k hk => Nat.le_trans hW2.size (h3 k hk))
          · exact (hT.below hW2).keep (h2.block bt (hT.below hW2).lt (fun e => (row_block_apart hO2 (hT.below hW2) (by decide) (by rw [HL.out]; exact e.symm)) rfl))
        have hi1 : i ≤ L := k2
        go_wp2_with fail
        go_region_with (go_at_call 71; go_must (refine (HINS.out _ (((Below.refl _ wb).alloc (Nat.le_refl _) _).drew) (heap_alloc_new wb _)).mono ?_); rintro e w3 ⟨v', rfl, hown, hfr, hnear, hTB⟩; obtain ⟨a', c', rfl⟩ := own_slice hown; have t3 := hTB.c2; have f3 := hTB.fz 2; have l3 := hTB.lt)
        all_goals
          go_wp2_with fail
          go_end0
          refine ⟨rfl, _, put_end hown hTB (by have := HL.out; omega), put_fr HA2.out.2.2.1 hfr HA2.out.2.2.2.1, near_R HA2.out.2.2.2.1 HA2.out.2.2.1.size hnear⟩
end Go.Proofs.Ytndlebopfojjeaa.U
