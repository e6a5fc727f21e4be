/-
  Adjust: the range over the map of marks, with deletes and stores.
-/
import Derived.Test.YtbgbhlnidabhnaaMAdj
namespace Go.Proofs.Ytbgbhlnidabhnaa.U
open Go.RowKit Go.ChangeMaps
set_option linter.unusedVariables false
set_option linter.unusedSimpArgs false
set_option maxRecDepth 100000

theorem wpl_delete_run {P : Program} {w : World} {ops : Array Oper} {rest : List Oper} {o : Oper} {a : Act} {Q : Exit → Act → World → Prop} (hgd : o.guard = none) (s x : Operand) (t k : TypeId)
    (ho : o.op = .call { callee := .builtin .delete, args := #[s, x], argTypes := #[t, k] }) (u y : Value) (hs : a.eval s = u) (hx : a.eval x = y) {v' : Value} {w' : World}
    (hr : (Builtin.delete_ #[t, k] o.type #[u, y]).run P w = .ok v' w') (h : wpList P ops Q rest (a.put o.dst v') w') : wpList P ops Q (o :: rest) a w := by
  refine wpList_plain hgd fun _ hK => ?_
  unfold Oper.wp execOp
  simp only [ho, resolve, invoke, builtin, Sem.run_bind, Sem.run_pure, Result.andThen_ok, List.map_toArray, List.map_cons, List.map_nil, hs, hx, hr]
  exact hK _ _ h

/-- the marks after those that were seen have been moved -/
def adjE (c : Ch) (seen : List Nat) (x : En) : Option En := if x.b ∈ seen then (moveP x.p c).map (fun q => { x with p := q }) else some x
def adjL (c : Ch) (seen : List Nat) (L : List En) : List En := L.filterMap (adjE c seen)
theorem adjE_rb {c : Ch} {seen : List Nat} {x y : En} (h : adjE c seen x = some y) : y.r = x.r ∧ y.b = x.b := by
  unfold adjE at h
  split at h
  · cases hm : moveP x.p c with
    | none => rw [hm] at h; cases h
    | some q =>
      rw [hm] at h
      simp only [Option.map_some, Option.some.injEq] at h
      subst h
      exact ⟨rfl, rfl⟩
  · cases h
    exact ⟨rfl, rfl⟩
theorem adjL_nil (c : Ch) (L : List En) : adjL c [] L = L := by
  unfold adjL adjE
  simp
theorem adjL_unseen {c : Ch} {seen : List Nat} {L : List En} {x : En} (h : x ∈ adjL c seen L) (hn : x.b ∉ seen) : x ∈ L := by
  unfold adjL at h
  obtain ⟨y, hy, e⟩ := List.mem_filterMap.1 h
  have hb := (adjE_rb e).2
  unfold adjE at e
  rw [if_neg (by rw [← hb]; exact hn)] at e
  cases e
  exact hy
theorem adjL_there {c : Ch} {seen : List Nat} {L : List En} {x : En} (h : x ∈ L) (hn : x.b ∉ seen) : x ∈ adjL c seen L :=
  List.mem_filterMap.2 ⟨x, h, by unfold adjE; rw [if_neg hn]⟩
theorem key_inj {L : List En} (hk : (L.map (·.r)).Nodup) {x y : En} (hx : x ∈ L) (hy : y ∈ L) (e : x.r = y.r) : x = y := by
  have hp := List.pairwise_iff_getElem.1 (List.pairwise_map.1 hk)
  obtain ⟨i, hi, rfl⟩ := List.getElem_of_mem hx
  obtain ⟨j, hj, rfl⟩ := List.getElem_of_mem hy
  rcases Nat.lt_trichotomy i j with q | q | q
  · exact absurd e (hp i j hi hj q)
  · subst q; rfl
  · exact absurd e.symm (hp j i hj hi q)
theorem born_inj {L : List En} (hk : (L.map (·.b)).Nodup) {x y : En} (hx : x ∈ L) (hy : y ∈ L) (e : x.b = y.b) : x = y := by
  have hp := List.pairwise_iff_getElem.1 (List.pairwise_map.1 hk)
  obtain ⟨i, hi, rfl⟩ := List.getElem_of_mem hx
  obtain ⟨j, hj, rfl⟩ := List.getElem_of_mem hy
  rcases Nat.lt_trichotomy i j with q | q | q
  · exact absurd e (hp i j hi hj q)
  · subst q; rfl
  · exact absurd e.symm (hp j i hj hi q)
theorem adjE_other {c : Ch} {seen : List Nat} {b : Nat} {y : En} (h : y.b ≠ b) : adjE c (seen ++ [b]) y = adjE c seen y := by
  unfold adjE
  simp [h]
theorem filterMap_congr' {α β : Type} {f g : α → Option β} : ∀ {l : List α}, (∀ x ∈ l, f x = g x) → l.filterMap f = l.filterMap g
  | [], _ => rfl
  | x :: t, h => by
    rw [List.filterMap_cons, List.filterMap_cons, h x (by simp), filterMap_congr' (fun y hy => h y (by simp [hy]))]
theorem adjL_del {c : Ch} {seen : List Nat} {L : List En} {x : En} (hx : x ∈ L) (hn : x.b ∉ seen) (hk : (L.map (·.r)).Nodup) (hb : (L.map (·.b)).Nodup) (hm : moveP x.p c = none) :
    (adjL c seen L).filter (fun y => y.r != x.r) = adjL c (seen ++ [x.b]) L := by
  unfold adjL
  rw [List.filter_filterMap]
  refine filterMap_congr' (fun y hy => ?_)
  by_cases e : y = x
  · subst e
    unfold adjE
    rw [if_neg hn, if_pos (by simp), hm]
    simp
  · rw [adjE_other (fun q => e (born_inj hb hy hx q))]
    cases hE : adjE c seen y with
    | none => rfl
    | some z =>
      have hz := (adjE_rb hE).1
      have : z.r ≠ x.r := by rw [hz]; exact fun q => e (key_inj hk hy hx q)
      simp [this]
theorem adjL_upd {c : Ch} {seen : List Nat} {L : List En} {x : En} {q : Po} {clock : Nat} (hx : x ∈ L) (hn : x.b ∉ seen) (hk : (L.map (·.r)).Nodup) (hb : (L.map (·.b)).Nodup) (hm : moveP x.p c = some q) :
    updL (adjL c seen L) x.r q clock = adjL c (seen ++ [x.b]) L := by
  unfold updL
  rw [if_pos (List.any_eq_true.2 ⟨x, adjL_there hx hn, by simp⟩)]
  unfold adjL
  rw [List.map_filterMap]
  refine filterMap_congr' (fun y hy => ?_)
  by_cases e : y = x
  · subst e
    unfold adjE
    rw [if_neg hn, if_pos (by simp), hm]
    simp
  · rw [adjE_other (fun q => e (born_inj hb hy hx q))]
    cases hE : adjE c seen y with
    | none => rfl
    | some z =>
      have hz := (adjE_rb hE).1
      have : z.r ≠ x.r := by rw [hz]; exact fun q => e (key_inj hk hy hx q)
      simp [this]
theorem adjL_any {c : Ch} {seen : List Nat} {L : List En} {x : En} (hx : x ∈ L) (hn : x.b ∉ seen) : (adjL c seen L).any (fun y => y.r == x.r) = true := List.any_eq_true.2 ⟨x, adjL_there hx hn, by simp⟩
theorem adjL_all {c : Ch} {seen : List Nat} {L : List En} (h : ∀ x ∈ adjL c seen L, x.b ∈ seen) : adjL c seen L = L.filterMap (fun x => (moveP x.p c).map (fun q => { x with p := q })) := by
  unfold adjL
  refine filterMap_congr' (fun y hy => ?_)
  unfold adjE
  rw [if_pos]
  exact Classical.byContradiction (fun hn => hn (h y (adjL_there hy hn)))
theorem adjL_perm {c : Ch} {L : List En} {ns : List (Int × Po)} (h : (L.map En.s).Perm ns) : ((L.filterMap (fun x => (moveP x.p c).map (fun q => ({ x with p := q } : En)))).map En.s).Perm (adjN ns c) := by
  have e : (L.filterMap (fun x => (moveP x.p c).map (fun q => ({ x with p := q } : En)))).map En.s = adjN (L.map En.s) c := by
    unfold adjN
    rw [List.map_filterMap, List.filterMap_map]
    refine filterMap_congr' (fun y hy => ?_)
    cases h : moveP y.p c <;> simp [En.s, h]
  rw [e]
  exact h.filterMap _

def seenN (w : World) (r : Nat) : Nat := match w.heap[r]? with
  | some (.mapIter _ _ s _) => s.size
  | _ => 0
/-- in the midst of the range: those of seen were moved -/
def AdS (c : Ch) (L : List En) (mb r clock : Nat) (wa wr : World) (seen : List Nat) : Prop := seen.Nodup ∧ (∀ b ∈ seen, b ∈ L.map (·.b)) ∧ wr.heap[r]? = some (.mapIter (some mb) clock seen.toArray clock) ∧ MapAt wr mb (adjL c seen L) clock ∧ Fr (fun k => k = mb ∨ k = r) wa wr
theorem AdS.next {c : Ch} {L : List En} {mb r clock : Nat} {wa wr w2 w4 : World} {seen : List Nat} {x : En} {L' : List En} (h : AdS c L mb r clock wa wr seen) (hx : x ∈ L) (hn : x.b ∉ seen) (hit : w2.heap[r]? = some (.mapIter (some mb) clock (seen ++ [x.b]).toArray clock)) (hf2 : Fr (fun k => k = r) wr w2) (hf4 : Fr (fun k => k = mb) w2 w4) (hrm : r ≠ mb) (hm : MapAt w4 mb L' clock) (hL : L' = adjL c (seen ++ [x.b]) L) : AdS c L mb r clock wa w4 (seen ++ [x.b]) := by
  obtain ⟨h1, h2, h3, h4, h5⟩ := h
  refine ⟨?_, ?_, (hf4.block r (heap_lt hit) hrm).trans hit, hL ▸ hm, (h5.trans hf2 (fun _ _ e => .inr e)).trans hf4 (fun _ _ e => .inl e)⟩
  · exact List.nodup_append.2 ⟨h1, by simp, fun a ha b hb e => hn (by rw [← List.mem_singleton.1 hb, ← e]; exact ha)⟩
  · intro b hb
    rcases List.mem_append.1 hb with q | q
    · exact h2 b q
    · rw [List.mem_singleton.1 q]
      exact List.mem_map.2 ⟨x, hx, rfl⟩
theorem AdS.seenN {c : Ch} {L : List En} {mb r clock : Nat} {wa wr : World} {seen : List Nat} (h : AdS c L mb r clock wa wr seen) : seenN wr r = seen.length := by
  unfold U.seenN
  rw [h.2.2.1]
  simp
theorem Po.v_mk (l c : Int) : Po.v ⟨l, c⟩ = .agg #[.int .i64 l, .int .i64 c] := rfl
theorem nodup_le {l A : List Nat} (hn : l.Nodup) (h : ∀ x ∈ l, x ∈ A) : l.length ≤ A.length := by
  induction l generalizing A with
  | nil => exact Nat.zero_le _
  | cons x t ih =>
    rw [List.nodup_cons] at hn
    have hx := h x (by simp)
    have := ih (A := A.erase x) hn.2 (fun y hy => (List.mem_erase_of_ne (fun e => hn.1 (by rw [← e]; exact hy))).2 (h y (by simp [hy])))
    rw [List.length_erase_of_mem hx] at this
    have := List.length_pos_of_mem hx
    simp
    omega

theorem AdS.le {c : Ch} {L : List En} {mb r clock : Nat} {wa wr : World} {seen : List Nat} (h : AdS c L mb r clock wa wr seen) : seen.length ≤ L.length := by
  have := nodup_le h.1 h.2.1
  simpa using this
set_option maxHeartbeats 2000000 in
theorem adjust_any {P F : Nat → Prop} {bt : Nat} {s : Ms} {B : Int} (c : Ch) (oa na : Option Addr) (oc nc : Nat) (w : World) (h : MkS P w bt s) (hok : s.ok B) (hB : B ≤ 1099511627776) (hn : RdL F w na c.now.length nc c.now) (hd : ∀ k, P k → ¬ F k) (hcb : ChB c) :
    Calls Try.prog 17 #[.pointer (some ⟨bt, 0, none⟩), .agg #[.int .i64 c.pos, .slice oa c.old.length oc, .slice na c.now.length nc]] w fun e w' => e = .returned (.tuple #[]) ∧ AfM P w w' bt (adjM s c) := by
  obtain ⟨wb, hwb⟩ : ∃ wb, w.alloc (.cells #[.int .i64 c.pos, .slice oa c.old.length oc, .slice na c.now.length nc] 26) = wb := ⟨_, rfl⟩
  have hbb : Below w.heap.size w wb := by rw [← hwb]; exact (Below.refl _ w).alloc (Nat.le_refl _) _
  have hcbk : wb.heap[w.heap.size]? = some (.cells #[.int .i64 c.pos, .slice oa c.old.length oc, .slice na c.now.length nc] 26 (0, 0)) := by rw [← hwb]; exact heap_alloc_new w _
  have hbsz : wb.heap.size = w.heap.size + 1 := by rw [← hwb]; simp
  have hlt := h.lt
  have HH := Lib.hid h
  obtain ⟨mb, ja, jc, L, clock, h1, h2, h3, h4, p1, p2, p3, p4⟩ := h.below hbb
  have hmb : mb < w.heap.size := hlt mb p2
  have hbt : bt < w.heap.size := hlt bt p1
  have e0 : wb.cell? ⟨bt, 0, none⟩ = some (.map (some mb)) := by rw [cell_row h1]; rfl
  have hrg := run_range_map (P := Try.prog) wb 58 _ _ mb _ clock Try.underlying58 h2.at_
  obtain ⟨wa, hwa⟩ : ∃ wa, wb.alloc (.mapIter (some mb) clock #[] clock) = wa := ⟨_, rfl⟩
  obtain ⟨r, hr⟩ : ∃ r, wb.heap.size = r := ⟨_, rfl⟩
  rw [hwa, hr] at hrg
  have hba : Below wb.heap.size wb wa := by rw [← hwa]; exact (Below.refl _ wb).alloc (Nat.le_refl _) _
  have HR : Hid (AdS c L mb r clock wa wa []) := by
    refine ⟨by simp, by simp, ?_, ?_, Fr.refl _ _⟩
    · rw [← hwa, ← hr]; exact heap_alloc_new wb _
    · rw [adjL_nil]
      exact h2.keep (hba.block mb (by omega))
  obtain ⟨cb, hcbe⟩ : ∃ cb, w.heap.size = cb := ⟨_, rfl⟩
  have hbtm : bt ≠ mb := by
    rintro rfl
    rw [h2.at_] at h1
    cases h1
  have hrmb : r ≠ mb := by omega
  have hrcb : r = cb + 1 := by omega
  have hsm : bt < cb ∧ mb < cb := by omega
  have HB := Lib.hid (And.intro hbb (And.intro hba (And.intro hcbe (And.intro hr (And.intro hbsz hrcb)))))
  have HK := Lib.hid (And.intro h1 (And.intro h2 (And.intro h3 (And.intro h4 (And.intro p3 hcbk)))))
  have HWB := Lib.hid hwb
  have HN := Lib.hid hn
  clear h1 h2 h3 h4 p3 hcbk hbb hba hbsz hr hwa hwb hn hmb hbt hrcb
  go_enter Try.func17, Try.ntmps17
  go_upto_region 1 with fail
  rw [HWB.out]
  clear hcbe
  go_wp2
  go_loopw [4] (fun _ wr => ∃ seen : List Nat, Hid (AdS c L mb r clock wa wr seen)) (fun _ wr => L.length - seenN wr r)
  case atStart => exact ⟨[], HR⟩
  case round =>
    obtain ⟨seen, HS⟩ := hrel
    clear HR
    have hit := HS.out.2.2.1
    have hm := HS.out.2.2.2.1
    have hms : seenN wr r = seen.length := by unfold seenN; rw [hit]; simp
    have HMS := Lib.hid hms
    clear hms
    have hfb : Fr (fun k => k = mb ∨ k = r) wb wr := (Fr.of_below (fun k => k = mb ∨ k = r) HB.out.2.1).trans HS.out.2.2.2.2 (fun _ _ h => h)
    have hfw : Fr (fun k => k = mb) w wr := (Fr.of_below (fun k => k = mb) HB.out.1).trans hfb (fun y hy e => e.resolve_right (by have := HB.out; omega))
    have hbtw : wr.heap[bt]? = some (.cells #[.map (some mb), .slice ja s.js.length jc, .int .i64 (s.ix : Nat)] 60 (0, 0)) := (hfb.block bt (heap_lt HK.out.1) (by have := HB.out; omega)).trans HK.out.1
    have hcw : wr.heap[cb]? = some (.cells #[.int .i64 c.pos, .slice oa c.old.length oc, .slice na c.now.length nc] 26 (0, 0)) := by
      have h9 := HK.out.2.2.2.2.2
      rw [HB.out.2.2.1] at h9
      exact (hfb.block cb (heap_lt h9) (by have := HB.out; omega)).trans h9
    have HF := Lib.hid (And.intro hfb (And.intro hfw (And.intro hbtw hcw)))
    have c2 : wr.cell? ⟨cb, 0, none⟩ = some (.int .i64 c.pos) := by rw [cell_row hcw]; rfl
    have c3 : wr.cell? ⟨cb, 1, none⟩ = some (.slice oa c.old.length oc) := by rw [cell_row hcw]; rfl
    have c4 : wr.cell? ⟨cb, 2, none⟩ = some (.slice na c.now.length nc) := by rw [cell_row hcw]; rfl
    clear hfb hfw hbtw hcw
    go_wp2_with (at_next; refine wpl_next_m rfl _ rfl r mb clock (adjL c seen L) seen rfl hit hm hrmb ?_ ?_)
    · intro hall
      obtain ⟨hfb, hfw, hbtw, hcw⟩ := HF.out
      obtain ⟨k1, k2, k3, k4, k5, k6⟩ := HK.out
      have hcl : cb < r := by have := HB.out; omega
      have hmk : MkS P wr bt ⟨adjN s.ns c, s.js, s.ix⟩ := by
        refine ⟨mb, ja, jc, adjL c seen L, clock, hbtw, hm, ?_, own_fr k4 hfb (fun k e => ?_), p1, p2, k5, fun k hk => Nat.lt_of_lt_of_le (p4 k hk) hfb.size⟩
        · rw [adjL_all hall]
          exact adjL_perm k3
        · rintro (rfl | rfl)
          · obtain ⟨cur, hc⟩ := own_heap k4 e
            rw [k2.at_] at hc
            cases hc
          · have := hlt _ (k5 _ e)
            have := HB.out
            omega
      have HJ := Lib.hid (adjJ_any c oa na oc nc wr hmk hok.len hok.ix hok.jumps hB (HN.out.frF hfw (fun k hk e => hd mb p2 (by rw [← e]; exact hk))) hd hcb)
      clear hfb hfw hbtw hcw k1 k2 k3 k4 k5 k6 hmk hall hit hm
      go_wp2_with (go_at_call 34; refine HJ.out.mono ?_; rintro e w9 ⟨rfl, hA⟩)
      go_end0
      obtain ⟨P', a1, a2, a3⟩ := hA
      obtain ⟨hfb, hfw, hbtw, hcw⟩ := HF.out
      exact ⟨rfl, P', a1, (hfw.mono (fun y _ e => by rw [e]; exact p2)).trans a2 (fun _ _ h => h), fun k hk => (a3 k hk).imp id (fun h => Nat.le_trans hfw.size h)⟩
    · intro x hx hxs w2 hit2 hf2 hz2 hen
      have hxL := adjL_unseen hx hxs
      have hokp : okP B x.p := hok.marks (En.s x) (HK.out.2.2.1.mem_iff.1 (List.mem_map.2 ⟨x, hxL, rfl⟩))
      have hxw : (Lit.int .i32 x.r).wf = true := HK.out.2.1.wf x hxL
      have hkn := HK.out.2.1.keys
      have hbn := HK.out.2.1.borns
      obtain ⟨hfb, hfw, hbtw, hcw⟩ := HF.out
      have hfw2 : Fr (fun k => k = mb) w w2 := hfw.trans hf2 (fun y hy e => by have := HB.out; omega)
      have hcr : cb ≠ r := by have := HB.out; omega
      have hbr : bt ≠ r := by have := HB.out; omega
      have hbt2 := (hf2.block bt (heap_lt hbtw) hbr).trans hbtw
      have hcb2 := (hf2.block cb (heap_lt hcw) hcr).trans hcw
      have e2 : w2.cell? ⟨bt, 0, none⟩ = some (.map (some mb)) := by rw [cell_row hbt2]; rfl
      have d2 : w2.cell? ⟨cb, 0, none⟩ = some (.int .i64 c.pos) := by rw [cell_row hcb2]; rfl
      have d3 : w2.cell? ⟨cb, 1, none⟩ = some (.slice oa c.old.length oc) := by rw [cell_row hcb2]; rfl
      have d4 : w2.cell? ⟨cb, 2, none⟩ = some (.slice na c.now.length nc) := by rw [cell_row hcb2]; rfl
      have hbl2 : bt < w2.heap.size := heap_lt hbt2
      have hcl2 : cb < w2.heap.size := heap_lt hcb2
      have hm2 : MapAt w2 mb (adjL c seen L) clock := hm.keep (hf2.block mb hm.lt (fun e => hrmb e.symm))
      have hmv1 : ∀ W, Fr (fun k => k = mb) w W → Calls Try.prog 9 #[x.p.v, .agg #[.int .i64 c.pos, .slice oa c.old.length oc, .slice na c.now.length nc]] W fun e w' => e = .returned (ansV (moveP x.p c)) ∧ Below W.heap.size W w' :=
        fun W hf => move_any x.p c oa na oc nc F W (HN.out.frF hf (fun k hk e => hd mb p2 (by rw [← e]; exact hk))) (nearM_ok hokp hB hcb) (ccb_ok hokp)
      obtain ⟨xr, ⟨pl, pc⟩, xb⟩ := x
      simp only [Po.v_mk] at hen hmv1 ⊢
      have HX := Lib.hid (And.intro hxL (And.intro hkn (And.intro hbn hxw)))
      have HX2 := Lib.hid (And.intro hit2 (And.intro hf2 (And.intro hm2 hbt2)))
      clear hxL hkn hbn hxw hit2 hf2 hm2 hbt2 hcb2 hfb hfw hbtw hcw hz2 hx hokp hit hm c2 c3 c4
      have hb0 : Below w2.heap.size w2 (w2.alloc (.cells #[.int .i64 pl, .int .i64 pc] 23)) := (Below.refl _ w2).alloc (Nat.le_refl _) _
      rcases hmp : moveP ⟨pl, pc⟩ c with _ | ⟨ql, qc⟩
      · simp only [hmp, ansV_none] at hmv1
        have HMP := Lib.hid hmp
        clear hmp
        go_upto_if 27 with (go_at_call 9; refine (hmv1 _ (hfw2.alloc _)).mono ?_; rintro e w3 ⟨rfl, hb3⟩)
        obtain ⟨tb, htb⟩ : ∃ tb, w3.heap.size = tb := ⟨_, rfl⟩
        obtain ⟨w4, hw4⟩ : ∃ w4, w3.alloc (.cells #[.int .i64 0, .int .i64 0] 23) = w4 := ⟨_, rfl⟩
        have hb4 : Below w2.heap.size w2 w4 := by rw [← hw4]; exact hb0.trans ((hb3.mono (by simp)).alloc (Nat.le_trans (by simp) hb3.size) _)
        have k0 : w4.cell? ⟨tb, 0, none⟩ = some (.int .i64 0) := by rw [← hw4, ← htb, cell_row (heap_alloc_new w3 _)]; rfl
        have k1 : w4.cell? ⟨tb, 1, none⟩ = some (.int .i64 0) := by rw [← hw4, ← htb, cell_row (heap_alloc_new w3 _)]; rfl
        have e4 : w4.cell? ⟨bt, 0, none⟩ = some (.map (some mb)) := (hb4.cell (p := ⟨bt, 0, none⟩) hbl2).trans e2
        obtain ⟨hxL, hkn, hbn, hxw⟩ := HX.out
        obtain ⟨hit2, hf2, hm2, hbt2⟩ := HX2.out
        have hm4 : MapAt w4 mb (adjL c seen L) clock := hm2.keep (hb4.block mb hm2.lt)
        have HW4 := Lib.hid (And.intro hw4 htb)
        obtain ⟨w5, hrun, hm5, hf5, hs5⟩ := hm4.del hxw
        have HNX := Lib.hid (HS.out.next hxL hxs hit2 hf2 ((Fr.of_below (fun k => k = mb) hb4).trans hf5 (fun _ _ h => h)) hrmb hm5 (adjL_del hxL hxs hkn hbn HMP.out))
        rw [hw4, htb]
        clear hw4 htb hb4 hm4 hxL hkn hbn hxw hit2 hf2 hm2 hbt2 hm5 hf5 hs5
        go_wp2
        go_roundw
        case rel => exact ⟨seen ++ [xb], HNX⟩
        case measure =>
          have h1 := HNX.out.seenN
          have h2 := HS.out.seenN
          have h3 := HNX.out.le
          rw [h1, h2]
          simp at *
          omega
      · simp only [hmp, ansV_some] at hmv1
        have HMP := Lib.hid hmp
        clear hmp
        go_upto_if 27 with (go_at_call 9; refine (hmv1 _ (hfw2.alloc _)).mono ?_; rintro e w3 ⟨rfl, hb3⟩)
        obtain ⟨tb, htb⟩ : ∃ tb, w3.heap.size = tb := ⟨_, rfl⟩
        obtain ⟨w4, hw4⟩ : ∃ w4, w3.alloc (.cells #[.int .i64 ql, .int .i64 qc] 23) = w4 := ⟨_, rfl⟩
        have hb4 : Below w2.heap.size w2 w4 := by rw [← hw4]; exact hb0.trans ((hb3.mono (by simp)).alloc (Nat.le_trans (by simp) hb3.size) _)
        have k0 : w4.cell? ⟨tb, 0, none⟩ = some (.int .i64 ql) := by rw [← hw4, ← htb, cell_row (heap_alloc_new w3 _)]; rfl
        have k1 : w4.cell? ⟨tb, 1, none⟩ = some (.int .i64 qc) := by rw [← hw4, ← htb, cell_row (heap_alloc_new w3 _)]; rfl
        have e4 : w4.cell? ⟨bt, 0, none⟩ = some (.map (some mb)) := (hb4.cell (p := ⟨bt, 0, none⟩) hbl2).trans e2
        obtain ⟨hxL, hkn, hbn, hxw⟩ := HX.out
        obtain ⟨hit2, hf2, hm2, hbt2⟩ := HX2.out
        have hm4 : MapAt w4 mb (adjL c seen L) clock := hm2.keep (hb4.block mb hm2.lt)
        have HW4 := Lib.hid (And.intro hw4 htb)
        obtain ⟨w5, clock', hrun, hm5, hf5, hs5, hcl⟩ := (⟨hm4.at_, hm4.keys, hm4.borns, hm4.young, hm4.wf⟩ : MapAt w4.drew mb (adjL c seen L) clock).upd hxw ⟨ql, qc⟩
        obtain rfl := hcl (adjL_any hxL hxs)
        have HNX := Lib.hid (HS.out.next hxL hxs hit2 hf2 ((Fr.of_below (fun k => k = mb) hb4).drew.trans hf5 (fun _ _ h => h)) hrmb hm5 (adjL_upd hxL hxs hkn hbn HMP.out))
        have hrun : (Instr.mapUpdate 58 (.map (some mb)) (.int .i32 xr) (.agg #[.int .i64 ql, .int .i64 qc])).run Try.prog w4.drew = .ok () w5 := hrun
        rw [hw4, htb]
        clear hw4 htb hb4 hm4 hxL hkn hbn hxw hit2 hf2 hm2 hbt2 hm5 hf5 hs5 hcl
        go_wp2
        go_region
        all_goals go_wp2
        all_goals go_roundw
        case rel => exact ⟨seen ++ [xb], HNX⟩
        case measure =>
          have h1 := HNX.out.seenN
          have h2 := HS.out.seenN
          have h3 := HNX.out.le
          rw [h1, h2]
          simp at *
          omega
end Go.Proofs.Ytbgbhlnidabhnaa.U
